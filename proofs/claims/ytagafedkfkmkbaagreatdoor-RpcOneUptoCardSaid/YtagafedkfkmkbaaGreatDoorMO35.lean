/- The program's request. Conditions: such as Go can hold; a method of at most 10000 bytes. -/
import Derived.Test.YtagafedkfkmkbaaGreatDoorMO34
import Derived.Test.YtagafedkfkmkbaaGreatDoorMO10
namespace Go.Proofs.YtagafedkfkmkbaaGreatDoor
open Go Go.RowKit Go.Lib

def requestT (F : ByteArray) (k : Nat) (x : ByteArray) (l f : V.T) (k2 : Nat) (x2 : ByteArray) (l2 f2 : V.T) : V.T := treeOf (verF :: idF k x (.slice none 0 0) (.slice none 0 0) l f :: calledE F k2 x2 (.slice none 0 0) (.slice none 0 0) l2 f2)
theorem request_tree (F : ByteArray) (k : Nat) (x : ByteArray) (v u : Value) (l f : V.T) (k2 : Nat) (x2 : ByteArray) (v2 u2 : Value) (l2 f2 : V.T) : treeOf (verF :: idF k x v u l f :: calledE F k2 x2 v2 u2 l2 f2) = requestT F k x l f k2 x2 l2 f2 := by
  unfold requestT calledE
  split <;> rfl
def QS (N : Nat) (k : Nat) (x : ByteArray) (v u : Value) (k2 : Nat) (x2 : ByteArray) (v2 u2 : Value) (X : World) : Prop := Box4 X N (.int .u8 k) (.string x) v u ∧ Box4 X (N + 1) (.int .u8 k2) (.string x2) v2 u2
theorem TwoSt.qs {w : World} {k : Nat} {x : ByteArray} {v u : Value} {l f : V.T} {k2 : Nat} {x2 : ByteArray} {v2 u2 : Value} {l2 f2 : V.T} {W : World} (h : TwoSt w k x v u l f k2 x2 v2 u2 l2 f2 W) : QS w.heap.size k x v u k2 x2 v2 u2 W := ⟨h.b0.box, h.b1.box⟩
structure Rq4 (w : World) (v : Value) (es : List Fe) (W : World) : Prop where
  below : Below w.heap.size w W
  b2 : Blk4 W (w.heap.size + 2) 25 (.int .u8 0) (.string ⟨#[]⟩) (.slice none 0 0) (.slice none 0 0)
  li : Lies W v es
theorem Rq4.on {w : World} {v : Value} {es : List Fe} {W W' : World} (h : Rq4 w v es W) (hB : Below W.heap.size W W') : Rq4 w v es W' :=
  ⟨h.below.trans (hB.mono h.below.size), h.b2.same (hB.block _ h.b2.lt), h.li.below hB⟩
theorem TwoSt.app {w : World} {k : Nat} {x : ByteArray} {v u : Value} {l f : V.T} {k2 : Nat} {x2 : ByteArray} {v2 u2 : Value} {l2 f2 : V.T} {W w4 : World} (h : TwoSt w k x v u l f k2 x2 v2 u2 l2 f2 W) {es : List Fe} {n g1 g c : Nat} (hn : n = (idF k x v u l f :: es).length)
    (own : W.ownsRow (w.heap.size + 3) 109 5 (.slice (some ⟨g1, 0, none⟩) 1 1) 1 (cellsOf [idF k x v u l f])) (own4 : w4.ownsRow (w.heap.size + 3) 109 5 (.slice (some ⟨g, 0, none⟩) n c) n (cellsOf (idF k x v u l f :: es))) (hg : W.grownBy w4 (some g1)) :
    Rq4 w (.slice (some ⟨g, 0, none⟩) n c) (idF k x v u l f :: es) w4 := by
  have h1 := (own.lt g1 rfl).1
  exact ⟨h.below.grown hg (by have := h.size; omega) (fun k hk => by cases hk; omega), h.b2.same (hg.block _ h.b2.lt (fun e => by cases e; omega)), lies_owned hn own4⟩

set_option maxHeartbeats 4000000 in
set_option maxRecDepth 100000 in
theorem request_any (s : ByteArray) (k : Nat) (x : ByteArray) (v u : Value) (l f : V.T) (k2 : Nat) (x2 : ByteArray) (v2 u2 : Value) (l2 f2 : V.T) (A A2 : Nat → Prop) (w : World) (hs : s.size ≤ 1000000000000) (hk : Fit ⟨#[]⟩ k x) (hk2 : Fit ⟨#[]⟩ k2 x2) (hl : HS w A 0 v l) (hf : HS w A 1 u f) (hl2 : HS w A2 0 v2 l2) (hf2 : HS w A2 1 u2 f2) (hT : Tabs w) :
    Calls Tryz.prog 25 #[.agg #[.int .u8 k, .string x, v, u], .string s, .agg #[.int .u8 k2, .string x2, v2, u2]] w (Own4G 6 ⟨#[]⟩ .nil (requestT (U.fixS s) k x l f k2 x2 l2 f2) w) := by
  obtain ⟨i0, hi0, hz0, hz1, hz2⟩ := info_parts infoField
  have H0 := Lib.hid (TwoSt.start (k := k) (x := x) (k2 := k2) (x2 := x2) hl hf hl2 hf2)
  have hz : (U.fixS s).size ≤ 3000000000000 := by have := U.fix_size s; omega
  obtain ⟨p, c, rfl, -⟩ := hl.len
  obtain ⟨q, d, rfl, -⟩ := hf.len
  obtain ⟨p', c', rfl, -⟩ := hl2.len
  obtain ⟨q', d', rfl, -⟩ := hf2.len
  have HC := Lib.hid (fun W (h : TwoSt w k x (.slice p l.len c) (.slice q f.len d) l f k2 x2 (.slice p' l2.len c') (.slice q' f2.len d') l2 f2 W) => called_any s k2 x2 (.slice p' l2.len c') (.slice q' f2.len d') l2 f2 (fun _ => True) W hs h.l2 h.f2 (tabs_below hT h.below))
  have HOK := Lib.hid (fun W (h : Below w.heap.size w W) => calledE_ok (F := U.fixS s) (w := W) (by omega) hk2 (hl2.below h) (hf2.below h))
  have hma := fun W (v : Value) (n : Nat) (pp : Option Addr) cc (hv : v = .slice pp n cc) (hn : n = (idF k x (.slice p l.len c) (.slice q f.len d) l f :: calledE (U.fixS s) k2 x2 (.slice p' l2.len c') (.slice q' f2.len d') l2 f2).length) (h : Rq4 w v (idF k x (.slice p l.len c) (.slice q f.len d) l f :: calledE (U.fixS s) k2 x2 (.slice p' l2.len c') (.slice q' f2.len d') l2 f2) W) => made_any pp n cc _ (fun _ => True) W hn (by have := calledE_len (U.fixS s) k2 x2 (.slice p' l2.len c') (.slice q' f2.len d') l2 f2; rw [hn, List.length_cons]; omega) (hv ▸ h.li) (fun e he => by
    rcases List.mem_cons.1 he with rfl | he
    · exact ⟨(hl.below h.below).mono (fun _ _ _ => trivial), (hf.below h.below).mono (fun _ _ _ => trivial), hk.1, hk.2.1, by show (2 : Nat) ≤ _; decide⟩
    · exact (HOK.out W h.below e he).mono (fun _ _ _ => trivial)) (tabs_below hT h.below)
  simp only [request_tree] at hma
  have HMA := Lib.hid hma
  have HLN := Lib.hid (calledE_len (U.fixS s) k2 x2 (.slice p' l2.len c') (.slice q' f2.len d') l2 f2)
  clear hl hf hl2 hf2 hT hk hk2 hma hs hz
  generalize U.fixS s = F at *
  generalize requestT F k x l f k2 x2 l2 f2 = T at *
  generalize calledE F k2 x2 (.slice p' l2.len c') (.slice q' f2.len d') l2 f2 = es at *
  go_enter Tryz.func25, Tryz.ntmps25
  go_wp2_with fail
  have hN : (((w.alloc (.cells #[.int .u8 k, .string x, .slice p l.len c, .slice q f.len d] 25)).alloc (.cells #[.int .u8 k2, .string x2, .slice p' l2.len c', .slice q' f2.len d'] 25)).alloc (.cells #[.int .u8 0, .string ⟨#[]⟩, .slice none 0 0, .slice none 0 0] 25)).heap.size = w.heap.size + 3 := by simp
  generalize ((w.alloc (.cells #[.int .u8 k, .string x, .slice p l.len c, .slice q f.len d] 25)).alloc (.cells #[.int .u8 k2, .string x2, .slice p' l2.len c', .slice q' f2.len d'] 25)).alloc (.cells #[.int .u8 0, .string ⟨#[]⟩, .slice none 0 0, .slice none 0 0] 25) = W0 at *
  have HN := Lib.hid hN
  clear hN
  have HD := Lib.hid (H0.out.on (Below.refl W0.heap.size W0).drew)
  have HS0 := Lib.hid HD.out.qs
  refine wp_region_late (S := QS w.heap.size k x (.slice p l.len c) (.slice q f.len d) k2 x2 (.slice p' l2.len c') (.slice q' f2.len d')) (zs := [6, 7, 8]) (by kernel_rfl) ?_
  refine wpAnyL_take (v := ?_) 0 rfl (by kernel_rfl) (by kernel_rfl) (by kernel_rfl) (fun _ _ _ h => h) (by kernel_rfl) (by kernel_rfl) HS0.out (by rfl) (fun X hX => ?_) ?_
  rotate_left
  · obtain ⟨⟨s0, s1, s2, s3⟩, r0, r1, r2, r3⟩ := hX
    go_simp
    try with_reducible rfl
  try simp only [Act.put, List.setIfInBounds_toArray, List.set_cons_zero, List.set_cons_succ]
  refine wpAnyL_take (v := ?_) 1 rfl (by kernel_rfl) (by kernel_rfl) (by kernel_rfl) (fun _ _ _ h => h) (by kernel_rfl) (by kernel_rfl) HS0.out (by rfl) (fun X hX => ?_) ?_
  rotate_left
  · obtain ⟨⟨s0, s1, s2, s3⟩, r0, r1, r2, r3⟩ := hX
    go_simp
    try with_reducible rfl
  try simp only [Act.put, List.setIfInBounds_toArray, List.set_cons_zero, List.set_cons_succ]
  refine wpAnyL_take (v := ?_) 3 rfl (by kernel_rfl) (by kernel_rfl) (by kernel_rfl) (fun _ _ _ h => h) (by kernel_rfl) (by kernel_rfl) HS0.out (by rfl) (fun X hX => ?_) ?_
  rotate_left
  · obtain ⟨⟨s0, s1, s2, s3⟩, r0, r1, r2, r3⟩ := hX
    go_simp
    try with_reducible rfl
  try simp only [Act.put, List.setIfInBounds_toArray, List.set_cons_zero, List.set_cons_succ]
  refine wpAnyL_take (v := ?_) 4 rfl (by kernel_rfl) (by kernel_rfl) (by kernel_rfl) (fun _ _ _ h => h) (by kernel_rfl) (by kernel_rfl) HS0.out (by rfl) (fun X hX => ?_) ?_
  rotate_left
  · obtain ⟨⟨s0, s1, s2, s3⟩, r0, r1, r2, r3⟩ := hX
    go_simp
    try with_reducible rfl
  try simp only [Act.put, List.setIfInBounds_toArray, List.set_cons_zero, List.set_cons_succ]
  refine wpAnyL_two 2 5 (by kernel_rfl) rfl rfl (fun K hK => ?_) (fun K hK => ?_)
  · go_simp
    have hBa := ((Below.refl W0.heap.size W0).alloc (Nat.le_refl _) (.cells #[.string ⟨#[105, 100]⟩, .int .u8 k, .string x, .slice p l.len c, .slice q f.len d] 109)).drew
    have O1 := ownsRow_below (owns_new (w := W0) (cs := #[.string ⟨#[105, 100]⟩, .int .u8 k, .string x, .slice p l.len c, .slice q f.len d]) (es := [idF k x (.slice p l.len c) (.slice q f.len d) l f]) (t := 109) (n := 1) rfl rfl (by decide) (w.heap.size + 3) (by rw [HN.out]; exact Nat.le_refl _)) (Below.refl _ _).drew
    have H1 := H0.out.on hBa
    refine hK.out _ _ (fun _ => H1.qs) ?_
    try simp only [Act.put, List.setIfInBounds_toArray, List.set_cons_zero, List.set_cons_succ]
    clear hK K hBa
    generalize (W0.alloc (.cells #[.string ⟨#[105, 100]⟩, .int .u8 k, .string x, .slice p l.len c, .slice q f.len d] 109)).drew = W1 at *
    generalize W0.heap.size = g1 at *
    refine wpAnyL_op 5 (by kernel_rfl) rfl (fun K hK => ?_)
    go_simp
    go_at_call 86
    (with_reducible refine (HC.out _ H1).mono ?_)
    rintro e W2 ⟨g2, c2, rfl, -, L2, hB2⟩
    have H2 := H1.on hB2
    have O2 := ownsRow_below O1 hB2
    clear O1 H1 hB2
    refine hK.out _ _ (fun _ => H2.qs) ?_
    try simp only [Act.put, List.setIfInBounds_toArray, List.set_cons_zero, List.set_cons_succ]
    clear hK K
    have hlen := HLN.out
    refine wpAnyL_op 6 (by kernel_rfl) rfl (fun K hK => ?_)
    refine step_append_lies _ (by rfl) _ _ _ (by rfl) (w.heap.size + 3) 109 i0 _ 5 88 Tryz.underlying23 hi0 hz0 hz1 hz2 rfl (by omega) (.slice (some ⟨g1, 0, none⟩) 1 1) 1 (cellsOf [idF k x (.slice p l.len c) (.slice q f.len d) l f]) (by rfl) O2 ⟨g2, 0, none⟩ es.length c2 (cellsOf es) (by rfl) (cellsOf_len _) L2.news (cellsOf_one es (HOK.out _ H2.below)) (by omega) (by unfold maxLen; omega) (by omega) H2.size W2.heap.size rfl ?_
    intro g cap w4 own4 hg4 hat4 _
    have H4 := Lib.hid (H2.app (es := es) (n := 1 + es.length) (by rw [List.length_cons]; omega) O2 own4 hg4)
    clear own4 hg4 hat4 O2 L2 H2
    have b2 : Blk4 w4 (w.heap.size + 1 + 1) 25 _ _ _ _ := H4.out.b2
    refine hK.out _ _ (fun e => absurd e (by decide)) ?_
    try simp only [Act.put, List.setIfInBounds_toArray, List.set_cons_zero, List.set_cons_succ]
    clear hK K b2
    refine wpAnyL_op 7 (by kernel_rfl) rfl (fun K hK => ?_)
    go_simp
    go_at_call 85
    refine (HMA.out w4 _ _ _ _ rfl (by rw [List.length_cons]; omega) H4.out).mono ?_
    rintro e w5 ⟨v5, u5, rfl, hl5, hf5, hB5⟩
    have H5 := Lib.hid (H4.out.on hB5)
    have hs4 : w.heap.size + 3 ≤ w4.heap.size := by have := H4.out.b2.lt; omega
    obtain ⟨p5, c5, rfl, -⟩ := hl5.len
    obtain ⟨q5, d5, rfl, -⟩ := hf5.len
    refine hK.out _ _ (fun e => absurd e (by decide)) ?_
    try simp only [Act.put, List.setIfInBounds_toArray, List.set_cons_zero, List.set_cons_succ]
    clear hK K
    have b5 : Blk4 w5 (w.heap.size + 1 + 1) 25 _ _ _ _ := H5.out.b2
    obtain ⟨y0, y1, y2, y3⟩ := b5.box
    have f5 := b5.free
    have HB5 := Lib.hid b5
    clear b5
    refine wpAnyL_op 8 (by kernel_rfl) rfl (fun K hK => ?_)
    go_simp
    refine hK.out _ _ (fun e => absurd e (by decide)) ?_
    try simp only [Act.put, List.setIfInBounds_toArray, List.set_cons_zero, List.set_cons_succ]
    clear hK K
    obtain ⟨k1, k4, k3⟩ := HB5.out.all (.int .u8 6) (.string ⟨#[]⟩) (.slice p5 V.T.nil.len c5) (.slice q5 T.len d5)
    have hw3 := set4_else w5 (w.heap.size + 1 + 1) (.int .u8 6) (.string ⟨#[]⟩) (.slice p5 V.T.nil.len c5) (.slice q5 T.len d5)
    have k3' := k3 w.heap.size (by omega)
    clear y0 y1 y2 y3 f5
    generalize (((w5.setCell ⟨w.heap.size + 1 + 1, 0, none⟩ (.int .u8 6)).setCell ⟨w.heap.size + 1 + 1, 1, none⟩ (.string ⟨#[]⟩)).setCell ⟨w.heap.size + 1 + 1, 2, none⟩ (.slice p5 V.T.nil.len c5)).setCell ⟨w.heap.size + 1 + 1, 3, none⟩ (.slice q5 T.len d5) = w6 at *
    obtain ⟨y0, y1, y2, y3⟩ := k1.box
    have keep : ∀ b, w4.heap.size ≤ b → b < w5.heap.size → w6.heap[b]? = w5.heap[b]? := fun b hb _ => hw3 b (by omega)
    refine wpAnyL_end (by kernel_rfl) ?_
    go_wp2_with fail
    refine bodyPost_ret (v := .agg #[.int .u8 6, .string ⟨#[]⟩, .slice p5 V.T.nil.len c5, .slice q5 T.len d5]) (by simp [results, Tryz.results25, go_sem, y0, y1, y2, y3]) rfl ?_
    exact ⟨_, _, rfl, hl5.fre (fun b hb => by omega) keep, hf5.fre (fun b hb => by omega) keep, H5.out.below.trans k3'⟩
  · go_simp
    go_at_call 86
    (with_reducible refine (HC.out _ HD.out).mono ?_)
    rintro e W1 ⟨g2, c2, rfl, -, L1, hB1⟩
    have H1 := HD.out.on hB1
    refine hK.out _ _ (fun _ => H1.qs) ?_
    try simp only [Act.put, List.setIfInBounds_toArray, List.set_cons_zero, List.set_cons_succ]
    clear hK K
    refine wpAnyL_op 2 (by kernel_rfl) rfl (fun K hK => ?_)
    go_simp
    have hBa := (Below.refl W1.heap.size W1).alloc (Nat.le_refl _) (.cells #[.string ⟨#[105, 100]⟩, .int .u8 k, .string x, .slice p l.len c, .slice q f.len d] 109)
    have O2 := owns_new (w := W1) (cs := #[.string ⟨#[105, 100]⟩, .int .u8 k, .string x, .slice p l.len c, .slice q f.len d]) (es := [idF k x (.slice p l.len c) (.slice q f.len d) l f]) (t := 109) (n := 1) rfl rfl (by decide) (w.heap.size + 3) H1.size
    have H2 := H1.on hBa
    have L2 := L1.below hBa
    refine hK.out _ _ (fun _ => H2.qs) ?_
    try simp only [Act.put, List.setIfInBounds_toArray, List.set_cons_zero, List.set_cons_succ]
    clear hK K hBa L1 H1 hB1
    generalize W1.alloc (.cells #[.string ⟨#[105, 100]⟩, .int .u8 k, .string x, .slice p l.len c, .slice q f.len d] 109) = W2 at *
    generalize W1.heap.size = g1 at *
    have hlen := HLN.out
    refine wpAnyL_op 6 (by kernel_rfl) rfl (fun K hK => ?_)
    refine step_append_lies _ (by rfl) _ _ _ (by rfl) (w.heap.size + 3) 109 i0 _ 5 88 Tryz.underlying23 hi0 hz0 hz1 hz2 rfl (by omega) (.slice (some ⟨g1, 0, none⟩) 1 1) 1 (cellsOf [idF k x (.slice p l.len c) (.slice q f.len d) l f]) (by rfl) O2 ⟨g2, 0, none⟩ es.length c2 (cellsOf es) (by rfl) (cellsOf_len _) L2.news (cellsOf_one es (HOK.out _ H2.below)) (by omega) (by unfold maxLen; omega) (by omega) H2.size W2.heap.size rfl ?_
    intro g cap w4 own4 hg4 hat4 _
    have H4 := Lib.hid (H2.app (es := es) (n := 1 + es.length) (by rw [List.length_cons]; omega) O2 own4 hg4)
    clear own4 hg4 hat4 O2 L2 H2
    have b2 : Blk4 w4 (w.heap.size + 1 + 1) 25 _ _ _ _ := H4.out.b2
    refine hK.out _ _ (fun e => absurd e (by decide)) ?_
    try simp only [Act.put, List.setIfInBounds_toArray, List.set_cons_zero, List.set_cons_succ]
    clear hK K b2
    refine wpAnyL_op 7 (by kernel_rfl) rfl (fun K hK => ?_)
    go_simp
    go_at_call 85
    refine (HMA.out w4 _ _ _ _ rfl (by rw [List.length_cons]; omega) H4.out).mono ?_
    rintro e w5 ⟨v5, u5, rfl, hl5, hf5, hB5⟩
    have H5 := Lib.hid (H4.out.on hB5)
    have hs4 : w.heap.size + 3 ≤ w4.heap.size := by have := H4.out.b2.lt; omega
    obtain ⟨p5, c5, rfl, -⟩ := hl5.len
    obtain ⟨q5, d5, rfl, -⟩ := hf5.len
    refine hK.out _ _ (fun e => absurd e (by decide)) ?_
    try simp only [Act.put, List.setIfInBounds_toArray, List.set_cons_zero, List.set_cons_succ]
    clear hK K
    have b5 : Blk4 w5 (w.heap.size + 1 + 1) 25 _ _ _ _ := H5.out.b2
    obtain ⟨y0, y1, y2, y3⟩ := b5.box
    have f5 := b5.free
    have HB5 := Lib.hid b5
    clear b5
    refine wpAnyL_op 8 (by kernel_rfl) rfl (fun K hK => ?_)
    go_simp
    refine hK.out _ _ (fun e => absurd e (by decide)) ?_
    try simp only [Act.put, List.setIfInBounds_toArray, List.set_cons_zero, List.set_cons_succ]
    clear hK K
    obtain ⟨k1, k4, k3⟩ := HB5.out.all (.int .u8 6) (.string ⟨#[]⟩) (.slice p5 V.T.nil.len c5) (.slice q5 T.len d5)
    have hw3 := set4_else w5 (w.heap.size + 1 + 1) (.int .u8 6) (.string ⟨#[]⟩) (.slice p5 V.T.nil.len c5) (.slice q5 T.len d5)
    have k3' := k3 w.heap.size (by omega)
    clear y0 y1 y2 y3 f5
    generalize (((w5.setCell ⟨w.heap.size + 1 + 1, 0, none⟩ (.int .u8 6)).setCell ⟨w.heap.size + 1 + 1, 1, none⟩ (.string ⟨#[]⟩)).setCell ⟨w.heap.size + 1 + 1, 2, none⟩ (.slice p5 V.T.nil.len c5)).setCell ⟨w.heap.size + 1 + 1, 3, none⟩ (.slice q5 T.len d5) = w6 at *
    obtain ⟨y0, y1, y2, y3⟩ := k1.box
    have keep : ∀ b, w4.heap.size ≤ b → b < w5.heap.size → w6.heap[b]? = w5.heap[b]? := fun b hb _ => hw3 b (by omega)
    refine wpAnyL_end (by kernel_rfl) ?_
    go_wp2_with fail
    refine bodyPost_ret (v := .agg #[.int .u8 6, .string ⟨#[]⟩, .slice p5 V.T.nil.len c5, .slice q5 T.len d5]) (by simp [results, Tryz.results25, go_sem, y0, y1, y2, y3]) rfl ?_
    exact ⟨_, _, rfl, hl5.fre (fun b hb => by omega) keep, hf5.fre (fun b hb => by omega) keep, H5.out.below.trans k3'⟩
end Go.Proofs.YtagafedkfkmkbaaGreatDoor
