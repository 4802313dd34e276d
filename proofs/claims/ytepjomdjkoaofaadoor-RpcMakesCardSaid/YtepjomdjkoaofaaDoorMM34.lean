/- The reference's request. Conditions: such as Go can hold; a method of at most 10000 bytes. -/
import Derived.Test.YtepjomdjkoaofaaDoorMM31
import Derived.Test.YtepjomdjkoaofaaDoorMM33
namespace Go.Proofs.YtepjomdjkoaofaaDoor
open Go Go.RowKit Go.Lib

theorem notice_len (F : ByteArray) (k : Nat) (x : ByteArray) (l f : V.T) : 2 ≤ (noticeT F k x l f).len ∧ (noticeT F k x l f).len ≤ 3 := by
  unfold noticeT
  rw [treeOf_len, List.length_cons]
  have := calledE_len F k x (.slice none 0 0) (.slice none 0 0) l f
  omega
theorem request_of {e0 : Fe} {rest : List Fe} {F : ByteArray} {k : Nat} {x : ByteArray} {l f : V.T} {k2 : Nat} {x2 : ByteArray} {l2 f2 : V.T} {v u : Value} (h : treeOf (e0 :: rest) = noticeT F k2 x2 l2 f2) : treeOf (e0 :: fe ⟨#[105, 100]⟩ k x l f v u :: rest) = requestT F k x l f k2 x2 l2 f2 := by
  unfold noticeT at h
  unfold requestT
  simp only [treeOf] at h ⊢
  injection h with h1 h2 h3 h4 h5 h6
  rw [h1, h2, h3, h4, h5, h6]
  rfl
def ZS (N : Nat) (k : Nat) (x : ByteArray) (v u : Value) (B8 g n cap : Nat) (e0 : Fe) (X : World) : Prop := Box4 X N (.int .u8 k) (.string x) v u ∧ X.cell? ⟨B8, 3, none⟩ = some (.slice (some ⟨g, 0, none⟩) n cap) ∧
  X.cell? ⟨g, 0, none⟩ = some (.string e0.nm) ∧ X.cell? ⟨g, 1, none⟩ = some (.int .u8 e0.k) ∧ X.cell? ⟨g, 2, none⟩ = some (.string e0.x) ∧ X.cell? ⟨g, 3, none⟩ = some e0.v ∧ X.cell? ⟨g, 4, none⟩ = some e0.u
/-- the notice at hand -/
structure ReqSt (w : World) (k : Nat) (x : ByteArray) (v u : Value) (B8 g n cap : Nat) (e0 : Fe) (rest : List Fe) (W : World) : Prop where
  below : Below w.heap.size w W
  b0 : Blk4 W w.heap.size 25 (.int .u8 k) (.string x) v u
  b2 : Blk4 W (w.heap.size + 1 + 1) 25 (.int .u8 0) (.string ⟨#[]⟩) (.slice none 0 0) (.slice none 0 0)
  b8 : Blk4 W B8 25 (.int .u8 6) (.string ⟨#[]⟩) (.slice none 0 0) (.slice (some ⟨g, 0, none⟩) n cap)
  li : Lies W (.slice (some ⟨g, 0, none⟩) n cap) (e0 :: rest)
  ok : ∀ e ∈ e0 :: rest, e.Ok W (fun b => w.heap.size + 3 ≤ b ∧ b < B8)
  lo : w.heap.size + 3 ≤ B8
theorem ReqSt.on {w : World} {k : Nat} {x : ByteArray} {v u : Value} {B8 g n cap : Nat} {e0 : Fe} {rest : List Fe} {W W' : World} (h : ReqSt w k x v u B8 g n cap e0 rest W) (hB : Below W.heap.size W W') : ReqSt w k x v u B8 g n cap e0 rest W' :=
  ⟨h.below.trans (hB.mono h.below.size), h.b0.same (hB.block _ h.b0.lt), h.b2.same (hB.block _ h.b2.lt), h.b8.same (hB.block _ h.b8.lt), h.li.below hB, fun e he => (h.ok e he).below hB, h.lo⟩
theorem ReqSt.cells {w : World} {k : Nat} {x : ByteArray} {v u : Value} {B8 g n cap : Nat} {e0 : Fe} {rest : List Fe} {W : World} (h : ReqSt w k x v u B8 g n cap e0 rest W) : ∀ j y, (cellsOf (e0 :: rest))[j]? = some y → W.cell? ⟨g, j, none⟩ = some y := by
  obtain ⟨b, c, e, _, _, _, h5⟩ := h.li
  cases e
  exact h5
theorem ReqSt.zs {w : World} {k : Nat} {x : ByteArray} {v u : Value} {B8 g n cap : Nat} {e0 : Fe} {rest : List Fe} {W : World} (h : ReqSt w k x v u B8 g n cap e0 rest W) : ZS w.heap.size k x v u B8 g n cap e0 W :=
  ⟨h.b0.box, h.b8.box.2.2.2, h.cells 0 _ rfl, h.cells 1 _ rfl, h.cells 2 _ rfl, h.cells 3 _ rfl, h.cells 4 _ rfl⟩
theorem ReqSt.news {w : World} {k : Nat} {x : ByteArray} {v u : Value} {B8 g n cap : Nat} {e0 : Fe} {rest : List Fe} {W : World} (h : ReqSt w k x v u B8 g n cap e0 rest W) : ∀ j y, (cellsOf rest)[j]? = some y → W.cell? ((⟨g, 5, none⟩ : Addr).add j) = some y := fun j y hy => by
  have hadd : (⟨g, 5, none⟩ : Addr).add j = ⟨g, 5 + j, none⟩ := by unfold Addr.add; split <;> simp_all
  rw [hadd]
  refine h.cells (5 + j) y ?_
  rw [show 5 + j = j + 5 by omega]
  exact hy

set_option maxHeartbeats 4000000 in
set_option maxRecDepth 100000 in
theorem refRequest_any (s : ByteArray) (k : Nat) (x : ByteArray) (v u : Value) (l f : V.T) (k2 : Nat) (x2 : ByteArray) (v2 u2 : Value) (l2 f2 : V.T) (A A2 : Nat → Prop) (w : World) (hs : s.size ≤ 10000) (hk : Fit ⟨#[]⟩ k x) (hk2 : Fit ⟨#[]⟩ k2 x2) (hl : HS w A 0 v l) (hf : HS w A 1 u f) (hl2 : HS w A2 0 v2 l2) (hf2 : HS w A2 1 u2 f2) (hm : l.size + f.size ≤ 1000000) (hm2 : l2.size + f2.size ≤ 1000000) :
    Calls Tryd.prog 15 #[.agg #[.int .u8 k, .string x, v, u], .string s, .agg #[.int .u8 k2, .string x2, v2, u2]] w (Own4 6 ⟨#[]⟩ .nil (requestT (U.fixS s) k x l f k2 x2 l2 f2) w) := by
  obtain ⟨i0, hi0, hz0, hz1, hz2⟩ := info_parts infoField
  have H0 := Lib.hid (TwoSt.start (k := k) (x := x) (k2 := k2) (x2 := x2) hl hf hl2 hf2)
  obtain ⟨p, c, rfl, -⟩ := hl.len
  obtain ⟨q, d, rfl, -⟩ := hf.len
  obtain ⟨p', c', rfl, -⟩ := hl2.len
  obtain ⟨q', d', rfl, -⟩ := hf2.len
  have HNO := Lib.hid (fun W (h : TwoSt w k x (.slice p l.len c) (.slice q f.len d) l f k2 x2 (.slice p' l2.len c') (.slice q' f2.len d') l2 f2 W) => refNotice_any s k2 x2 (.slice p' l2.len c') (.slice q' f2.len d') l2 f2 (fun _ => True) W hs hk2 h.l2 h.f2 hm2)
  have HFI := Lib.hid (fun W (h : Below w.heap.size w W) => field_any ⟨#[105, 100]⟩ k x (.slice p l.len c) (.slice q f.len d) l f A W hm (hl.below h) (hf.below h))
  have HK := Lib.hid hk
  obtain ⟨x0, x1, x2', x3⟩ := H0.out.b1.box
  clear hl hf hl2 hf2 hk hk2 hm hm2 hs
  generalize U.fixS s = F at *
  go_enter Tryd.func15, Tryd.ntmps15
  go_wp2_with fail
  clear x0 x1 x2' x3
  generalize ((w.alloc (.cells #[.int .u8 k, .string x, .slice p l.len c, .slice q f.len d] 25)).alloc (.cells #[.int .u8 k2, .string x2, .slice p' l2.len c', .slice q' f2.len d'] 25)).alloc (.cells #[.int .u8 0, .string ⟨#[]⟩, .slice none 0 0, .slice none 0 0] 25) = W0 at *
  refine (HNO.out _ H0.out).mono ?_
  rintro e w1 ⟨es, g, n, cap, rfl, ht, hn, hn0, -, hL, hok, hg, hB1⟩
  have hlen : n = (noticeT F k2 x2 l2 f2).len := by rw [← ht, treeOf_len, hn]
  have hlen2 := notice_len F k2 x2 l2 f2
  have hs0 := H0.out.size
  have H1 := H0.out.on hB1
  cases es with
  | nil => simp at hn; omega
  | cons e0 rest =>
  have hncap : n ≤ cap := by
    obtain ⟨b, c, e, h1, _⟩ := hL
    cases e
    exact h1
  have hrl : rest.length = n - 1 := by rw [hn, List.length_cons]; omega
  have hBa := (Below.refl w1.heap.size w1).alloc (Nat.le_refl _) (.cells #[.int .u8 6, .string ⟨#[]⟩, .slice none 0 0, .slice (some ⟨g, 0, none⟩) n cap] 25)
  have H2 := Lib.hid (show ReqSt w k x (.slice p l.len c) (.slice q f.len d) w1.heap.size g n cap e0 rest _ from ⟨(H1.on hBa).below, (H1.on hBa).b0, (H1.on hBa).b2, heap_alloc_new _ _, hL.below hBa, fun e he => ((hok e he).mono (fun b hb hlt => ⟨Nat.le_trans hs0 hb.1, hlt⟩)).below hBa, Nat.le_trans hs0 hB1.size⟩)
  have HN := Lib.hid (show 2 ≤ n ∧ n ≤ 3 ∧ n ≤ cap ∧ cap ≤ maxLen ∧ rest.length = n - 1 from by
    obtain ⟨b, c, e, h1, h2, _⟩ := hL
    cases e
    exact ⟨by omega, by omega, hncap, h2, hrl⟩)
  have HT := Lib.hid (fun v u => request_of (k := k) (x := x) (l := l) (f := f) (v := v) (u := u) ht)
  clear ht hn hn0 hL hok hg hB1 hlen hlen2 hs0 H1 hncap hrl hBa H0
  go_wp2_with fail
  generalize w1.alloc (.cells #[.int .u8 6, .string ⟨#[]⟩, .slice none 0 0, .slice (some ⟨g, 0, none⟩) n cap] 25) = W2 at *
  generalize w1.heap.size = B8 at *
  have HD := Lib.hid (H2.out.on (Below.refl W2.heap.size W2).drew)
  have HS0 := Lib.hid HD.out.zs
  have n2 := HN.out.1
  have nc := HN.out.2.2.1
  have q0 : 0 < n := by omega
  have q4 : 1 ≤ n := by omega
  have q5 : ¬ cap = 1 := by omega
  have q1 : (0 : Int) < (n : Int) := by omega
  have q2 : (1 : Int) ≤ (n : Int) := by omega
  have q3 : (n : Int) ≤ (cap : Int) := by omega
  refine wp_region_late (S := ZS w.heap.size k x (.slice p l.len c) (.slice q f.len d) B8 g n cap e0) (zs := [10, 11, 12]) (by kernel_rfl) ?_
  refine wpAnyL_take (v := ?_) 0 rfl (by kernel_rfl) (by kernel_rfl) (by kernel_rfl) (fun _ _ _ h => h) (by kernel_rfl) (by kernel_rfl) HS0.out (by rfl) (fun X hX => ?_) ?_
  rotate_left
  · obtain ⟨⟨s0, s1, s2, s3⟩, t3, r0, r1, r2, r3, r4⟩ := hX
    go_simp
    try with_reducible rfl
  try simp only [Act.put, List.setIfInBounds_toArray, List.set_cons_zero, List.set_cons_succ]
  refine wpAnyL_take (v := ?_) 1 rfl (by kernel_rfl) (by kernel_rfl) (by kernel_rfl) (fun _ _ _ h => h) (by kernel_rfl) (by kernel_rfl) HS0.out (by rfl) (fun X hX => ?_) ?_
  rotate_left
  · obtain ⟨⟨s0, s1, s2, s3⟩, t3, r0, r1, r2, r3, r4⟩ := hX
    go_simp
    try with_reducible rfl
  try simp only [Act.put, List.setIfInBounds_toArray, List.set_cons_zero, List.set_cons_succ]
  refine wpAnyL_take (v := ?_) 2 rfl (by kernel_rfl) (by kernel_rfl) (by kernel_rfl) (fun _ _ _ h => h) (by kernel_rfl) (by kernel_rfl) HS0.out (by rfl) (fun X hX => ?_) ?_
  rotate_left
  · obtain ⟨⟨s0, s1, s2, s3⟩, t3, r0, r1, r2, r3, r4⟩ := hX
    go_simp
    try with_reducible rfl
  try simp only [Act.put, List.setIfInBounds_toArray, List.set_cons_zero, List.set_cons_succ]
  refine wpAnyL_take (v := ?_) 3 rfl (by kernel_rfl) (by kernel_rfl) (by kernel_rfl) (fun _ _ _ h => h) (by kernel_rfl) (by kernel_rfl) HS0.out (by rfl) (fun X hX => ?_) ?_
  rotate_left
  · obtain ⟨⟨s0, s1, s2, s3⟩, t3, r0, r1, r2, r3, r4⟩ := hX
    go_simp
    try with_reducible rfl
  try simp only [Act.put, List.setIfInBounds_toArray, List.set_cons_zero, List.set_cons_succ]
  refine wpAnyL_take (v := ?_) 4 rfl (by kernel_rfl) (by kernel_rfl) (by kernel_rfl) (fun _ _ _ h => h) (by kernel_rfl) (by kernel_rfl) HS0.out (by rfl) (fun X hX => ?_) ?_
  rotate_left
  · obtain ⟨⟨s0, s1, s2, s3⟩, t3, r0, r1, r2, r3, r4⟩ := hX
    go_simp
    try with_reducible rfl
  try simp only [Act.put, List.setIfInBounds_toArray, List.set_cons_zero, List.set_cons_succ]
  refine wpAnyL_take (v := ?_) 7 rfl (by kernel_rfl) (by kernel_rfl) (by kernel_rfl) (fun _ _ _ h => h) (by kernel_rfl) (by kernel_rfl) HS0.out (by rfl) (fun X hX => ?_) ?_
  rotate_left
  · obtain ⟨⟨s0, s1, s2, s3⟩, t3, r0, r1, r2, r3, r4⟩ := hX
    go_simp
    try with_reducible rfl
  try simp only [Act.put, List.setIfInBounds_toArray, List.set_cons_zero, List.set_cons_succ]
  refine wpAnyL_take (v := ?_) 8 rfl (by kernel_rfl) (by kernel_rfl) (by kernel_rfl) (fun _ _ _ h => h) (by kernel_rfl) (by kernel_rfl) HS0.out (by rfl) (fun X hX => ?_) ?_
  rotate_left
  · obtain ⟨⟨s0, s1, s2, s3⟩, t3, r0, r1, r2, r3, r4⟩ := hX
    go_simp
    try with_reducible rfl
  try simp only [Act.put, List.setIfInBounds_toArray, List.set_cons_zero, List.set_cons_succ]
  refine wpAnyL_take (v := ?_) 9 rfl (by kernel_rfl) (by kernel_rfl) (by kernel_rfl) (fun _ _ _ h => h) (by kernel_rfl) (by kernel_rfl) HS0.out (by rfl) (fun X hX => ?_) ?_
  rotate_left
  · obtain ⟨⟨s0, s1, s2, s3⟩, t3, r0, r1, r2, r3, r4⟩ := hX
    go_simp
    try with_reducible rfl
  try simp only [Act.put, List.setIfInBounds_toArray, List.set_cons_zero, List.set_cons_succ]
  refine wpAnyL_op 5 (by kernel_rfl) rfl (fun K hK => ?_)
  go_simp
  go_at_call 41
  (with_reducible refine (HFI.out _ HD.out.below).mono ?_)
  rintro e w5 ⟨v5, u5, rfl, hl5, hf5, hB5⟩
  have H5 := Lib.hid (HD.out.on hB5)
  refine hK.out _ _ (fun _ => H5.out.zs) ?_
  try simp only [Act.put, List.setIfInBounds_toArray, List.set_cons_zero, List.set_cons_succ]
  clear hK K
  refine wpAnyL_op 6 (by kernel_rfl) rfl (fun K hK => ?_)
  go_simp
  have hB7 := (Below.refl w5.heap.size w5).alloc (Nat.le_refl _) (.cells #[.string e0.nm, .int .u8 e0.k, .string e0.x, e0.v, e0.u, .string ⟨#[105, 100]⟩, .int .u8 k, .string x, v5, u5] 50)
  have H7 := Lib.hid (H5.out.on hB7)
  have hlo2 : w.heap.size + 3 ≤ B8 := H2.out.lo
  have hb8 : B8 < W2.heap.size := H2.out.b8.lt
  have hz5 : W2.heap.size ≤ w5.heap.size := hB5.size
  have O7 := owns_new (w := w5) (cs := #[.string e0.nm, .int .u8 e0.k, .string e0.x, e0.v, e0.u, .string ⟨#[105, 100]⟩, .int .u8 k, .string x, v5, u5]) (es := [e0, fe ⟨#[105, 100]⟩ k x l f v5 u5]) (t := 50) (n := 2) rfl rfl (by decide) (w.heap.size + 3) (by omega)
  have hg10 : B8 < w5.heap.size := by omega
  have ok7 : (fe ⟨#[105, 100]⟩ k x l f v5 u5).Ok (w5.alloc (.cells #[.string e0.nm, .int .u8 e0.k, .string e0.x, e0.v, e0.u, .string ⟨#[105, 100]⟩, .int .u8 k, .string x, v5, u5] 50)) (fun b => W2.heap.size ≤ b ∧ b < w5.heap.size) :=
    ⟨(hl5.mono (fun b hb hlt => ⟨hb, hlt⟩)).below hB7, (hf5.mono (fun b hb hlt => ⟨hb, hlt⟩)).below hB7, HK.out.1, HK.out.2.1, by show (2 : Nat) ≤ _; decide⟩
  have HNW := Lib.hid H7.out.news
  clear hB5 hB7 hl5 hf5 hz5
  refine hK.out _ _ (fun _ => H7.out.zs) ?_
  try simp only [Act.put, List.setIfInBounds_toArray, List.set_cons_zero, List.set_cons_succ]
  clear hK K
  generalize w5.alloc (.cells #[.string e0.nm, .int .u8 e0.k, .string e0.x, e0.v, e0.u, .string ⟨#[105, 100]⟩, .int .u8 k, .string x, v5, u5] 50) = W7 at *
  generalize w5.heap.size = g7 at *
  refine wpAnyL_op 10 (by kernel_rfl) rfl (fun K hK => ?_)
  refine step_append_lies _ (by rfl) _ _ _ (by rfl) (w.heap.size + 3) 50 i0 _ 5 88 Tryd.underlying23 hi0 hz0 hz1 hz2 rfl (by omega) (.slice (some ⟨g7, 0, none⟩) 2 2) 2 (cellsOf [e0, fe ⟨#[105, 100]⟩ k x l f v5 u5]) (by rfl) O7 ⟨g, 5, none⟩ (n - 1) (cap - 1) (cellsOf rest) (by rfl) (by rw [cellsOf_len, HN.out.2.2.2.2]) HNW.out (cellsOf_one rest (fun e he => H7.out.ok e (List.mem_cons_of_mem _ he))) (by omega) (by have := HN.out.2.1; unfold maxLen; omega) (by have := HN.out.2.1; omega) (by have := H7.out.b8.lt; omega) W7.heap.size rfl ?_
  intro gg cap11 w11 own11 hg11 hat11 _
  have hg11' : W7.grownBy w11 (some g7) := hg11
  have hgg : gg ≠ B8 ∧ w.heap.size + 3 ≤ gg := by
    have h1 := H7.out.b8.lt
    refine ⟨?_, (own11.lt gg rfl).1⟩
    rcases hat11 with h2 | h2
    · have h3 : g7 = gg := Option.some.inj h2
      omega
    · omega
  have hne : ∀ b, b < W7.heap.size → b ≠ g7 → w11.heap[b]? = W7.heap[b]? := fun b hb h => hg11'.block b hb (fun e => h (Option.some.inj e))
  have hBL : Below w.heap.size w w11 := H7.out.below.grown hg11' (by have := H7.out.b8.lt; omega) (fun k hk => by cases hk; omega)
  have bb8 := H7.out.b8.same (hne _ H7.out.b8.lt (by omega))
  have bb2 := H7.out.b2.same (hne _ H7.out.b2.lt (by omega))
  have okA : ∀ e ∈ e0 :: fe ⟨#[105, 100]⟩ k x l f v5 u5 :: rest, e.Ok w11 (fun b => w.heap.size + 3 ≤ b ∧ b ≠ B8) := fun e he => by
    have old : ∀ e ∈ e0 :: rest, e.Ok w11 (fun b => w.heap.size + 3 ≤ b ∧ b ≠ B8) := fun e he => (H7.out.ok e he).imp (fun b hb _ => ⟨hb.1, by omega⟩) (fun b hb hlt => hne b hlt (by omega))
    rcases List.mem_cons.1 he with rfl | he
    · exact old _ (List.mem_cons_self ..)
    · rcases List.mem_cons.1 he with rfl | he
      · exact ok7.imp (fun b hb _ => ⟨by omega, by omega⟩) (fun b hb hlt => hne b hlt (by omega))
      · exact old _ (List.mem_cons_of_mem _ he)
  have hsl := Lies.hs (A := fun b => w.heap.size + 3 ≤ b ∧ b ≠ B8) (lies_owned (es := e0 :: fe ⟨#[105, 100]⟩ k x l f v5 u5 :: rest) (by have := HN.out.2.2.2.2; simp only [List.length_cons]; omega) own11) okA (fun b hb => by cases hb; exact ⟨hgg.2, hgg.1⟩) (by have := HN.out.2.2.2.2; have := HN.out.2.1; simp only [List.length_cons]; omega)
  rw [HT.out] at hsl
  have H11 := Lib.hid (And.intro hBL (And.intro bb8 (And.intro bb2 hsl)))
  clear own11 hg11 hat11 hg11' hgg hne hBL bb8 bb2 okA hsl ok7 O7 HNW H7 H5
  generalize 2 + (n - 1) = m at *
  refine hK.out _ _ (fun e => absurd e (by decide)) ?_
  try simp only [Act.put, List.setIfInBounds_toArray, List.set_cons_zero, List.set_cons_succ]
  clear hK K
  refine wpAnyL_op 11 (by kernel_rfl) rfl (fun K hK => ?_)
  go_simp
  refine hK.out _ _ (fun e => absurd e (by decide)) ?_
  try simp only [Act.put, List.setIfInBounds_toArray, List.set_cons_zero, List.set_cons_succ]
  clear hK K
  obtain ⟨x0, x1, x2', x3⟩ := H11.out.2.1.box
  have f8 := H11.out.2.1.free
  refine wpAnyL_op 12 (by kernel_rfl) rfl (fun K hK => ?_)
  go_simp
  refine hK.out _ _ (fun e => absurd e (by decide)) ?_
  try simp only [Act.put, List.setIfInBounds_toArray, List.set_cons_zero, List.set_cons_succ]
  clear hK K x0 x1 x2' x3 f8
  have hlo3 := H2.out.lo
  have c8 := H11.out.2.1.set3 (.slice (some ⟨gg, 0, none⟩) m cap11)
  have c2 := H11.out.2.2.1.else (b' := B8) (o := 3) (y := .slice (some ⟨gg, 0, none⟩) m cap11) (by omega)
  have cBL : Below w.heap.size w (w11.setCell ⟨B8, 3, none⟩ (.slice (some ⟨gg, 0, none⟩) m cap11)) := H11.out.1.setCell (by show _ ≤ B8; omega) _
  have cS := H11.out.2.2.2.imp (A' := fun b => w.heap.size + 3 ≤ b) (w' := w11.setCell ⟨B8, 3, none⟩ (.slice (some ⟨gg, 0, none⟩) m cap11)) (fun b hb _ => hb.1) (fun b hb _ => Below.heap_setCell _ _ _ b hb.2)
  have H12 := Lib.hid (And.intro cBL (And.intro c8 (And.intro c2 cS)))
  clear cBL c8 c2 cS H11
  generalize w11.setCell ⟨B8, 3, none⟩ (.slice (some ⟨gg, 0, none⟩) m cap11) = w12 at *
  refine wpAnyL_end (by kernel_rfl) ?_
  obtain ⟨x0, x1, x2', x3⟩ := H12.out.2.1.box
  obtain ⟨y0, y1, y2, y3⟩ := H12.out.2.2.1.box
  have f1 := H12.out.2.2.1.free
  go_wp2_with fail
  obtain ⟨k1, k4, k3⟩ := H12.out.2.2.1.all (.int .u8 6) (.string ⟨#[]⟩) (.slice none 0 0) (.slice (some ⟨gg, 0, none⟩) m cap11)
  have hw4 := set4_else w12 (w.heap.size + 1 + 1) (.int .u8 6) (.string ⟨#[]⟩) (.slice none 0 0) (.slice (some ⟨gg, 0, none⟩) m cap11)
  have k3' := k3 w.heap.size (by omega)
  clear x0 x1 x2' x3 y0 y1 y2 y3 f1
  generalize (((w12.setCell ⟨w.heap.size + 1 + 1, 0, none⟩ (.int .u8 6)).setCell ⟨w.heap.size + 1 + 1, 1, none⟩ (.string ⟨#[]⟩)).setCell ⟨w.heap.size + 1 + 1, 2, none⟩ (.slice none 0 0)).setCell ⟨w.heap.size + 1 + 1, 3, none⟩ (.slice (some ⟨gg, 0, none⟩) m cap11) = w13 at *
  obtain ⟨x0, x1, x2', x3⟩ := k1.box
  refine bodyPost_ret (v := .agg #[.int .u8 6, .string ⟨#[]⟩, .slice none 0 0, .slice (some ⟨gg, 0, none⟩) m cap11]) (by simp [results, Tryd.results15, go_sem, x0, x1, x2', x3]) rfl ?_
  exact ⟨_, _, rfl, HS.nil _ _ _, H12.out.2.2.2.imp (fun b hb _ => by omega) (fun b hb _ => hw4 b (by omega)), H12.out.1.trans k3'⟩
end Go.Proofs.YtepjomdjkoaofaaDoor
