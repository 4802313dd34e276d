/- The reference's notice. Conditions: such as Go can hold; a method of at most 10000 bytes. -/
import Derived.Test.YtepjomdjkoaofaaDoorMM29
import Derived.Test.YtepjomdjkoaofaaDoorMM30
namespace Go.Proofs.YtepjomdjkoaofaaDoor
open Go Go.RowKit Go.Lib

/-- a message is handed back, its fields as they lie -/
def MsgIs (T : V.T) (w : World) (e : Ending) (w' : World) : Prop :=
  ∃ es g n cap, e = .returned (.agg #[.int .u8 6, .string ⟨#[]⟩, .slice none 0 0, .slice (some ⟨g, 0, none⟩) n cap]) ∧ treeOf es = T ∧ n = es.length ∧ 0 < n ∧ n ≤ 100 ∧ Lies w' (.slice (some ⟨g, 0, none⟩) n cap) es ∧ (∀ e ∈ es, e.Ok w' (fun b => w.heap.size ≤ b ∧ b ≠ g)) ∧ w.heap.size ≤ g ∧ Below w.heap.size w w'
theorem Msg.told {w : World} {lo rb B8 g8 n cap : Nat} {es : List Fe} {W w' : World} (h : Msg w lo rb B8 g8 n cap es W) {T : V.T} (h0 : 0 < n) (hn : n ≤ 100) (ht : treeOf es = T) (hb : Below w.heap.size W w') (hk : ∀ b, lo ≤ b → w'.heap[b]? = W.heap[b]?) :
    MsgIs T w (.returned (.agg #[.int .u8 6, .string ⟨#[]⟩, .slice none 0 0, .slice (some ⟨g8, 0, none⟩) n cap])) w' := by
  have h1 := (h.own.lt g8 rfl).1
  have h2 := h.rlo
  have h3 := h.wlo
  refine ⟨es, g8, n, cap, rfl, ht, h.len, h0, hn, lies_owned (base := lo) (t := 50) h.len ?_, fun e he => (h.ok e he).imp (fun b hb _ => ⟨by omega, hb.2.2⟩) (fun b hb _ => hk b hb.1), by omega, h.below.trans hb⟩
  refine ⟨h.own.1, ?_⟩
  rcases h.own.2 with ⟨e, _⟩ | ⟨g, c, cur, e, hb', hr, r⟩
  · cases e
  · cases e
    exact .inr ⟨g8, cap, cur, rfl, hb', (hk g8 h1).trans hr, r⟩
def NS (N : Nat) (k : Nat) (x : ByteArray) (v u : Value) (B8 : Nat) (s8 : Value) (X : World) : Prop := Box4 X N (.int .u8 k) (.string x) v u ∧ X.cell? ⟨B8, 3, none⟩ = some s8
structure NtMsg (w : World) (k : Nat) (x : ByteArray) (v u : Value) (B8 g8 n cap : Nat) (es : List Fe) (W : World) : Prop where
  b0 : Blk4 W w.heap.size 25 (.int .u8 k) (.string x) v u
  m : Msg w (w.heap.size + 2) (w.heap.size + 1) B8 g8 n cap es W
theorem NtMsg.on {w : World} {k : Nat} {x : ByteArray} {v u : Value} {B8 g8 n cap : Nat} {es : List Fe} {W W' : World} (h : NtMsg w k x v u B8 g8 n cap es W) (hB : Below W.heap.size W W') : NtMsg w k x v u B8 g8 n cap es W' := ⟨h.b0.same (hB.block _ h.b0.lt), h.m.on hB⟩
theorem NtMsg.ns {w : World} {k : Nat} {x : ByteArray} {v u : Value} {B8 g8 n cap : Nat} {es : List Fe} {W : World} (h : NtMsg w k x v u B8 g8 n cap es W) : NS w.heap.size k x v u B8 (.slice (some ⟨g8, 0, none⟩) n cap) W := ⟨h.b0.box, h.m.b8.box.2.2.2⟩
theorem NtMsg.app {w : World} {k : Nat} {x : ByteArray} {v u : Value} {B8 g8 n cap : Nat} {es : List Fe} {W w4 : World} (h : NtMsg w k x v u B8 g8 n cap es W) {es2 : List Fe} {gg n2 cap2 : Nat} (ok : ∀ e ∈ es2, e.Ok W (fun b => w.heap.size + 2 ≤ b ∧ b ≠ B8 ∧ b ≠ g8)) (hn : n2 = (es ++ es2).length)
    (own : w4.ownsRow (w.heap.size + 2) 50 5 (.slice (some ⟨gg, 0, none⟩) n2 cap2) n2 (cellsOf es ++ cellsOf es2)) (hg : W.grownBy w4 (some g8)) (hat : some g8 = some gg ∨ gg = W.heap.size) :
    Blk4 w4 B8 25 (.int .u8 6) (.string ⟨#[]⟩) (.slice none 0 0) (.slice (some ⟨g8, 0, none⟩) n cap) ∧ NtMsg w k x v u B8 gg n2 cap2 (es ++ es2) (w4.setCell ⟨B8, 3, none⟩ (.slice (some ⟨gg, 0, none⟩) n2 cap2)) := by
  obtain ⟨h1, h2⟩ := h.m.app ok hn own hg hat
  have h3 := (h.m.own.lt g8 rfl).1
  have h4 := h.m.lo8
  exact ⟨h1, (h.b0.same (hg.block _ h.b0.lt (fun e => by cases e; omega))).else (by omega), h2⟩
/-- a field just made, and the row it is put into -/
theorem NtMsg.fresh {w : World} {k : Nat} {x : ByteArray} {v u : Value} {B8 g8 n cap : Nat} {es : List Fe} {W W' : World} (h : NtMsg w k x v u B8 g8 n cap es W) (hs : W.heap.size ≤ W'.heap.size) : ∀ b, W'.heap.size ≤ b → w.heap.size + 2 ≤ b ∧ b ≠ B8 ∧ b ≠ g8 := fun b hb => by
  have h1 := h.m.b8.lt
  have h2 := (h.m.own.lt g8 rfl).2
  have h3 := h.m.size
  exact ⟨by omega, by omega, by omega⟩

set_option maxHeartbeats 4000000 in
set_option maxRecDepth 100000 in
theorem refNotice_any (s : ByteArray) (k : Nat) (x : ByteArray) (v u : Value) (l f : V.T) (A : Nat → Prop) (w : World) (hs : s.size ≤ 10000) (hk : Fit ⟨#[]⟩ k x) (hl : HS w A 0 v l) (hf : HS w A 1 u f) (hm : l.size + f.size ≤ 1000000) :
    Calls Tryd.prog 16 #[.string s, .agg #[.int .u8 k, .string x, v, u]] w (MsgIs (noticeT (U.fixS s) k x l f) w) := by
  obtain ⟨i0, hi0, hz0, hz1, hz2⟩ := info_parts infoField
  obtain ⟨p, c, rfl, -⟩ := hl.len
  obtain ⟨q, d, rfl, -⟩ := hf.len
  have hz : (U.fixS s).size ≤ 30000 := by have := U.fix_size s; omega
  have HT := Lib.hid (fun W => refText4_any s W (by omega))
  generalize U.fixS s = F at *
  have hfm := fun W => field_any ⟨#[109, 101, 116, 104, 111, 100]⟩ 4 F (.slice none 0 0) (.slice none 0 0) .nil .nil (fun _ => True) W (by decide) (HS.nil _ _ _) (HS.nil _ _ _)
  simp only [show ((4 : Nat) : Int) = 4 from rfl] at hfm
  have HFM := Lib.hid hfm
  have HFP := Lib.hid (fun W (h : Below w.heap.size w W) => field_any ⟨#[112, 97, 114, 97, 109, 115]⟩ k x (.slice p l.len c) (.slice q f.len d) l f A W hm (hl.below h) (hf.below h))
  have HBG := Lib.hid begun_any
  have hB := two_below w (.cells #[.int .u8 k, .string x, .slice p l.len c, .slice q f.len d] 25) (.cells #[.int .u8 0, .string ⟨#[]⟩, .slice none 0 0, .slice none 0 0] 25)
  have b0 : Blk4 ((w.alloc (.cells #[.int .u8 k, .string x, .slice p l.len c, .slice q f.len d] 25)).alloc (.cells #[.int .u8 0, .string ⟨#[]⟩, .slice none 0 0, .slice none 0 0] 25)) w.heap.size 25 _ _ _ _ := (two_new _ _ _).1
  have b1 : Blk4 ((w.alloc (.cells #[.int .u8 k, .string x, .slice p l.len c, .slice q f.len d] 25)).alloc (.cells #[.int .u8 0, .string ⟨#[]⟩, .slice none 0 0, .slice none 0 0] 25)) (w.heap.size + 1) 25 _ _ _ _ := (two_new _ _ _).2
  have H0 := Lib.hid (And.intro hB (And.intro b0 b1))
  have HK := Lib.hid hk
  have HZ := Lib.hid hz
  clear hl hf hk hm hs hz hfm hB b0 b1
  go_enter Tryd.func16, Tryd.ntmps16
  go_wp2_with fail
  generalize (w.alloc (.cells #[.int .u8 k, .string x, .slice p l.len c, .slice q f.len d] 25)).alloc (.cells #[.int .u8 0, .string ⟨#[]⟩, .slice none 0 0, .slice none 0 0] 25) = W0 at *
  refine (HBG.out _).mono ?_
  rintro e w1 ⟨v8, u8, g8, rfl, hO, hn1, hn2, hB1⟩
  have hs0 : w.heap.size + 2 ≤ W0.heap.size := H0.out.2.2.lt
  have bb0 := H0.out.2.1.same (hB1.block _ H0.out.2.1.lt)
  have bb1 := H0.out.2.2.same (hB1.block _ H0.out.2.2.lt)
  have M2 := Msg.begin (w := w) (lo := w.heap.size + 2) (rb := w.heap.size + 1) (H0.out.1.trans (hB1.mono H0.out.1.size)) (Nat.le_trans hs0 hB1.size) bb1 (owns_mono hO hs0) hn1 hn2 (by omega) (by omega)
  have H2 := Lib.hid (show NtMsg w k x (.slice p l.len c) (.slice q f.len d) w1.heap.size g8 1 1 [verG v8 u8] _ from ⟨bb0.same (Below.heap_alloc _ _ _ bb0.lt), M2⟩)
  clear hO hn1 hn2 hB1 bb0 bb1 M2 H0 hs0
  go_wp2_with fail
  generalize w1.alloc (.cells #[.int .u8 6, .string ⟨#[]⟩, .slice none 0 0, .slice (some ⟨g8, 0, none⟩) 1 1] 25) = W2 at *
  generalize w1.heap.size = B8 at *
  have HD := Lib.hid (H2.out.on (Below.refl W2.heap.size W2).drew)
  have HS0 := Lib.hid HD.out.ns
  refine wp_region_late (S := NS w.heap.size k x (.slice p l.len c) (.slice q f.len d) B8 (.slice (some ⟨g8, 0, none⟩) 1 1)) (zs := [6, 7, 8]) (by kernel_rfl) ?_
  refine wpAnyL_take (v := ?_) 0 rfl (by kernel_rfl) (by kernel_rfl) (by kernel_rfl) (fun _ _ _ h => h) (by kernel_rfl) (by kernel_rfl) HS0.out (by rfl) (fun X hX => ?_) ?_
  rotate_left
  · obtain ⟨⟨s0, s1, s2, s3⟩, t3⟩ := hX
    go_simp
    try with_reducible rfl
  try simp only [Act.put, List.setIfInBounds_toArray, List.set_cons_zero, List.set_cons_succ]
  refine wpAnyL_take (v := ?_) 1 rfl (by kernel_rfl) (by kernel_rfl) (by kernel_rfl) (fun _ _ _ h => h) (by kernel_rfl) (by kernel_rfl) HS0.out (by rfl) (fun X hX => ?_) ?_
  rotate_left
  · obtain ⟨⟨s0, s1, s2, s3⟩, t3⟩ := hX
    go_simp
    try with_reducible rfl
  try simp only [Act.put, List.setIfInBounds_toArray, List.set_cons_zero, List.set_cons_succ]
  refine wpAnyL_take (v := ?_) 2 rfl (by kernel_rfl) (by kernel_rfl) (by kernel_rfl) (fun _ _ _ h => h) (by kernel_rfl) (by kernel_rfl) HS0.out (by rfl) (fun X hX => ?_) ?_
  rotate_left
  · obtain ⟨⟨s0, s1, s2, s3⟩, t3⟩ := hX
    go_simp
    try with_reducible rfl
  try simp only [Act.put, List.setIfInBounds_toArray, List.set_cons_zero, List.set_cons_succ]
  refine wpAnyL_op 3 (by kernel_rfl) rfl (fun K hK => ?_)
  go_simp
  go_at_call 43
  (with_reducible refine (HT.out _).mono ?_)
  rintro e w4 ⟨rfl, hB4⟩
  have H4 := Lib.hid (HD.out.on hB4)
  clear hB4
  refine hK.out _ _ (fun _ => H4.out.ns) ?_
  try simp only [Act.put, List.setIfInBounds_toArray, List.set_cons_zero, List.set_cons_succ]
  clear hK K
  refine wpAnyL_op 4 (by kernel_rfl) rfl (fun K hK => ?_)
  go_simp
  go_at_call 41
  (with_reducible refine (HFM.out _).mono ?_)
  rintro e w5 ⟨v5, u5, rfl, hl5, hf5, hB5⟩
  have H5 := Lib.hid (H4.out.on hB5)
  refine hK.out _ _ (fun _ => H5.out.ns) ?_
  try simp only [Act.put, List.setIfInBounds_toArray, List.set_cons_zero, List.set_cons_succ]
  clear hK K
  refine wpAnyL_op 5 (by kernel_rfl) rfl (fun K hK => ?_)
  go_simp
  have hB7 := (Below.refl w5.heap.size w5).alloc (Nat.le_refl _) (.cells #[.string ⟨#[109, 101, 116, 104, 111, 100]⟩, .int .u8 4, .string F, v5, u5] 50)
  have H7 := Lib.hid (H5.out.on hB7)
  have L7 := lies_new (w := w5) (cs := #[.string ⟨#[109, 101, 116, 104, 111, 100]⟩, .int .u8 4, .string F, v5, u5]) (es := [fe ⟨#[109, 101, 116, 104, 111, 100]⟩ 4 F .nil .nil v5 u5]) (t := 50) (n := 1) rfl rfl (by decide)
  have hfr := H4.out.fresh (Nat.le_refl _)
  have ok7 : ∀ e ∈ [fe ⟨#[109, 101, 116, 104, 111, 100]⟩ 4 F .nil .nil v5 u5], e.Ok (w5.alloc (.cells #[.string ⟨#[109, 101, 116, 104, 111, 100]⟩, .int .u8 4, .string F, v5, u5] 50)) (fun b => w.heap.size + 2 ≤ b ∧ b ≠ B8 ∧ b ≠ g8) := fun e he => by
    cases List.mem_singleton.1 he
    exact ⟨(hl5.mono (fun b hb _ => hfr b hb)).below hB7, (hf5.mono (fun b hb _ => hfr b hb)).below hB7, by show (4 : Nat) < 256; decide, by show F.size ≤ _; have := HZ.out; omega, by show (6 : Nat) ≤ _; decide⟩
  clear hB5 hB7 hl5 hf5 hfr H4 H5
  refine hK.out _ _ (fun _ => H7.out.ns) ?_
  try simp only [Act.put, List.setIfInBounds_toArray, List.set_cons_zero, List.set_cons_succ]
  clear hK K
  generalize w5.alloc (.cells #[.string ⟨#[109, 101, 116, 104, 111, 100]⟩, .int .u8 4, .string F, v5, u5] 50) = W7 at *
  generalize w5.heap.size = g7 at *
  refine wpAnyL_op 6 (by kernel_rfl) rfl (fun K hK => ?_)
  refine step_append_lies _ (by rfl) _ _ _ (by rfl) (w.heap.size + 2) 50 i0 _ 5 88 Tryd.underlying23 hi0 hz0 hz1 hz2 rfl (by omega) (.slice (some ⟨g8, 0, none⟩) 1 1) 1 (cellsOf [verG v8 u8]) (by rfl) H7.out.m.own ⟨g7, 0, none⟩ 1 1 (cellsOf [fe ⟨#[109, 101, 116, 104, 111, 100]⟩ 4 F .nil .nil v5 u5]) (by rfl) (cellsOf_len _) L7.news (cellsOf_one _ ok7) (by omega) (by unfold maxLen; omega) (by omega) H7.out.m.size W7.heap.size rfl ?_
  intro gg cap w11 own11 hg11 hat11 _
  have H11 := Lib.hid (H7.out.app (n2 := 2) ok7 rfl own11 hg11 hat11)
  clear own11 hg11 hat11 ok7 L7
  refine hK.out _ _ (fun e => absurd e (by decide)) ?_
  try simp only [Act.put, List.setIfInBounds_toArray, List.set_cons_zero, List.set_cons_succ]
  clear hK K
  refine wpAnyL_op 7 (by kernel_rfl) rfl (fun K hK => ?_)
  go_simp
  refine hK.out _ _ (fun e => absurd e (by decide)) ?_
  try simp only [Act.put, List.setIfInBounds_toArray, List.set_cons_zero, List.set_cons_succ]
  clear hK K
  obtain ⟨x0, x1, x2, x3⟩ := H11.out.1.box
  have f8 := H11.out.1.free
  refine wpAnyL_op 8 (by kernel_rfl) rfl (fun K hK => ?_)
  go_simp
  refine hK.out _ _ (fun e => absurd e (by decide)) ?_
  try simp only [Act.put, List.setIfInBounds_toArray, List.set_cons_zero, List.set_cons_succ]
  clear hK K x0 x1 x2 x3 f8
  have H12 := Lib.hid H11.out.2
  clear H11
  generalize w11.setCell ⟨B8, 3, none⟩ (.slice (some ⟨gg, 0, none⟩) 2 cap) = w12 at *
  refine wpAnyL_end (by kernel_rfl) ?_
  obtain ⟨a0, a1, a2, a3⟩ := H12.out.b0.box
  by_cases hk0 : k = 0
  · subst hk0
    have hM := Lib.hid H12.out.m
    obtain ⟨x0, x1, x2, x3⟩ := hM.out.b8.box
    obtain ⟨y0, y1, y2, y3⟩ := hM.out.brb.box
    have f1 := hM.out.brb.free
    go_wp2_with fail
    obtain ⟨k1, k4, k3⟩ := hM.out.brb.all (.int .u8 6) (.string ⟨#[]⟩) (.slice none 0 0) (.slice (some ⟨gg, 0, none⟩) 2 cap)
    have hw4 := set4_else w12 (w.heap.size + 1) (.int .u8 6) (.string ⟨#[]⟩) (.slice none 0 0) (.slice (some ⟨gg, 0, none⟩) 2 cap)
    have k3' := k3 w.heap.size (by omega)
    clear x0 x1 x2 x3 y0 y1 y2 y3 f1
    generalize (((w12.setCell ⟨w.heap.size + 1, 0, none⟩ (.int .u8 6)).setCell ⟨w.heap.size + 1, 1, none⟩ (.string ⟨#[]⟩)).setCell ⟨w.heap.size + 1, 2, none⟩ (.slice none 0 0)).setCell ⟨w.heap.size + 1, 3, none⟩ (.slice (some ⟨gg, 0, none⟩) 2 cap) = w13 at *
    obtain ⟨x0, x1, x2, x3⟩ := k1.box
    refine bodyPost_ret (v := .agg #[.int .u8 6, .string ⟨#[]⟩, .slice none 0 0, .slice (some ⟨gg, 0, none⟩) 2 cap]) (by simp [results, Tryd.results16, go_sem, x0, x1, x2, x3]) rfl ?_
    exact hM.out.told (w' := w13) (by decide) (by decide) (by unfold noticeT calledE; rw [if_pos rfl]; rfl) k3' (fun b hb => hw4 b (by omega))
  · have t1 : ((k : Int) != 0) = true := by simp; omega
    go_wp2_with fail
    clear a0 a1 a2 a3 t1
    have HD := Lib.hid (H12.out.on (Below.refl w12.heap.size w12).drew)
    have HS0 := Lib.hid HD.out.ns
    refine wp_region_late (S := NS w.heap.size k x (.slice p l.len c) (.slice q f.len d) B8 (.slice (some ⟨gg, 0, none⟩) 2 cap)) (zs := [5, 6, 7]) (by kernel_rfl) ?_
    refine wpAnyL_take (v := ?_) 0 rfl (by kernel_rfl) (by kernel_rfl) (by kernel_rfl) (fun _ _ _ h => h) (by kernel_rfl) (by kernel_rfl) HS0.out (by rfl) (fun X hX => ?_) ?_
    rotate_left
    · obtain ⟨⟨s0, s1, s2, s3⟩, t3⟩ := hX
      go_simp
      try with_reducible rfl
    try simp only [Act.put, List.setIfInBounds_toArray, List.set_cons_zero, List.set_cons_succ]
    refine wpAnyL_take (v := ?_) 1 rfl (by kernel_rfl) (by kernel_rfl) (by kernel_rfl) (fun _ _ _ h => h) (by kernel_rfl) (by kernel_rfl) HS0.out (by rfl) (fun X hX => ?_) ?_
    rotate_left
    · obtain ⟨⟨s0, s1, s2, s3⟩, t3⟩ := hX
      go_simp
      try with_reducible rfl
    try simp only [Act.put, List.setIfInBounds_toArray, List.set_cons_zero, List.set_cons_succ]
    refine wpAnyL_take (v := ?_) 2 rfl (by kernel_rfl) (by kernel_rfl) (by kernel_rfl) (fun _ _ _ h => h) (by kernel_rfl) (by kernel_rfl) HS0.out (by rfl) (fun X hX => ?_) ?_
    rotate_left
    · obtain ⟨⟨s0, s1, s2, s3⟩, t3⟩ := hX
      go_simp
      try with_reducible rfl
    try simp only [Act.put, List.setIfInBounds_toArray, List.set_cons_zero, List.set_cons_succ]
    refine wpAnyL_op 3 (by kernel_rfl) rfl (fun K hK => ?_)
    go_simp
    go_at_call 41
    (with_reducible refine (HFP.out _ HD.out.m.below).mono ?_)
    rintro e w6 ⟨v6, u6, rfl, hl6, hf6, hB6⟩
    have H6 := Lib.hid (HD.out.on hB6)
    refine hK.out _ _ (fun _ => H6.out.ns) ?_
    try simp only [Act.put, List.setIfInBounds_toArray, List.set_cons_zero, List.set_cons_succ]
    clear hK K
    refine wpAnyL_op 4 (by kernel_rfl) rfl (fun K hK => ?_)
    go_simp
    have hB9 := (Below.refl w6.heap.size w6).alloc (Nat.le_refl _) (.cells #[.string ⟨#[112, 97, 114, 97, 109, 115]⟩, .int .u8 k, .string x, v6, u6] 50)
    have H9 := Lib.hid (H6.out.on hB9)
    have L9 := lies_new (w := w6) (cs := #[.string ⟨#[112, 97, 114, 97, 109, 115]⟩, .int .u8 k, .string x, v6, u6]) (es := [fe ⟨#[112, 97, 114, 97, 109, 115]⟩ k x l f v6 u6]) (t := 50) (n := 1) rfl rfl (by decide)
    have hfr := HD.out.fresh (Nat.le_refl _)
    have ok9 : ∀ e ∈ [fe ⟨#[112, 97, 114, 97, 109, 115]⟩ k x l f v6 u6], e.Ok (w6.alloc (.cells #[.string ⟨#[112, 97, 114, 97, 109, 115]⟩, .int .u8 k, .string x, v6, u6] 50)) (fun b => w.heap.size + 2 ≤ b ∧ b ≠ B8 ∧ b ≠ gg) := fun e he => by
      cases List.mem_singleton.1 he
      exact ⟨(hl6.mono (fun b hb _ => hfr b hb)).below hB9, (hf6.mono (fun b hb _ => hfr b hb)).below hB9, HK.out.1, HK.out.2.1, by show (6 : Nat) ≤ _; decide⟩
    clear hB6 hB9 hl6 hf6 hfr H6
    refine hK.out _ _ (fun _ => H9.out.ns) ?_
    try simp only [Act.put, List.setIfInBounds_toArray, List.set_cons_zero, List.set_cons_succ]
    clear hK K
    generalize w6.alloc (.cells #[.string ⟨#[112, 97, 114, 97, 109, 115]⟩, .int .u8 k, .string x, v6, u6] 50) = W9 at *
    generalize w6.heap.size = g9 at *
    refine wpAnyL_op 5 (by kernel_rfl) rfl (fun K hK => ?_)
    refine step_append_lies _ (by rfl) _ _ _ (by rfl) (w.heap.size + 2) 50 i0 _ 5 88 Tryd.underlying23 hi0 hz0 hz1 hz2 rfl (by omega) (.slice (some ⟨gg, 0, none⟩) 2 cap) 2 (cellsOf ([verG v8 u8] ++ [fe ⟨#[109, 101, 116, 104, 111, 100]⟩ 4 F .nil .nil v5 u5])) (by rfl) H9.out.m.own ⟨g9, 0, none⟩ 1 1 (cellsOf [fe ⟨#[112, 97, 114, 97, 109, 115]⟩ k x l f v6 u6]) (by rfl) (cellsOf_len _) L9.news (cellsOf_one _ ok9) (by omega) (by unfold maxLen; omega) (by omega) H9.out.m.size W9.heap.size rfl ?_
    intro g13 cap13 w14 own14 hg14 hat14 _
    have H14 := Lib.hid (H9.out.app (n2 := 3) ok9 rfl own14 hg14 hat14)
    clear own14 hg14 hat14 ok9 L9
    refine hK.out _ _ (fun e => absurd e (by decide)) ?_
    try simp only [Act.put, List.setIfInBounds_toArray, List.set_cons_zero, List.set_cons_succ]
    clear hK K
    refine wpAnyL_op 6 (by kernel_rfl) rfl (fun K hK => ?_)
    go_simp
    refine hK.out _ _ (fun e => absurd e (by decide)) ?_
    try simp only [Act.put, List.setIfInBounds_toArray, List.set_cons_zero, List.set_cons_succ]
    clear hK K
    obtain ⟨x0, x1, x2, x3⟩ := H14.out.1.box
    have f8 := H14.out.1.free
    refine wpAnyL_op 7 (by kernel_rfl) rfl (fun K hK => ?_)
    go_simp
    refine hK.out _ _ (fun e => absurd e (by decide)) ?_
    try simp only [Act.put, List.setIfInBounds_toArray, List.set_cons_zero, List.set_cons_succ]
    clear hK K x0 x1 x2 x3 f8
    have hM := Lib.hid H14.out.2.m
    clear H14
    generalize w14.setCell ⟨B8, 3, none⟩ (.slice (some ⟨g13, 0, none⟩) 3 cap13) = w15 at *
    refine wpAnyL_end (by kernel_rfl) ?_
    obtain ⟨x0, x1, x2, x3⟩ := hM.out.b8.box
    obtain ⟨y0, y1, y2, y3⟩ := hM.out.brb.box
    have f1 := hM.out.brb.free
    go_wp2_with fail
    obtain ⟨k1, k4, k3⟩ := hM.out.brb.all (.int .u8 6) (.string ⟨#[]⟩) (.slice none 0 0) (.slice (some ⟨g13, 0, none⟩) 3 cap13)
    have hw4 := set4_else w15 (w.heap.size + 1) (.int .u8 6) (.string ⟨#[]⟩) (.slice none 0 0) (.slice (some ⟨g13, 0, none⟩) 3 cap13)
    have k3' := k3 w.heap.size (by omega)
    clear x0 x1 x2 x3 y0 y1 y2 y3 f1
    generalize (((w15.setCell ⟨w.heap.size + 1, 0, none⟩ (.int .u8 6)).setCell ⟨w.heap.size + 1, 1, none⟩ (.string ⟨#[]⟩)).setCell ⟨w.heap.size + 1, 2, none⟩ (.slice none 0 0)).setCell ⟨w.heap.size + 1, 3, none⟩ (.slice (some ⟨g13, 0, none⟩) 3 cap13) = w13 at *
    obtain ⟨x0, x1, x2, x3⟩ := k1.box
    refine bodyPost_ret (v := .agg #[.int .u8 6, .string ⟨#[]⟩, .slice none 0 0, .slice (some ⟨g13, 0, none⟩) 3 cap13]) (by simp [results, Tryd.results16, go_sem, x0, x1, x2, x3]) rfl ?_
    exact hM.out.told (w' := w13) (by decide) (by decide) (by unfold noticeT calledE; rw [if_neg hk0]; rfl) k3' (fun b hb => hw4 b (by omega))
end Go.Proofs.YtepjomdjkoaofaaDoor
