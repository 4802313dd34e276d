/- The reference's reply. Conditions: such as Go can hold. -/
import Derived.Test.YtepjomdjkoaofaaDoorMM29
import Derived.Test.YtepjomdjkoaofaaDoorMM32
namespace Go.Proofs.YtepjomdjkoaofaaDoor
open Go Go.RowKit Go.Lib

def YS (N : Nat) (k : Nat) (x : ByteArray) (v u : Value) (k2 : Nat) (x2 : ByteArray) (v2 u2 : Value) (B8 : Nat) (s8 : Value) (X : World) : Prop := (Box4 X N (.int .u8 k) (.string x) v u ∧ Box4 X (N + 1) (.int .u8 k2) (.string x2) v2 u2) ∧ X.cell? ⟨B8, 3, none⟩ = some s8
structure TwoMsg (w : World) (k : Nat) (x : ByteArray) (v u : Value) (l f : V.T) (k2 : Nat) (x2 : ByteArray) (v2 u2 : Value) (l2 f2 : V.T) (B8 g8 n cap : Nat) (es : List Fe) (W : World) : Prop where
  st : TwoSt w k x v u l f k2 x2 v2 u2 l2 f2 W
  m : Msg w (w.heap.size + 3) (w.heap.size + 2) B8 g8 n cap es W
theorem TwoMsg.on {w : World} {k : Nat} {x : ByteArray} {v u : Value} {l f : V.T} {k2 : Nat} {x2 : ByteArray} {v2 u2 : Value} {l2 f2 : V.T} {B8 g8 n cap : Nat} {es : List Fe} {W W' : World} (h : TwoMsg w k x v u l f k2 x2 v2 u2 l2 f2 B8 g8 n cap es W) (hB : Below W.heap.size W W') : TwoMsg w k x v u l f k2 x2 v2 u2 l2 f2 B8 g8 n cap es W' := ⟨h.st.on hB, h.m.on hB⟩
theorem TwoMsg.ys {w : World} {k : Nat} {x : ByteArray} {v u : Value} {l f : V.T} {k2 : Nat} {x2 : ByteArray} {v2 u2 : Value} {l2 f2 : V.T} {B8 g8 n cap : Nat} {es : List Fe} {W : World} (h : TwoMsg w k x v u l f k2 x2 v2 u2 l2 f2 B8 g8 n cap es W) : YS w.heap.size k x v u k2 x2 v2 u2 B8 (.slice (some ⟨g8, 0, none⟩) n cap) W := ⟨⟨h.st.b0.box, h.st.b1.box⟩, h.m.b8.box.2.2.2⟩

set_option maxHeartbeats 4000000 in
set_option maxRecDepth 100000 in
theorem refReply_any (k : Nat) (x : ByteArray) (v u : Value) (l f : V.T) (k2 : Nat) (x2 : ByteArray) (v2 u2 : Value) (l2 f2 : V.T) (A A2 : Nat → Prop) (w : World) (hk : Fit ⟨#[]⟩ k x) (hk2 : Fit ⟨#[]⟩ k2 x2) (hl : HS w A 0 v l) (hf : HS w A 1 u f) (hl2 : HS w A2 0 v2 l2) (hf2 : HS w A2 1 u2 f2) (hm : l.size + f.size ≤ 1000000) (hm2 : l2.size + f2.size ≤ 1000000) :
    Calls Tryd.prog 17 #[.agg #[.int .u8 k, .string x, v, u], .agg #[.int .u8 k2, .string x2, v2, u2]] w (Own4 6 ⟨#[]⟩ .nil (replyT k x l f k2 x2 l2 f2) w) := by
  obtain ⟨i0, hi0, hz0, hz1, hz2⟩ := info_parts infoField
  have H0 := Lib.hid (TwoSt.start (k := k) (x := x) (k2 := k2) (x2 := x2) hl hf hl2 hf2)
  obtain ⟨p, c, rfl, -⟩ := hl.len
  obtain ⟨q, d, rfl, -⟩ := hf.len
  obtain ⟨p', c', rfl, -⟩ := hl2.len
  obtain ⟨q', d', rfl, -⟩ := hf2.len
  have HFI := Lib.hid (fun W (h1 : HS W (fun _ => True) 0 (.slice p l.len c) l) (h2 : HS W (fun _ => True) 1 (.slice q f.len d) f) => field_any ⟨#[105, 100]⟩ k x (.slice p l.len c) (.slice q f.len d) l f (fun _ => True) W hm h1 h2)
  have HFR := Lib.hid (fun W (h1 : HS W (fun _ => True) 0 (.slice p' l2.len c') l2) (h2 : HS W (fun _ => True) 1 (.slice q' f2.len d') f2) => field_any ⟨#[114, 101, 115, 117, 108, 116]⟩ k2 x2 (.slice p' l2.len c') (.slice q' f2.len d') l2 f2 (fun _ => True) W hm2 h1 h2)
  have HBG := Lib.hid begun_any
  have HK := Lib.hid (And.intro hk hk2)
  clear hl hf hl2 hf2 hk hk2 hm hm2
  go_enter Tryd.func17, Tryd.ntmps17
  go_wp2_with fail
  generalize ((w.alloc (.cells #[.int .u8 k, .string x, .slice p l.len c, .slice q f.len d] 25)).alloc (.cells #[.int .u8 k2, .string x2, .slice p' l2.len c', .slice q' f2.len d'] 25)).alloc (.cells #[.int .u8 0, .string ⟨#[]⟩, .slice none 0 0, .slice none 0 0] 25) = W0 at *
  refine (HBG.out _).mono ?_
  rintro e w1 ⟨v8, u8, g8, rfl, hO, hn1, hn2, hB1⟩
  have H1 := H0.out.on hB1
  have hs0 := H0.out.size
  have M2 := Msg.begin (w := w) (lo := w.heap.size + 3) (rb := w.heap.size + 2) H1.below H1.size H1.b2 (owns_mono hO hs0) hn1 hn2 (by omega) (by omega)
  have H2 := Lib.hid (show TwoMsg w k x (.slice p l.len c) (.slice q f.len d) l f k2 x2 (.slice p' l2.len c') (.slice q' f2.len d') l2 f2 w1.heap.size g8 1 1 [verG v8 u8] _ from ⟨H1.on ((Below.refl w1.heap.size w1).alloc (Nat.le_refl _) _), M2⟩)
  clear hO hn1 hn2 hB1 H1 M2 H0 hs0
  go_wp2_with fail
  generalize w1.alloc (.cells #[.int .u8 6, .string ⟨#[]⟩, .slice none 0 0, .slice (some ⟨g8, 0, none⟩) 1 1] 25) = W2 at *
  generalize w1.heap.size = B8 at *
  have HD := Lib.hid (H2.out.on (Below.refl W2.heap.size W2).drew)
  have HS0 := Lib.hid HD.out.ys
  refine wp_region_late (S := YS w.heap.size k x (.slice p l.len c) (.slice q f.len d) k2 x2 (.slice p' l2.len c') (.slice q' f2.len d') B8 (.slice (some ⟨g8, 0, none⟩) 1 1)) (zs := [7, 8, 9]) (by kernel_rfl) ?_
  refine wpAnyL_take (v := ?_) 0 rfl (by kernel_rfl) (by kernel_rfl) (by kernel_rfl) (fun _ _ _ h => h) (by kernel_rfl) (by kernel_rfl) HS0.out (by rfl) (fun X hX => ?_) ?_
  rotate_left
  · obtain ⟨⟨⟨s0, s1, s2, s3⟩, r0, r1, r2, r3⟩, t3⟩ := hX
    go_simp
    try with_reducible rfl
  try simp only [Act.put, List.setIfInBounds_toArray, List.set_cons_zero, List.set_cons_succ]
  refine wpAnyL_take (v := ?_) 1 rfl (by kernel_rfl) (by kernel_rfl) (by kernel_rfl) (fun _ _ _ h => h) (by kernel_rfl) (by kernel_rfl) HS0.out (by rfl) (fun X hX => ?_) ?_
  rotate_left
  · obtain ⟨⟨⟨s0, s1, s2, s3⟩, r0, r1, r2, r3⟩, t3⟩ := hX
    go_simp
    try with_reducible rfl
  try simp only [Act.put, List.setIfInBounds_toArray, List.set_cons_zero, List.set_cons_succ]
  refine wpAnyL_take (v := ?_) 2 rfl (by kernel_rfl) (by kernel_rfl) (by kernel_rfl) (fun _ _ _ h => h) (by kernel_rfl) (by kernel_rfl) HS0.out (by rfl) (fun X hX => ?_) ?_
  rotate_left
  · obtain ⟨⟨⟨s0, s1, s2, s3⟩, r0, r1, r2, r3⟩, t3⟩ := hX
    go_simp
    try with_reducible rfl
  try simp only [Act.put, List.setIfInBounds_toArray, List.set_cons_zero, List.set_cons_succ]
  refine wpAnyL_take (v := ?_) 4 rfl (by kernel_rfl) (by kernel_rfl) (by kernel_rfl) (fun _ _ _ h => h) (by kernel_rfl) (by kernel_rfl) HS0.out (by rfl) (fun X hX => ?_) ?_
  rotate_left
  · obtain ⟨⟨⟨s0, s1, s2, s3⟩, r0, r1, r2, r3⟩, t3⟩ := hX
    go_simp
    try with_reducible rfl
  try simp only [Act.put, List.setIfInBounds_toArray, List.set_cons_zero, List.set_cons_succ]
  refine wpAnyL_op 3 (by kernel_rfl) rfl (fun K hK => ?_)
  go_simp
  go_at_call 41
  (with_reducible refine (HFI.out _ HD.out.st.l HD.out.st.f).mono ?_)
  rintro e w5 ⟨v5, u5, rfl, hl5, hf5, hB5⟩
  have H5 := Lib.hid (HD.out.on hB5)
  refine hK.out _ _ (fun _ => H5.out.ys) ?_
  try simp only [Act.put, List.setIfInBounds_toArray, List.set_cons_zero, List.set_cons_succ]
  clear hK K
  refine wpAnyL_op 5 (by kernel_rfl) rfl (fun K hK => ?_)
  go_simp
  go_at_call 41
  (with_reducible refine (HFR.out _ H5.out.st.l2 H5.out.st.f2).mono ?_)
  rintro e w6 ⟨v6, u6, rfl, hl6, hf6, hB6⟩
  have H6 := Lib.hid (H5.out.on hB6)
  refine hK.out _ _ (fun _ => H6.out.ys) ?_
  try simp only [Act.put, List.setIfInBounds_toArray, List.set_cons_zero, List.set_cons_succ]
  clear hK K
  refine wpAnyL_op 6 (by kernel_rfl) rfl (fun K hK => ?_)
  go_simp
  have hB7 := (Below.refl w6.heap.size w6).alloc (Nat.le_refl _) (.cells #[.string ⟨#[105, 100]⟩, .int .u8 k, .string x, v5, u5, .string ⟨#[114, 101, 115, 117, 108, 116]⟩, .int .u8 k2, .string x2, v6, u6] 50)
  have H7 := Lib.hid (H6.out.on hB7)
  have L7 := lies_new (w := w6) (cs := #[.string ⟨#[105, 100]⟩, .int .u8 k, .string x, v5, u5, .string ⟨#[114, 101, 115, 117, 108, 116]⟩, .int .u8 k2, .string x2, v6, u6]) (es := [fe ⟨#[105, 100]⟩ k x l f v5 u5, fe ⟨#[114, 101, 115, 117, 108, 116]⟩ k2 x2 l2 f2 v6 u6]) (t := 50) (n := 2) rfl rfl (by decide)
  have hz5 : W2.heap.size ≤ w5.heap.size := hB5.size
  have hb8 : B8 < W2.heap.size := H2.out.m.b8.lt
  have hg8 : g8 < W2.heap.size := (H2.out.m.own.lt g8 rfl).2
  have hlo : w.heap.size + 3 ≤ W2.heap.size := H2.out.m.size
  have ok7 : ∀ e ∈ [fe ⟨#[105, 100]⟩ k x l f v5 u5, fe ⟨#[114, 101, 115, 117, 108, 116]⟩ k2 x2 l2 f2 v6 u6], e.Ok (w6.alloc (.cells #[.string ⟨#[105, 100]⟩, .int .u8 k, .string x, v5, u5, .string ⟨#[114, 101, 115, 117, 108, 116]⟩, .int .u8 k2, .string x2, v6, u6] 50)) (fun b => w.heap.size + 3 ≤ b ∧ b ≠ B8 ∧ b ≠ g8) := fun e he => by
    simp only [List.mem_cons, List.mem_nil_iff, or_false] at he
    rcases he with rfl | rfl
    · exact ⟨((hl5.mono (fun b (hb : W2.heap.size ≤ b) _ => ⟨by omega, by omega, by omega⟩)).below hB6).below hB7, ((hf5.mono (fun b (hb : W2.heap.size ≤ b) _ => ⟨by omega, by omega, by omega⟩)).below hB6).below hB7, HK.out.1.1, HK.out.1.2.1, by show (2 : Nat) ≤ _; decide⟩
    · exact ⟨(hl6.mono (fun b hb _ => ⟨by omega, by omega, by omega⟩)).below hB7, (hf6.mono (fun b hb _ => ⟨by omega, by omega, by omega⟩)).below hB7, HK.out.2.1, HK.out.2.2.1, by show (6 : Nat) ≤ _; decide⟩
  clear hB5 hB6 hB7 hl5 hf5 hl6 hf6 hz5 hb8 hg8 hlo H5 H6
  refine hK.out _ _ (fun _ => H7.out.ys) ?_
  try simp only [Act.put, List.setIfInBounds_toArray, List.set_cons_zero, List.set_cons_succ]
  clear hK K
  generalize w6.alloc (.cells #[.string ⟨#[105, 100]⟩, .int .u8 k, .string x, v5, u5, .string ⟨#[114, 101, 115, 117, 108, 116]⟩, .int .u8 k2, .string x2, v6, u6] 50) = W7 at *
  generalize w6.heap.size = g7 at *
  refine wpAnyL_op 7 (by kernel_rfl) rfl (fun K hK => ?_)
  refine step_append_lies _ (by rfl) _ _ _ (by rfl) (w.heap.size + 3) 50 i0 _ 5 88 Tryd.underlying23 hi0 hz0 hz1 hz2 rfl (by omega) (.slice (some ⟨g8, 0, none⟩) 1 1) 1 (cellsOf [verG v8 u8]) (by rfl) H7.out.m.own ⟨g7, 0, none⟩ 2 2 (cellsOf [fe ⟨#[105, 100]⟩ k x l f v5 u5, fe ⟨#[114, 101, 115, 117, 108, 116]⟩ k2 x2 l2 f2 v6 u6]) (by rfl) (cellsOf_len _) L7.news (cellsOf_one _ ok7) (by omega) (by unfold maxLen; omega) (by omega) H7.out.m.size W7.heap.size rfl ?_
  intro gg cap w11 own11 hg11 hat11 _
  have H11 := Lib.hid (H7.out.m.app (n2 := 3) ok7 rfl own11 hg11 hat11)
  clear own11 hg11 hat11 ok7 L7
  refine hK.out _ _ (fun e => absurd e (by decide)) ?_
  try simp only [Act.put, List.setIfInBounds_toArray, List.set_cons_zero, List.set_cons_succ]
  clear hK K
  refine wpAnyL_op 8 (by kernel_rfl) rfl (fun K hK => ?_)
  go_simp
  refine hK.out _ _ (fun e => absurd e (by decide)) ?_
  try simp only [Act.put, List.setIfInBounds_toArray, List.set_cons_zero, List.set_cons_succ]
  clear hK K
  obtain ⟨x0, x1, x2', x3⟩ := H11.out.1.box
  have f8 := H11.out.1.free
  refine wpAnyL_op 9 (by kernel_rfl) rfl (fun K hK => ?_)
  go_simp
  refine hK.out _ _ (fun e => absurd e (by decide)) ?_
  try simp only [Act.put, List.setIfInBounds_toArray, List.set_cons_zero, List.set_cons_succ]
  clear hK K x0 x1 x2' x3 f8
  have H12 := Lib.hid H11.out.2
  clear H11
  generalize w11.setCell ⟨B8, 3, none⟩ (.slice (some ⟨gg, 0, none⟩) 3 cap) = w12 at *
  refine wpAnyL_end (by kernel_rfl) ?_
  obtain ⟨x0, x1, x2', x3⟩ := H12.out.b8.box
  have b1 : Blk4 w12 (w.heap.size + 1 + 1) 25 _ _ _ _ := H12.out.brb
  obtain ⟨y0, y1, y2, y3⟩ := b1.box
  have f1 := b1.free
  have HB := Lib.hid b1
  clear b1
  go_wp2_with fail
  obtain ⟨k1, k4, k3⟩ := HB.out.all (.int .u8 6) (.string ⟨#[]⟩) (.slice none 0 0) (.slice (some ⟨gg, 0, none⟩) 3 cap)
  have hw4 := set4_else w12 (w.heap.size + 1 + 1) (.int .u8 6) (.string ⟨#[]⟩) (.slice none 0 0) (.slice (some ⟨gg, 0, none⟩) 3 cap)
  have k3' := k3 w.heap.size (by omega)
  clear x0 x1 x2' x3 y0 y1 y2 y3 f1
  generalize (((w12.setCell ⟨w.heap.size + 1 + 1, 0, none⟩ (.int .u8 6)).setCell ⟨w.heap.size + 1 + 1, 1, none⟩ (.string ⟨#[]⟩)).setCell ⟨w.heap.size + 1 + 1, 2, none⟩ (.slice none 0 0)).setCell ⟨w.heap.size + 1 + 1, 3, none⟩ (.slice (some ⟨gg, 0, none⟩) 3 cap) = w13 at *
  obtain ⟨x0, x1, x2', x3⟩ := k1.box
  refine bodyPost_ret (v := .agg #[.int .u8 6, .string ⟨#[]⟩, .slice none 0 0, .slice (some ⟨gg, 0, none⟩) 3 cap]) (by simp [results, Tryd.results17, go_sem, x0, x1, x2', x3]) rfl ?_
  exact ⟨_, _, rfl, HS.nil _ _ _, (H12.out.hs (by decide)).imp (fun b hb _ => by omega) (fun b hb _ => hw4 b (by omega)), H12.out.below.trans k3'⟩
end Go.Proofs.YtepjomdjkoaofaaDoor
