/- The reference's reply of an error: the same fields. Conditions: such as Go can hold; a text of at most 10000 bytes. -/
import Derived.Test.YtepjomdjkoaofaaDoorMM23
import Derived.Test.YtepjomdjkoaofaaDoorMM25
import Derived.Test.YtepjomdjkoaofaaDoorMM26
import Derived.Test.YtepjomdjkoaofaaDoorMM27
import Derived.Test.YtepjomdjkoaofaaDoorMM02
namespace Go.Proofs.YtepjomdjkoaofaaDoor
open Go Go.RowKit Go.Lib

def fe (nm : ByteArray) (k : Nat) (x : ByteArray) (l f : V.T) (v u : Value) : Fe := ⟨nm, k, x, v, u, l, f⟩
/-- behind the second statement -/
structure R2 (w : World) (k : Nat) (x : ByteArray) (v u : Value) (l f : V.T) (e : V.T) (B7 g : Nat) (W : World) : Prop where
  st : FaSt w k x v u l f W
  b7 : Blk4 W B7 25 (.int .u8 6) (.string ⟨#[]⟩) (.slice none 0 0) (.slice (some ⟨g, 0, none⟩) 2 2)
  e : HS W (fun _ => True) 1 (.slice (some ⟨g, 0, none⟩) 2 2) e
theorem R2.on {w : World} {k : Nat} {x : ByteArray} {v u : Value} {l f : V.T} {e : V.T} {B7 g : Nat} {W W' : World} (h : R2 w k x v u l f e B7 g W) (hB : Below W.heap.size W W') : R2 w k x v u l f e B7 g W' :=
  ⟨h.st.on hB, h.b7.same (hB.block _ h.b7.lt), h.e.below hB⟩
/-- before the fields are put to the message -/
structure R3 (w : World) (k : Nat) (x : ByteArray) (v u : Value) (l f : V.T) (e : V.T) (B7 g B8 g8 : Nat) (v8 u8 : Value) (W : World) : Prop where
  r2 : R2 w k x v u l f e B7 g W
  b8 : Blk4 W B8 25 (.int .u8 6) (.string ⟨#[]⟩) (.slice none 0 0) (.slice (some ⟨g8, 0, none⟩) 1 1)
  own : W.ownsRow (w.heap.size + 2) 50 5 (.slice (some ⟨g8, 0, none⟩) 1 1) 1 (cellsOf [verG v8 u8])
  lt8 : w.heap.size + 2 ≤ B8
  ne8 : g8 < B8
  n1 : HS W (fun _ => True) 0 v8 .nil
  n2 : HS W (fun _ => True) 1 u8 .nil
theorem R3.on {w : World} {k : Nat} {x : ByteArray} {v u : Value} {l f : V.T} {e : V.T} {B7 g B8 g8 : Nat} {v8 u8 : Value} {W W' : World} (h : R3 w k x v u l f e B7 g B8 g8 v8 u8 W) (hB : Below W.heap.size W W') : R3 w k x v u l f e B7 g B8 g8 v8 u8 W' :=
  ⟨h.r2.on hB, h.b8.same (hB.block _ h.b8.lt), ownsRow_below h.own hB, h.lt8, h.ne8, h.n1.below hB, h.n2.below hB⟩

def RS (N : Nat) (k : Nat) (x : ByteArray) (v u : Value) (B7 g B8 g8 : Nat) (X : World) : Prop :=
  (X.cell? ⟨N, 0, none⟩ = some (.int .u8 k) ∧ X.cell? ⟨N, 1, none⟩ = some (.string x) ∧ X.cell? ⟨N, 2, none⟩ = some v ∧ X.cell? ⟨N, 3, none⟩ = some u) ∧
  (X.cell? ⟨B7, 0, none⟩ = some (.int .u8 6) ∧ X.cell? ⟨B7, 1, none⟩ = some (.string ⟨#[]⟩) ∧ X.cell? ⟨B7, 2, none⟩ = some (.slice none 0 0) ∧ X.cell? ⟨B7, 3, none⟩ = some (.slice (some ⟨g, 0, none⟩) 2 2)) ∧
  X.cell? ⟨B8, 3, none⟩ = some (.slice (some ⟨g8, 0, none⟩) 1 1)
theorem R3.rs {w : World} {k : Nat} {x : ByteArray} {v u : Value} {l f : V.T} {e : V.T} {B7 g B8 g8 : Nat} {v8 u8 : Value} {W : World} (h : R3 w k x v u l f e B7 g B8 g8 v8 u8 W) : RS w.heap.size k x v u B7 g B8 g8 W :=
  ⟨h.r2.st.b0.box, h.r2.b7.box, h.b8.box.2.2.2⟩
theorem owns_mono {w : World} {base base' : Nat} {e : TypeId} {size n : Nat} {v : Value} {xs : List Value} (h : w.ownsRow base e size v n xs) (hb : base' ≤ base) : w.ownsRow base' e size v n xs := by
  refine ⟨h.1, ?_⟩
  rcases h.2 with h2 | ⟨g, cap, cur, e, hb', r⟩
  · exact .inl h2
  · exact .inr ⟨g, cap, cur, e, Nat.le_trans hb hb', r⟩
structure R4 (w : World) (B8 : Nat) (s8 : Value) (gg cap : Nat) (T : V.T) (W : World) : Prop where
  below : Below w.heap.size w W
  b1 : Blk4 W (w.heap.size + 1) 25 (.int .u8 0) (.string ⟨#[]⟩) (.slice none 0 0) (.slice none 0 0)
  b8 : Blk4 W B8 25 (.int .u8 6) (.string ⟨#[]⟩) (.slice none 0 0) s8
  hs : HS W (fun b => w.heap.size + 2 ≤ b ∧ b ≠ B8) 1 (.slice (some ⟨gg, 0, none⟩) 3 cap) T
  lt8 : w.heap.size + 2 ≤ B8
theorem R3.app {w : World} {k : Nat} {x : ByteArray} {v u : Value} {l f : V.T} {e : V.T} {B7 g B8 g8 : Nat} {v8 u8 : Value} {W7 W w11 : World} {es : List Fe} {gg cap : Nat} (h7 : R3 w k x v u l f e B7 g B8 g8 v8 u8 W7) (h : R3 w k x v u l f e B7 g B8 g8 v8 u8 W) (hle : W7.heap.size ≤ W.heap.size)
    (ok : ∀ e ∈ es, e.Ok W (fun b => W7.heap.size ≤ b)) (hlen : es.length = 2) (own : w11.ownsRow (w.heap.size + 2) 50 5 (.slice (some ⟨gg, 0, none⟩) 3 cap) 3 (cellsOf (verG v8 u8 :: es)))
    (hg : W.grownBy w11 (some g8)) (hat : some g8 = some gg ∨ gg = W.heap.size) : R4 w B8 (.slice (some ⟨g8, 0, none⟩) 1 1) gg cap (treeOf (verG v8 u8 :: es)) w11 := by
  have hg8 : w.heap.size + 2 ≤ g8 := (h.own.lt g8 rfl).1
  have hB8 : B8 < W7.heap.size := h7.b8.lt
  have hne := h7.ne8
  have hgg : w.heap.size + 2 ≤ gg := (own.lt gg rfl).1
  refine ⟨h.r2.st.below.grown hg (by have := h.r2.st.size; omega) (fun k hk => by cases hk; omega), h.r2.st.b1.same (hg.block _ h.r2.st.b1.lt (fun e => by cases e; omega)), h.b8.same (hg.block _ h.b8.lt (fun e => by cases e; omega)), ?_, h.lt8⟩
  refine Lies.hs (lies_owned (by simp; omega) own) (fun e he => ?_) (fun b hb => ?_) (by simp; omega)
  · rcases List.mem_cons.1 he with rfl | he
    · exact ⟨hs_nil_any h.n1, hs_nil_any h.n2, by show (4 : Nat) < 256; decide, by show (3 : Nat) ≤ _; decide, by show (7 : Nat) ≤ _; decide⟩
    · exact (ok e he).imp (fun b hb _ => ⟨by have := h.lt8; omega, by omega⟩) (fun b hb hlt => hg.block b hlt (fun e => by cases e; omega))
  · cases hb
    refine ⟨hgg, ?_⟩
    rcases hat with h1 | h1
    · have h2 : g8 = gg := Option.some.inj h1
      show gg ≠ B8
      omega
    · have h2 := h.b8.lt
      show gg ≠ B8
      omega
theorem R4.set {w : World} {B8 : Nat} {s8 : Value} {gg cap : Nat} {T : V.T} {W : World} (h : R4 w B8 s8 gg cap T W) : R4 w B8 (.slice (some ⟨gg, 0, none⟩) 3 cap) gg cap T (W.setCell ⟨B8, 3, none⟩ (.slice (some ⟨gg, 0, none⟩) 3 cap)) :=
  ⟨h.below.setCell (by have := h.lt8; show _ ≤ B8; omega) _, h.b1.else (by have := h.lt8; omega), h.b8.set3 _, h.hs.imp (fun _ a _ => a) (fun b hb _ => Below.heap_setCell _ _ _ b hb.2), h.lt8⟩
set_option maxHeartbeats 4000000 in
set_option maxRecDepth 100000 in
theorem refFail_any (k : Nat) (x : ByteArray) (v u : Value) (l f : V.T) (A : Nat → Prop) (n : Int) (s : ByteArray) (w : World) (hk : Fit ⟨#[]⟩ k x) (hl : HS w A 0 v l) (hf : HS w A 1 u f) (hm : l.size + f.size ≤ 1000000)
    (hn : -9223372036854775808 ≤ n ∧ n ≤ 9223372036854775807) (hs : s.size ≤ 10000) :
    Calls Tryd.prog 18 #[.agg #[.int .u8 k, .string x, v, u], .int .i64 n, .string s] w (Own4 6 ⟨#[]⟩ .nil (failT k x l f n (U.fixS s)) w) := by
  obtain ⟨i0, hi0, hz0, hz1, hz2⟩ := info_parts infoField
  obtain ⟨p, c, rfl, -⟩ := hl.len
  obtain ⟨q, d, rfl, -⟩ := hf.len
  have hz : (U.fixS s).size ≤ 30000 := by have := U.fix_size s; omega
  have HNU := Lib.hid (show ∀ W, Calls Tryd.prog 44 #[.int .i64 n] W (fun e w' => e = .returned (.agg #[.int .u8 3, .string (numT n), .slice none 0 0, .slice none 0 0]) ∧ Below W.heap.size W w') from fun W => refNumber_any n hn.1 hn.2 W)
  have HT := Lib.hid (fun W => refText4_any s W (by omega))
  generalize U.fixS s = F at *
  have hfc := fun W => field_any ⟨#[99, 111, 100, 101]⟩ 3 (numT n) (.slice none 0 0) (.slice none 0 0) .nil .nil (fun _ => True) W (by decide) (HS.nil _ _ _) (HS.nil _ _ _)
  have hfm := fun W => field_any ⟨#[109, 101, 115, 115, 97, 103, 101]⟩ 4 F (.slice none 0 0) (.slice none 0 0) .nil .nil (fun _ => True) W (by decide) (HS.nil _ _ _) (HS.nil _ _ _)
  have hfi := fun W (h1 : HS W (fun _ => True) 0 (.slice p l.len c) l) (h2 : HS W (fun _ => True) 1 (.slice q f.len d) f) => field_any ⟨#[105, 100]⟩ k x (.slice p l.len c) (.slice q f.len d) l f (fun _ => True) W hm h1 h2
  have hfe := fun W (g : Nat) (h : HS W (fun _ => True) 1 (.slice (some ⟨g, 0, none⟩) 2 2) (treeOf [codeF n, msgF F])) => field_any ⟨#[101, 114, 114, 111, 114]⟩ 6 ⟨#[]⟩ (.slice none 0 0) (.slice (some ⟨g, 0, none⟩) 2 2) .nil (treeOf [codeF n, msgF F]) (fun _ => True) W (by show (2 : Nat) ≤ _; decide) (HS.nil _ _ _) h
  simp only [show ((6 : Nat) : Int) = 6 from rfl] at hfe
  have HFC := Lib.hid hfc
  have HFM := Lib.hid hfm
  have HFI := Lib.hid hfi
  have HFE := Lib.hid hfe
  have HBG := Lib.hid begun_any
  have H0 := Lib.hid (show FaSt w k x (.slice p l.len c) (.slice q f.len d) l f ((w.alloc (.cells #[.int .u8 k, .string x, .slice p l.len c, .slice q f.len d] 25)).alloc (.cells #[.int .u8 0, .string ⟨#[]⟩, .slice none 0 0, .slice none 0 0] 25)) from
    ⟨two_below _ _ _, by rw [two_size]; omega, (two_new _ _ _).1, (two_new _ _ _).2, (hl.mono (fun _ _ _ => trivial)).below (two_below _ _ _), (hf.mono (fun _ _ _ => trivial)).below (two_below _ _ _)⟩)
  have HK := Lib.hid hk
  have HC := Lib.hid (num_fit n hn.1 hn.2)
  have HZ := Lib.hid hz
  clear hl hf hn hs hk hz hfc hfm hfi hfe hm
  go_enter Tryd.func18, Tryd.ntmps18
  go_wp2_with fail
  refine (HNU.out _).mono ?_
  rintro e w1 ⟨rfl, hB1⟩
  have H1 := Lib.hid (H0.out.on hB1)
  clear hB1 H0
  go_wp2_with fail
  refine (HFC.out _).mono ?_
  rintro e w2 ⟨v2, u2, rfl, hl2, hf2, hB2⟩
  have H2 := Lib.hid (H1.out.on hB2)
  have HV2 := Lib.hid (fun W => And.intro (hs_nil_any (w' := W) (A' := fun _ => True) hl2) (hs_nil_any (w' := W) (A' := fun _ => True) hf2))
  obtain ⟨p2, c2, rfl, -⟩ := hl2.len
  obtain ⟨q2, d2, rfl, -⟩ := hf2.len
  clear hB2 H1 hl2 hf2
  go_wp2_with fail
  refine (HT.out _).mono ?_
  rintro e w3 ⟨rfl, hB3⟩
  have H3 := Lib.hid (H2.out.on hB3)
  clear hB3 H2
  go_wp2_with fail
  refine (HFM.out _).mono ?_
  rintro e w4 ⟨v4, u4, rfl, hl4, hf4, hB4⟩
  have H4 := Lib.hid (H3.out.on hB4)
  have HV4 := Lib.hid (fun W => And.intro (hs_nil_any (w' := W) (A' := fun _ => True) hl4) (hs_nil_any (w' := W) (A' := fun _ => True) hf4))
  obtain ⟨p4, c4, rfl, -⟩ := hl4.len
  obtain ⟨q4, d4, rfl, -⟩ := hf4.len
  clear hB4 H3 hl4 hf4
  go_wp2_with fail
  have H5 := Lib.hid (show R2 w k x (.slice p l.len c) (.slice q f.len d) l f (treeOf [codeF n, msgF F]) (w4.heap.size + 1) w4.heap.size ((w4.alloc (.cells #[.string ⟨#[99, 111, 100, 101]⟩, .int .u8 3, .string (numT n), .slice p2 V.T.nil.len c2, .slice q2 V.T.nil.len d2, .string ⟨#[109, 101, 115, 115, 97, 103, 101]⟩, .int .u8 4, .string F, .slice p4 V.T.nil.len c4, .slice q4 V.T.nil.len d4] 50)).alloc (.cells #[.int .u8 6, .string ⟨#[]⟩, .slice none 0 0, .slice (some ⟨w4.heap.size, 0, none⟩) 2 2] 25)) from by
    refine ⟨H4.out.on (two_below _ _ _), (two_new _ _ _).2, ?_⟩
    have hL := lies_new (w := w4) (cs := #[.string ⟨#[99, 111, 100, 101]⟩, .int .u8 3, .string (numT n), .slice p2 V.T.nil.len c2, .slice q2 V.T.nil.len d2, .string ⟨#[109, 101, 115, 115, 97, 103, 101]⟩, .int .u8 4, .string F, .slice p4 V.T.nil.len c4, .slice q4 V.T.nil.len d4]) (es := [fe ⟨#[99, 111, 100, 101]⟩ 3 (numT n) .nil .nil (.slice p2 V.T.nil.len c2) (.slice q2 V.T.nil.len d2), fe ⟨#[109, 101, 115, 115, 97, 103, 101]⟩ 4 F .nil .nil (.slice p4 V.T.nil.len c4) (.slice q4 V.T.nil.len d4)]) (t := 50) (n := 2) rfl rfl (by decide)
    refine (hL.hs (A := fun _ => True) (fun e he => ?_) (fun _ _ => trivial) (by show (2 : Nat) ≤ _; decide)).alloc _
    simp only [List.mem_cons, List.mem_nil_iff, or_false] at he
    rcases he with rfl | rfl
    · exact ⟨(HV2.out _).1, (HV2.out _).2, HC.out _ (by show (4 : Nat) ≤ _; decide)⟩
    · exact ⟨(HV4.out _).1, (HV4.out _).2, by show (4 : Nat) < 256; decide, by show F.size ≤ _; have := HZ.out; omega, by show (7 : Nat) ≤ _; decide⟩)
  refine (HBG.out _).mono ?_
  rintro e w6 ⟨v8, u8, g8, rfl, hO, hn1, hn2, hB6⟩
  have hs5 := H5.out.st.size
  have H6 := Lib.hid (H5.out.on hB6)
  have hlt8 := (hO.lt g8 rfl).2
  have hB7 := (Below.refl w6.heap.size w6).alloc (Nat.le_refl _) (.cells #[.int .u8 6, .string ⟨#[]⟩, .slice none 0 0, .slice (some ⟨g8, 0, none⟩) 1 1] 25)
  have hs6 := H6.out.st.size
  have H7 := Lib.hid (show R3 w k x (.slice p l.len c) (.slice q f.len d) l f (treeOf [codeF n, msgF F]) (w4.heap.size + 1) w4.heap.size w6.heap.size g8 v8 u8 (w6.alloc (.cells #[.int .u8 6, .string ⟨#[]⟩, .slice none 0 0, .slice (some ⟨g8, 0, none⟩) 1 1] 25)) from
    ⟨H6.out.on hB7, heap_alloc_new _ _, ownsRow_below (owns_mono hO (by omega)) hB7, by omega, hlt8, hn1.below hB7, hn2.below hB7⟩)
  clear hO hn1 hn2 hB6 hB7 H5 H6 H4 HV2 HV4
  go_wp2_with fail
  generalize w6.alloc (.cells #[.int .u8 6, .string ⟨#[]⟩, .slice none 0 0, .slice (some ⟨g8, 0, none⟩) 1 1] 25) = W7 at *
  generalize w6.heap.size = B8 at *
  generalize w4.heap.size = g7 at *
  have HD := Lib.hid (H7.out.on (Below.refl W7.heap.size W7).drew)
  have HS0 := Lib.hid HD.out.rs
  refine wp_region_late (S := RS w.heap.size k x (.slice p l.len c) (.slice q f.len d) (g7 + 1) g7 B8 g8) (zs := [7, 8, 9]) (by kernel_rfl) ?_
  refine wpAnyL_take (v := ?_) 0 rfl (by kernel_rfl) (by kernel_rfl) (by kernel_rfl) (fun _ _ _ h => h) (by kernel_rfl) (by kernel_rfl) HS0.out (by rfl) (fun X hX => ?_) ?_
  rotate_left
  · obtain ⟨⟨s0, s1, s2, s3⟩, ⟨r0, r1, r2, r3⟩, t3⟩ := hX
    go_simp
    try with_reducible rfl
  try simp only [Act.put, List.setIfInBounds_toArray, List.set_cons_zero, List.set_cons_succ]
  refine wpAnyL_take (v := ?_) 1 rfl (by kernel_rfl) (by kernel_rfl) (by kernel_rfl) (fun _ _ _ h => h) (by kernel_rfl) (by kernel_rfl) HS0.out (by rfl) (fun X hX => ?_) ?_
  rotate_left
  · obtain ⟨⟨s0, s1, s2, s3⟩, ⟨r0, r1, r2, r3⟩, t3⟩ := hX
    go_simp
    try with_reducible rfl
  try simp only [Act.put, List.setIfInBounds_toArray, List.set_cons_zero, List.set_cons_succ]
  refine wpAnyL_take (v := ?_) 2 rfl (by kernel_rfl) (by kernel_rfl) (by kernel_rfl) (fun _ _ _ h => h) (by kernel_rfl) (by kernel_rfl) HS0.out (by rfl) (fun X hX => ?_) ?_
  rotate_left
  · obtain ⟨⟨s0, s1, s2, s3⟩, ⟨r0, r1, r2, r3⟩, t3⟩ := hX
    go_simp
    try with_reducible rfl
  try simp only [Act.put, List.setIfInBounds_toArray, List.set_cons_zero, List.set_cons_succ]
  refine wpAnyL_take (v := ?_) 4 rfl (by kernel_rfl) (by kernel_rfl) (by kernel_rfl) (fun _ _ _ h => h) (by kernel_rfl) (by kernel_rfl) HS0.out (by rfl) (fun X hX => ?_) ?_
  rotate_left
  · obtain ⟨⟨s0, s1, s2, s3⟩, ⟨r0, r1, r2, r3⟩, t3⟩ := hX
    go_simp
    try with_reducible rfl
  try simp only [Act.put, List.setIfInBounds_toArray, List.set_cons_zero, List.set_cons_succ]
  refine wpAnyL_op 3 (by kernel_rfl) rfl (fun K hK => ?_)
  go_simp
  go_at_call 41
  (with_reducible refine (HFI.out _ HD.out.r2.st.l HD.out.r2.st.f).mono ?_)
  rintro e w8 ⟨v3, u3, rfl, hl3, hf3, hB8⟩
  have H8 := Lib.hid (HD.out.on hB8)
  refine hK.out _ _ (fun _ => H8.out.rs) ?_
  try simp only [Act.put, List.setIfInBounds_toArray, List.set_cons_zero, List.set_cons_succ]
  clear hK K
  refine wpAnyL_op 5 (by kernel_rfl) rfl (fun K hK => ?_)
  go_simp
  go_at_call 41
  (with_reducible refine (HFE.out _ _ H8.out.r2.e).mono ?_)
  rintro e w9 ⟨v9, u9, rfl, hl9, hf9, hB9⟩
  have H9 := Lib.hid (H8.out.on hB9)
  refine hK.out _ _ (fun _ => H9.out.rs) ?_
  try simp only [Act.put, List.setIfInBounds_toArray, List.set_cons_zero, List.set_cons_succ]
  clear hK K
  refine wpAnyL_op 6 (by kernel_rfl) rfl (fun K hK => ?_)
  go_simp
  have hBa := (Below.refl w9.heap.size w9).alloc (Nat.le_refl _) (.cells #[.string ⟨#[105, 100]⟩, .int .u8 k, .string x, v3, u3, .string ⟨#[101, 114, 114, 111, 114]⟩, .int .u8 6, .string ⟨#[]⟩, v9, u9] 50)
  have H10 := Lib.hid (H9.out.on hBa)
  have L10 := lies_new (w := w9) (cs := #[.string ⟨#[105, 100]⟩, .int .u8 k, .string x, v3, u3, .string ⟨#[101, 114, 114, 111, 114]⟩, .int .u8 6, .string ⟨#[]⟩, v9, u9]) (es := [fe ⟨#[105, 100]⟩ k x l f v3 u3, fe ⟨#[101, 114, 114, 111, 114]⟩ 6 ⟨#[]⟩ .nil (treeOf [codeF n, msgF F]) v9 u9]) (t := 50) (n := 2) rfl rfl (by decide)
  have hz8 : W7.heap.size ≤ w8.heap.size := hB8.size
  have ok10 : ∀ e ∈ [fe ⟨#[105, 100]⟩ k x l f v3 u3, fe ⟨#[101, 114, 114, 111, 114]⟩ 6 ⟨#[]⟩ .nil (treeOf [codeF n, msgF F]) v9 u9], e.Ok (w9.alloc (.cells #[.string ⟨#[105, 100]⟩, .int .u8 k, .string x, v3, u3, .string ⟨#[101, 114, 114, 111, 114]⟩, .int .u8 6, .string ⟨#[]⟩, v9, u9] 50)) (fun b => W7.heap.size ≤ b) := fun e he => by
    simp only [List.mem_cons, List.mem_nil_iff, or_false] at he
    rcases he with rfl | rfl
    · exact ⟨(hl3.below hB9).below hBa, (hf3.below hB9).below hBa, HK.out.1, HK.out.2.1, by show (2 : Nat) ≤ _; decide⟩
    · exact ⟨(hl9.mono (fun b hb _ => Nat.le_trans hz8 hb)).below hBa, (hf9.mono (fun b hb _ => Nat.le_trans hz8 hb)).below hBa, by show (6 : Nat) < 256; decide, by show (0 : Nat) ≤ _; decide, by show (5 : Nat) ≤ _; decide⟩
  have hle10 : W7.heap.size ≤ (w9.alloc (.cells #[.string ⟨#[105, 100]⟩, .int .u8 k, .string x, v3, u3, .string ⟨#[101, 114, 114, 111, 114]⟩, .int .u8 6, .string ⟨#[]⟩, v9, u9] 50)).heap.size := Nat.le_trans hz8 (Nat.le_trans hB9.size hBa.size)
  clear hB8 hB9 hBa hl3 hf3 hl9 hf9 hz8 H8 H9
  refine hK.out _ _ (fun _ => H10.out.rs) ?_
  try simp only [Act.put, List.setIfInBounds_toArray, List.set_cons_zero, List.set_cons_succ]
  clear hK K
  generalize w9.alloc (.cells #[.string ⟨#[105, 100]⟩, .int .u8 k, .string x, v3, u3, .string ⟨#[101, 114, 114, 111, 114]⟩, .int .u8 6, .string ⟨#[]⟩, v9, u9] 50) = W10 at *
  generalize w9.heap.size = g10 at *
  refine wpAnyL_op 7 (by kernel_rfl) rfl (fun K hK => ?_)
  refine step_append_lies _ (by rfl) _ _ _ (by rfl) (w.heap.size + 2) 50 i0 _ 5 88 Tryd.underlying23 hi0 hz0 hz1 hz2 rfl (by omega) (.slice (some ⟨g8, 0, none⟩) 1 1) 1 (cellsOf [verG v8 u8]) (by rfl) H10.out.own ⟨g10, 0, none⟩ 2 2 (cellsOf [fe ⟨#[105, 100]⟩ k x l f v3 u3, fe ⟨#[101, 114, 114, 111, 114]⟩ 6 ⟨#[]⟩ .nil (treeOf [codeF n, msgF F]) v9 u9]) (by rfl) (cellsOf_len _) L10.news (cellsOf_one _ ok10) (by omega) (by unfold maxLen; omega) (by omega) H10.out.r2.st.size W10.heap.size rfl ?_
  intro gg cap w11 own11 hg11 hat11 _
  have H11 := Lib.hid (R3.app H7.out H10.out hle10 ok10 rfl own11 hg11 hat11)
  clear own11 hg11 hat11 ok10 L10 hle10
  refine hK.out _ _ (fun e => absurd e (by decide)) ?_
  try simp only [Act.put, List.setIfInBounds_toArray, List.set_cons_zero, List.set_cons_succ]
  clear hK K
  refine wpAnyL_op 8 (by kernel_rfl) rfl (fun K hK => ?_)
  go_simp
  refine hK.out _ _ (fun e => absurd e (by decide)) ?_
  try simp only [Act.put, List.setIfInBounds_toArray, List.set_cons_zero, List.set_cons_succ]
  clear hK K
  obtain ⟨x0, x1, x2, x3⟩ := H11.out.b8.box
  have f8 := H11.out.b8.free
  refine wpAnyL_op 9 (by kernel_rfl) rfl (fun K hK => ?_)
  go_simp
  refine hK.out _ _ (fun e => absurd e (by decide)) ?_
  try simp only [Act.put, List.setIfInBounds_toArray, List.set_cons_zero, List.set_cons_succ]
  clear hK K x0 x1 x2 x3 f8
  have H12 := Lib.hid H11.out.set
  generalize w11.setCell ⟨B8, 3, none⟩ (.slice (some ⟨gg, 0, none⟩) 3 cap) = w12 at *
  refine wpAnyL_end (by kernel_rfl) ?_
  obtain ⟨x0, x1, x2, x3⟩ := H12.out.b8.box
  obtain ⟨y0, y1, y2, y3⟩ := H12.out.b1.box
  have f1 := H12.out.b1.free
  go_wp2_with fail
  obtain ⟨k1, k2, k3⟩ := H12.out.b1.all (.int .u8 6) (.string ⟨#[]⟩) (.slice none 0 0) (.slice (some ⟨gg, 0, none⟩) 3 cap)
  have hw4 := set4_else w12 (w.heap.size + 1) (.int .u8 6) (.string ⟨#[]⟩) (.slice none 0 0) (.slice (some ⟨gg, 0, none⟩) 3 cap)
  have k3' := k3 w.heap.size (Nat.le_succ _)
  clear x0 x1 x2 x3 y0 y1 y2 y3 f1
  generalize (((w12.setCell ⟨w.heap.size + 1, 0, none⟩ (.int .u8 6)).setCell ⟨w.heap.size + 1, 1, none⟩ (.string ⟨#[]⟩)).setCell ⟨w.heap.size + 1, 2, none⟩ (.slice none 0 0)).setCell ⟨w.heap.size + 1, 3, none⟩ (.slice (some ⟨gg, 0, none⟩) 3 cap) = w13 at *
  obtain ⟨x0, x1, x2, x3⟩ := k1.box
  refine bodyPost_ret (v := .agg #[.int .u8 6, .string ⟨#[]⟩, .slice none 0 0, .slice (some ⟨gg, 0, none⟩) 3 cap]) (by simp [results, Tryd.results18, go_sem, x0, x1, x2, x3]) rfl ?_
  exact ⟨_, _, rfl, HS.nil _ _ _, H12.out.hs.imp (fun b hb _ => by omega) (fun b hb _ => hw4 b (by omega)), H12.out.below.trans k3'⟩
end Go.Proofs.YtepjomdjkoaofaaDoor
