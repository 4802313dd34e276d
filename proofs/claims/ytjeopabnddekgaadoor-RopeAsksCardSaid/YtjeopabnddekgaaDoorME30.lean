/- A stretch of a text is replaced. Conditions: texts of at most 10^9 bytes; the library's tables. -/
import Derived.Test.YtjeopabnddekgaaDoorME29
import Derived.Shelf.Strings.BuilderK
import Derived.Test.YtjeopabnddekgaaDoorProg
import Derived.Shelf.Lays
import Derived.Shelf.LaysM
import Derived.KernelRfl
import Derived.Test.YtjeopabnddekgaaDoorME11
import Derived.Shelf.Unicode.ValidAny
namespace Go.Proofs.YtjeopabnddekgaaDoor
open Go Go.RowKit Go.Lib

theorem ext_join (s : ByteArray) (a b c : Nat) (h1 : a ≤ b) (h2 : b ≤ c) (h3 : c ≤ s.size) : s.extract a b ++ s.extract b c = s.extract a c := by
  apply ByteArray.ext
  rw [ByteArray.data_append, ByteArray.data_extract, ByteArray.data_extract, ByteArray.data_extract]
  simp
  rw [Nat.min_eq_left h1, Nat.max_eq_right h2]
theorem ext_left (x y : ByteArray) : (x ++ y).extract 0 x.size = x := by
  rw [R.ext_app, R.ext_all x _ (Nat.le_refl _), R.ext_none y _ _ (.inl (by omega))]
  exact R.app_none _ _ rfl
theorem ext_right (x y : ByteArray) : (x ++ y).extract x.size (x ++ y).size = y := by
  rw [R.ext_app, R.ext_none x _ _ (.inr (Nat.le_refl _)), Nat.sub_self, U.app_size, Nat.add_sub_cancel_left, R.ext_all y _ (Nat.le_refl _)]
  exact R.empty_app _
theorem NT.others {w w' : World} {N b : Nat} (hK : Lib.OthersKept 5 (some b) w w') (hb : ∃ cs fr, w.heap[b]? = some (.cells cs 93 fr)) : ∀ {t : R.T} {v : Value}, NT w N v t → NT w' N v t
  | .none, _, h => h
  | .leaf s, _, ⟨g, hg, hv, h⟩ => ⟨g, hg, hv, hK g _ h (fun e => by
      obtain ⟨cs, fr, hb⟩ := hb
      cases e
      unfold LeafAt at h
      rw [hb] at h
      injection h with h
      injection h with _ h _
      exact absurd h (by decide)) (fun c fz e => by injection e with _ h _; exact absurd h (by decide))⟩
  | .inner d l r, _, ⟨g, vl, vr, hg, hv, h, hl, hr⟩ => ⟨g, vl, vr, hg, hv, hK g _ h (fun e => by
      obtain ⟨cs, fr, hb⟩ := hb
      cases e
      unfold InnerAt at h
      rw [hb] at h
      injection h with h
      injection h with _ h _
      exact absurd h (by decide)) (fun c fz e => by injection e with _ h _; exact absurd h (by decide)), NT.others hK hb hl, NT.others hK hb hr⟩
theorem string_any (N b : Nat) (x : ByteArray) (w : World) (h : IsB N b (Lib.strCells x) w) (hN : N ≤ w.heap.size) :
    Calls Tryd.prog 48 #[.pointer (some ⟨b, 0, none⟩)] w fun e w' => e = .returned (.string x) ∧ Below N w w' ∧ ∀ M v t, NT w M v t → NT w' M v t := by
  have hb : ∃ cs fr, w.heap[b]? = some (.cells cs 93 fr) := by
    rcases h with h | h
    · obtain ⟨_, v, h, _⟩ := h; exact ⟨_, _, h⟩
    · obtain ⟨_, v, h, _⟩ := h; exact ⟨_, _, h⟩
  refine (Any.Builder_String_any_k Tryd.laysBString Tryd.X_laysBString_ren N b x.data.toList w (Lib.IsBuilderF.of h) hN).mono ?_
  rintro e w' ⟨rfl, -, hB, hK⟩
  exact ⟨by rw [Array.toArray_toList], hB, fun M v t hn => NT.others hK hb hn⟩
theorem mid_bytes {x a s b : ByteArray} (ta tb tc td : ByteArray) (f k p q : Nat) (h1 : x = ta ++ tb) (h2 : ta.size = p) (h3 : x = tc ++ td) (h4 : tc.size = q) (hp : p ≤ f) (hf : f ≤ x.size) (hk : k ≤ q) (hq : q ≤ x.size) (ha : a = x.extract p f) (hb : b = x.extract k q) :
    ta ++ (a ++ s ++ b) ++ td = x.extract 0 f ++ s ++ x.extract k x.size := by
  have e1 : x.extract 0 p = ta := by rw [h1, ← h2]; exact ext_left _ _
  have e2 : x.extract q x.size = td := by rw [h3, ← h4]; exact ext_right _ _
  rw [ha, hb, ← e1, ← e2, ← ext_join x 0 p f (by omega) hp hf, ← ext_join x k q x.size hk hq (Nat.le_refl _)]
  simp only [ByteArray.append_assoc]
theorem IsB.fresh (w : World) : IsB w.heap.size w.heap.size [] (w.alloc (.cells #[.pointer none, .slice none 0 0] 93)) := .inl ((Lib.fresh_isBuilder 93 5 w).elim id (fun h => by
  obtain ⟨_, v, hb, _⟩ := h
  rw [heap_alloc_new] at hb
  cases hb))
/-- where the stretch that is built anew begins and ends -/
theorem around (t : R.T) (ht : t.Fit) (f k : Nat) (hf : f ≤ k) (hk : k ≤ t.tx.size) (v1 : U.valid (t.tx.extract 0 f) = true) (v2 : U.valid (t.tx.extract k t.tx.size) = true) :
    ∃ (c1 c2 : R.Cn) (s1 s2 : ByteArray), R.fd (R.atP ((f : Int) - 32)) t R.Cn.none = (c1, s1) ∧ R.fd (R.atP ((k : Int) + 32)) t R.Cn.none = (c2, s2) ∧ c1.b ≤ f ∧ k ≤ c2.b + s2.size ∧ c2.b + s2.size ≤ t.tx.size ∧ R.Bd t c1.b ∧ R.Bd t (c2.b + s2.size) ∧ U.valid (t.tx.extract c1.b f) = true ∧ U.valid (t.tx.extract k (c2.b + s2.size)) = true := by
  obtain ⟨u1, s1, x1, e1, F1, a1, -⟩ := R.at_spec t ht ((f : Int) - 32)
  obtain ⟨u2, s2, x2, e2, F2, -, b2⟩ := R.at_spec t ht ((k : Int) + 32)
  have z2 : t.tx.size = u2.size + s2.size + x2.size := by rw [F2.tx, U.app_size, U.app_size]
  have z1 : t.tx.size = u1.size + s1.size + x1.size := by rw [F1.tx, U.app_size, U.app_size]
  have c1 : u1.size ≤ f := by omega
  have c2 : k ≤ u2.size + s2.size := by omega
  refine ⟨_, _, s1, s2, e1, e2, c1, c2, by show u2.size + s2.size ≤ _; omega, F1.bu, F2.bs, ?_, ?_⟩
  · have h : t.tx.extract 0 u1.size ++ t.tx.extract u1.size f = t.tx.extract 0 f := ext_join _ _ _ _ (by omega) c1 (by omega)
    have hu : t.tx.extract 0 u1.size = u1 := by rw [F1.tx, ByteArray.append_assoc]; exact ext_left _ _
    rw [← h, hu, U.valid_app _ _ F1.hu] at v1
    exact v1
  · have h : t.tx.extract k (u2.size + s2.size) ++ t.tx.extract (u2.size + s2.size) t.tx.size = t.tx.extract k t.tx.size := ext_join _ _ _ _ c2 (by omega) (Nat.le_refl _)
    have hx : t.tx.extract (u2.size + s2.size) t.tx.size = x2 := by
      have := ext_right (u2 ++ s2) x2
      rw [U.app_size u2 s2, ← F2.tx] at this
      exact this
    rw [hx] at h
    rw [← h] at v2
    exact (U.valid_part _ _ v2 (U.bga_seam _ _ F2.hv)).1
set_option maxHeartbeats 8000000 in
set_option maxRecDepth 100000 in
theorem spliced_any (v : Value) (t : R.T) (f k : Nat) (s : ByteArray) (w : World) (h : NT w w.heap.size v t) (ht : t.Fit) (hf : f ≤ k) (hk : k ≤ t.tx.size) (hs : t.tx.size ≤ 1000000000) (hss : s.size ≤ 1000000000) (v1 : U.valid (t.tx.extract 0 f) = true) (v2 : U.valid (t.tx.extract k t.tx.size) = true) (v3 : U.valid s = true) (hT : Tabs w) :
    Calls Tryd.prog 40 #[v, .agg #[.int .i64 (f : Nat), .int .i64 (k : Nat), .string s]] w (GrownR (t.tx.extract 0 f ++ s ++ t.tx.extract k t.tx.size) w) := by
  obtain ⟨c1, c2, s1, s2, e1, e2, a1, a2, a3, b1, b2, va, vb⟩ := around t ht f k hf hk v1 v2
  have HL1 := Lib.hid (fun W (hB : Below w.heap.size w W) => leafAt_any ((f : Int) - 32) v t W ht (by omega) (h.below hB))
  have HL2 := Lib.hid (fun W (hB : Below w.heap.size w W) => leafAt_any ((k : Int) + 32) v t W ht (by omega) (h.below hB))
  rw [e1] at HL1
  rw [e2] at HL2
  have hBx := (Below.refl w.heap.size w).alloc (Nat.le_refl _) (.cells #[.int .i64 (f : Nat), .int .i64 (k : Nat), .string s] 63)
  have hbx : (w.alloc (.cells #[.int .i64 (f : Nat), .int .i64 (k : Nat), .string s] 63)).heap[w.heap.size]? = some (.cells #[.int .i64 (f : Nat), .int .i64 (k : Nat), .string s] 63 (0, 0)) := heap_alloc_new _ _
  have hzx := World.size_alloc w (.cells #[.int .i64 (f : Nat), .int .i64 (k : Nat), .string s] 63)
  have H0 := Lib.hid (And.intro hBx (And.intro hbx hzx))
  have n1 : (f : Int) ≤ 1000000000 := by omega
  have n2 : (k : Int) ≤ 1000000000 := by omega
  clear hBx hbx hzx
  go_enter Tryd.func40, Tryd.ntmps40
  go_upto_region 1 with fail
  generalize w.alloc (.cells #[.int .i64 (f : Nat), .int .i64 (k : Nat), .string s] 63) = W0 at *
  have x0 : W0.cell? ⟨w.heap.size, 0, none⟩ = some (.int .i64 (f : Nat)) := by rw [Lib.cell_of_heap H0.out.2.1]; rfl
  go_wp2_with fail
  refine (HL1.out W0 H0.out.1).mono ?_
  rintro e w1 ⟨rfl, hB1⟩
  have hBa := hB1.trans (((Below.refl w1.heap.size w1).alloc (Nat.le_refl _) (.cells #[Value.int .i64 (((c1).b : Nat) : Int), Value.int .i64 (((c1).u : Nat) : Int), Value.int .i64 (((c1).k : Nat) : Int), Value.bool (c1).f, Value.bool (c1).e] 96)).mono hB1.size)
  have hr1 : CnRow (w1.alloc (.cells #[Value.int .i64 (((c1).b : Nat) : Int), Value.int .i64 (((c1).u : Nat) : Int), Value.int .i64 (((c1).k : Nat) : Int), Value.bool (c1).f, Value.bool (c1).e] 96)) w1.heap.size c1 := CnRow.new w1 c1
  have hx1 : (w1.alloc (.cells #[Value.int .i64 (((c1).b : Nat) : Int), Value.int .i64 (((c1).u : Nat) : Int), Value.int .i64 (((c1).k : Nat) : Int), Value.bool (c1).f, Value.bool (c1).e] 96)).heap[w.heap.size]? = _ := (hBa.block w.heap.size (by have := H0.out.2.2; omega)).trans H0.out.2.1
  have hz1 : w1.heap.size < (w1.alloc (.cells #[Value.int .i64 (((c1).b : Nat) : Int), Value.int .i64 (((c1).u : Nat) : Int), Value.int .i64 (((c1).k : Nat) : Int), Value.bool (c1).f, Value.bool (c1).e] 96)).heap.size := by rw [World.size_alloc]; omega
  have hz2 : w.heap.size < (w1.alloc (.cells #[Value.int .i64 (((c1).b : Nat) : Int), Value.int .i64 (((c1).u : Nat) : Int), Value.int .i64 (((c1).k : Nat) : Int), Value.bool (c1).f, Value.bool (c1).e] 96)).heap.size := by have h1 := hB1.size; have h2 := H0.out.2.2; rw [World.size_alloc]; omega
  have H1 := Lib.hid (And.intro (H0.out.1.trans (hBa.mono H0.out.1.size)) (And.intro hx1 (And.intro hr1 (And.intro hz1 hz2))))
  clear hB1 hBa hr1 hx1 x0 H0 HL1 hz1 hz2
  dsimp only
  go_upto_region 2 with fail
  generalize w1.alloc (.cells #[Value.int .i64 (((c1).b : Nat) : Int), Value.int .i64 (((c1).u : Nat) : Int), Value.int .i64 (((c1).k : Nat) : Int), Value.bool (c1).f, Value.bool (c1).e] 96) = W1 at *
  generalize w1.heap.size = p1 at *
  have x1 : W1.cell? ⟨w.heap.size, 1, none⟩ = some (.int .i64 (k : Nat)) := by rw [Lib.cell_of_heap H1.out.2.1]; rfl
  go_wp2_with fail
  refine (HL2.out W1 H1.out.1).mono ?_
  rintro e w2 ⟨rfl, hB2⟩
  have hBa := hB2.trans (((Below.refl w2.heap.size w2).alloc (Nat.le_refl _) (.cells #[Value.int .i64 (((c2).b : Nat) : Int), Value.int .i64 (((c2).u : Nat) : Int), Value.int .i64 (((c2).k : Nat) : Int), Value.bool (c2).f, Value.bool (c2).e] 96)).mono hB2.size)
  have hr2 : CnRow (w2.alloc (.cells #[Value.int .i64 (((c2).b : Nat) : Int), Value.int .i64 (((c2).u : Nat) : Int), Value.int .i64 (((c2).k : Nat) : Int), Value.bool (c2).f, Value.bool (c2).e] 96)) w2.heap.size c2 := CnRow.new w2 c2
  have hx2 : (w2.alloc (.cells #[Value.int .i64 (((c2).b : Nat) : Int), Value.int .i64 (((c2).u : Nat) : Int), Value.int .i64 (((c2).k : Nat) : Int), Value.bool (c2).f, Value.bool (c2).e] 96)).heap[w.heap.size]? = _ := (hBa.block w.heap.size H1.out.2.2.2.2).trans H1.out.2.1
  have hr1 := H1.out.2.2.1.below hBa H1.out.2.2.2.1
  have H2 := Lib.hid (And.intro (H1.out.1.trans (hBa.mono H1.out.1.size)) (And.intro hx2 (And.intro hr1 hr2)))
  clear hB2 hBa hr1 hr2 hx2 x1 H1 HL2
  dsimp only
  go_upto_region 3 with fail
  generalize w2.alloc (.cells #[Value.int .i64 (((c2).b : Nat) : Int), Value.int .i64 (((c2).u : Nat) : Int), Value.int .i64 (((c2).k : Nat) : Int), Value.bool (c2).f, Value.bool (c2).e] 96) = W2 at *
  generalize w2.heap.size = p2 at *
  obtain ⟨f0, -⟩ := H2.out.2.2.1.cnAt
  obtain ⟨g0, -⟩ := H2.out.2.2.2.cnAt
  have n3 : (c2.b : Int) + (s2.size : Int) ≤ 1000000000 := by omega
  have n4 : (0 : Int) ≤ (c2.b : Int) + (s2.size : Int) := by omega
  go_quiet (fail)
  have H3 := Lib.hid (And.intro (below_drewN H2.out.1 nq) (show (W2.drewN nq).heap[w.heap.size]? = _ from H2.out.2.1))
  clear f0 g0 H2
  generalize W2.drewN nq = W3 at *
  go_upto_region 5 with fail
  have hBb := (Below.refl W3.heap.size W3).alloc (Nat.le_refl _) (.cells #[.pointer none, .slice none 0 0] 93)
  have hlt : w.heap.size < W3.heap.size := (Array.getElem?_eq_some_iff.1 H3.out.2).1
  have hIB := IsB.fresh W3
  have hx4 : (W3.alloc (.cells #[.pointer none, .slice none 0 0] 93)).heap[w.heap.size]? = _ := (hBb.block w.heap.size hlt).trans H3.out.2
  have hN4 : W3.heap.size ≤ (W3.alloc (.cells #[.pointer none, .slice none 0 0] 93)).heap.size := by rw [World.size_alloc]; omega
  have hw4 := H3.out.1.trans (hBb.mono (Nat.le_of_lt hlt))
  generalize W3.alloc (.cells #[.pointer none, .slice none 0 0] 93) = W4 at *
  have HNt : Hid (∀ W, Below W3.heap.size W4 W → NT W W3.heap.size v t) := Lib.hid (fun W hB => (h.on (hw4.trans (hB.mono (Nat.le_of_lt hlt))) (Nat.le_refl _)).up (Nat.le_of_lt hlt))
  have HK := Lib.hid (fun W (hB : Below W3.heap.size W4 W) => (show (W.cell? ⟨w.heap.size, 0, none⟩ = some (.int .i64 (f : Nat)) ∧ W.cell? ⟨w.heap.size, 1, none⟩ = some (.int .i64 (k : Nat)) ∧ W.cell? ⟨w.heap.size, 2, none⟩ = some (.string s)) ∧ Below w.heap.size w W ∧ W3.heap.size ≤ W.heap.size from by
    have hx := (hB.block w.heap.size hlt).trans hx4
    exact ⟨⟨by rw [Lib.cell_of_heap hx]; rfl, by rw [Lib.cell_of_heap hx]; rfl, by rw [Lib.cell_of_heap hx]; rfl⟩, hw4.trans (hB.mono (Nat.le_of_lt hlt)), Nat.le_trans hN4 hB.size⟩))
  generalize W3.heap.size = N at *
  obtain ⟨y0, y1, y2⟩ := (HK.out W4 (Below.refl _ _)).1
  have HIB := Lib.hid hIB
  have q5 : ((c2.b + s2.size : Nat) : Int) = (c2.b : Int) + (s2.size : Int) := by omega
  have HA := Lib.hid (And.intro a1 (And.intro a2 (And.intro a3 (And.intro hf (And.intro hk (And.intro hs hss))))))
  have HV := Lib.hid (And.intro va (And.intro vb (And.intro v3 hT)))
  have HBd := Lib.hid (And.intro b1 (And.intro b2 ht))
  clear hBb hlt hIB hx4 hN4 hw4 H3 e1 e2 a1 a2 a3 b1 b2 va vb v1 v2 v3 hT h ht hf hk hs hss n3 n4
  have hw := write_any N N t v c1.b f [] W4 HBd.out.2.2 (HNt.out _ (Below.refl _ _)) HA.out.1 (by have := HA.out.2.2.2; omega) (by have := HA.out.2.2.2; simp; omega) HIB.out (HK.out W4 (Below.refl _ _)).2.2
  have HW1 := Lib.hid hw
  clear hw
  go_wp2_with fail
  refine HW1.out.mono ?_
  rintro e w5 ⟨rfl, hb5, hB5⟩
  have H5 := Lib.hid (And.intro hB5 hb5)
  clear hB5 hb5 y0 y1 y2 HW1
  obtain ⟨y0, y1, y2⟩ := (HK.out w5 H5.out.1).1
  go_wp2_with fail
  refine (writeString_any N N _ s w5 H5.out.2 (by rw [List.nil_append, Lib.strCells_length, ByteArray.size_extract]; have := HA.out.2.2.2; omega) (HK.out w5 H5.out.1).2.2).mono ?_
  rintro e w6 ⟨rfl, hb6, hB6⟩
  have H6 := Lib.hid (And.intro (H5.out.1.trans hB6) hb6)
  clear hB6 hb6 y0 y1 y2 H5
  obtain ⟨y0, y1, y2⟩ := (HK.out w6 H6.out.1).1
  have hw := write_any N N t v k (c2.b + s2.size) _ w6 HBd.out.2.2 (HNt.out _ H6.out.1) HA.out.2.1 HA.out.2.2.1 (by rw [List.length_append, List.nil_append, Lib.strCells_length, Lib.strCells_length, ByteArray.size_extract]; have := HA.out.2.2.2; omega) H6.out.2 (HK.out w6 H6.out.1).2.2
  rw [q5] at hw
  have HW1 := Lib.hid hw
  clear hw
  go_wp2_with fail
  refine HW1.out.mono ?_
  rintro e w7 ⟨rfl, hb7, hB7⟩
  have H7 := Lib.hid (And.intro (H6.out.1.trans hB7) hb7)
  clear hB7 hb7 y0 y1 y2 H6 HW1
  have HS1 := Lib.hid (split_any t v c1.b w7 ((HNt.out w7 H7.out.1).all) HBd.out.2.2 HBd.out.1 (by have := HA.out.2.2.2; omega))
  go_wp2_with fail
  refine HS1.out.mono ?_
  rintro e w8 ⟨va1, vb1, ta, tb, rfl, na, -, fa, -, hab, hoa, hB8⟩
  have H8 := Lib.hid (And.intro na (And.intro fa (And.intro hab (And.intro hoa hB8))))
  clear na fa hab hoa hB8 HS1
  have hNw7 := (HK.out w7 H7.out.1).2.2
  have B8 := Lib.hid (H7.out.1.trans (H8.out.2.2.2.2.mono hNw7))
  have hsp := split_any t v (c2.b + s2.size) w8 ((HNt.out w8 B8.out).all) HBd.out.2.2 HBd.out.2.1 (by have := HA.out.2.2.2; omega)
  rw [q5] at hsp
  have HS2 := Lib.hid hsp
  clear hsp
  go_wp2_with fail
  refine HS2.out.mono ?_
  rintro e w9 ⟨va2, vb2, tc, td, rfl, -, nd, -, fd, hcd, hoc, hB9⟩
  have H9 := Lib.hid (And.intro nd (And.intro fd (And.intro hcd (And.intro hoc hB9))))
  clear nd fd hcd hoc hB9 HS2
  have HIB9 := Lib.hid ((H7.out.2.below H8.out.2.2.2.2).below H9.out.2.2.2.2)
  have B9 := Lib.hid (B8.out.trans (H9.out.2.2.2.2.mono (HK.out w8 B8.out).2.2))
  have hv7 : U.valid (t.tx.extract c1.b f ++ s ++ t.tx.extract k (c2.b + s2.size)) = true := by
    rw [U.valid_app _ _ (by rw [U.valid_app _ _ HV.out.1]; exact HV.out.2.2.1)]; exact HV.out.2.1
  have hsz : (t.tx.extract c1.b f ++ s ++ t.tx.extract k (c2.b + s2.size)).size ≤ 10000000000 := by
    rw [U.app_size, U.app_size, ByteArray.size_extract, ByteArray.size_extract]; have := HA.out.2.2.2; omega
  have hib := HIB9.out
  rw [List.nil_append, ← strCells_app, ← strCells_app] at hib
  generalize hX : t.tx.extract c1.b f ++ s ++ t.tx.extract k (c2.b + s2.size) = X at *
  have HX := Lib.hid (And.intro hv7 (And.intro hsz (And.intro hib hX)))
  clear hv7 hsz hib hX
  go_wp2_with fail
  refine (string_any N N X w9 HX.out.2.2.1 (HK.out w9 B9.out).2.2).mono ?_
  rintro e w10 ⟨rfl, hB10, hk10⟩
  have B10 := Lib.hid (B9.out.trans hB10)
  have HT10 := Lib.hid (And.intro (hk10 _ _ _ (H8.out.1.below H9.out.2.2.2.2)).all (hk10 _ _ _ H9.out.1).all)
  clear hB10 hk10
  have hx := HX.out
  have HG := Lib.hid (grown_any X.size X w10 (Nat.le_refl _) (by omega) hx.1 (tabs_below HV.out.2.2.2 (HK.out w10 B10.out).2.1))
  clear hx
  go_wp2_with fail
  refine HG.out.mono ?_
  rintro e w11 ⟨tg, vg, rfl, ng, hg, hB11⟩
  have H11 := Lib.hid (And.intro ng (And.intro hg hB11))
  clear ng hg hB11 HG
  have hza := size_two H8.out.2.2.1
  have hzc := size_two H9.out.2.2.1
  have hxs : tg.tx.size = X.size := by rw [H11.out.2.1.2]
  have HJ1 := Lib.hid (join_any va1 vg ta tg w11 (HT10.out.1.below H11.out.2.2) H11.out.1 H8.out.2.1 H11.out.2.1.1 (by have := HX.out.2.1; have := HA.out.2.2.2; omega))
  have HZ := Lib.hid (show ta.tx.size + X.size + td.tx.size ≤ 1000000000000 by have := HX.out.2.1; have := HA.out.2.2.2; omega)
  clear hza hzc
  have HXs := Lib.hid hxs
  clear hxs
  go_wp2_with fail
  refine HJ1.out.mono ?_
  rintro e w12 ⟨tj, vj, rfl, nj, fj, hj, hB12⟩
  have H12 := Lib.hid (And.intro nj (And.intro fj (And.intro hj hB12)))
  clear nj fj hj hB12 HJ1
  have hzj := size_two H12.out.2.2.1
  have HJ2 := Lib.hid (join_any vj vb2 tj td w12 H12.out.1 ((HT10.out.2.below H11.out.2.2).below H12.out.2.2.2) H12.out.2.1 H9.out.2.1 (by have := HZ.out; have := HXs.out; omega))
  clear hzj
  go_wp2_with fail
  refine HJ2.out.mono ?_
  rintro e w13 ⟨tz, vz, rfl, nz, fz, hz, hB13⟩
  have H13 := Lib.hid (And.intro nz (And.intro fz (And.intro hz hB13)))
  clear nz fz hz hB13 HJ2
  go_wp2_with fail
  go_ret
  refine ⟨tz, vz, rfl, H13.out.1, ⟨H13.out.2.1, ?_⟩, ?_⟩
  · rw [H13.out.2.2.1, H12.out.2.2.1, H11.out.2.1.2, ← HX.out.2.2.2]
    have ha := HA.out
    exact mid_bytes ta.tx tb.tx tc.tx td.tx f k c1.b (c2.b + s2.size) H8.out.2.2.1 H8.out.2.2.2.1 H9.out.2.2.1 H9.out.2.2.2.1 ha.1 (by omega) ha.2.1 ha.2.2.1 rfl rfl
  · have hW := (HK.out w10 B10.out).2.1
    have h11 := hW.trans (H11.out.2.2.mono hW.size)
    have h12 := h11.trans (H12.out.2.2.2.mono h11.size)
    exact h12.trans (H13.out.2.2.2.mono h12.size)
end Go.Proofs.YtjeopabnddekgaaDoor

namespace Go.Proofs
open Go.Shelf

def Tryd.laysValid_ren : Go.Shelf.Ren := ⟨fun | 196 => 67 | 259 => 89 | n => n, fun | 46 => 152 | 53 => 77 | 119 => 148 | 138 => 150 | 139 => 151 | n => n, fun | 3 => 0 | 4 => 1 | n => n⟩
theorem Tryd.laysValid : Lays.n196 Tryd.prog Tryd.laysValid_ren := {
  mixed := by kernel_rfl,
  f196 := Tryd.func67.trans (congrArg some (by kernel_rfl)),
  f259 := Tryd.func89.trans (congrArg some (by kernel_rfl)),
  t0 := Tryd.underlying0,
  a0 := Tryd.isAgg0,
  z0 := Tryd.sizeOf0,
  v0 := Tryd.zeroValue0,
  t3 := Tryd.underlying3,
  a3 := Tryd.isAgg3,
  z3 := Tryd.sizeOf3,
  v3 := Tryd.zeroValue3,
  t4 := Tryd.underlying4,
  a4 := Tryd.isAgg4,
  z4 := Tryd.sizeOf4,
  v4 := Tryd.zeroValue4,
  t5 := Tryd.underlying5,
  a5 := Tryd.isAgg5,
  z5 := Tryd.sizeOf5,
  v5 := Tryd.zeroValue5,
  t9 := Tryd.underlying9,
  a9 := Tryd.isAgg9,
  z9 := Tryd.sizeOf9,
  v9 := Tryd.zeroValue9,
  t12 := Tryd.underlying12,
  a12 := Tryd.isAgg12,
  z12 := Tryd.sizeOf12,
  v12 := Tryd.zeroValue12,
  t46 := Tryd.underlying152,
  a46 := Tryd.isAgg152,
  z46 := Tryd.sizeOf152,
  v46 := Tryd.zeroValue152,
  t53 := Tryd.underlying77,
  a53 := Tryd.isAgg77,
  z53 := Tryd.sizeOf77,
  v53 := Tryd.zeroValue77,
  t119 := Tryd.underlying148,
  a119 := Tryd.isAgg148,
  z119 := Tryd.sizeOf148,
  t138 := Tryd.underlying150,
  a138 := Tryd.isAgg150,
  z138 := Tryd.sizeOf150,
  v138 := Tryd.zeroValue150,
  t139 := Tryd.underlying151,
  a139 := Tryd.isAgg151,
  z139 := Tryd.sizeOf151,
  v139 := Tryd.zeroValue151,
  g3 := by kernel_rfl,
  g4 := by kernel_rfl }
end Go.Proofs

namespace Go.Proofs
open Go Go.RowKit Go.Shelf Go.Lib

namespace YtjeopabnddekgaaDoor
theorem validString_any (s : ByteArray) (w : World) (hs : s.size ≤ 1000000000000) (hT : Tabs w) :
    Calls Tryd.prog 67 #[.string s] w (BoolIs (U.valid s) w) := by
  have := Any.utf8_ValidString Tryd.laysValid s w (by omega) hT
  rw [U.validD_eq] at this
  exact this
set_option maxHeartbeats 400000 in
set_option maxRecDepth 100000 in
theorem utfValid_any (s : ByteArray) (w : World) (hs : s.size ≤ 1000000000000) (hT : Tabs w) :
    Calls Tryd.prog 36 #[.string s] w (BoolIs (U.valid s) w) := by
  have hc := validString_any s w hs hT
  generalize U.valid s = v at *
  go_enter Tryd.func36, Tryd.ntmps36
  go_wp2_with fail
  refine hc.mono ?_
  rintro e w' ⟨rfl, hb⟩
  go_wp2_with fail
  go_ret
  exact ⟨rfl, hb⟩
end YtjeopabnddekgaaDoor
end Go.Proofs
