/- The edit of a change, walked. Conditions: a rope's text of at most 10^9 bytes; the library's tables. -/
import Derived.Test.YtjeopabnddekgaaDoorME37
import Derived.Test.YtjeopabnddekgaaDoorME36
import Derived.Test.YtjeopabnddekgaaDoorME53
namespace Go.Proofs.YtjeopabnddekgaaDoor
open Go Go.RowKit Go.Lib

/-- a change -/
structure ChE where
  r : Bool
  a : Int
  b : Int
  c : Int
  d : Int
  s : ByteArray
namespace Ed
def Ch6 (c : ChE) : Prop := I64 c.a ∧ I64 c.b ∧ I64 c.c ∧ I64 c.d ∧ c.s.size ≤ 70000
/-- a place by lines, of a text -/
def conX (x : ByteArray) (i : Int) : Int × Int × Bool := if i.toNat < L.mny x then ((L.fr x i.toNat : Int), (L.to x i.toNat : Int), true) else (0, 0, false)
def offX (x : ByteArray) (l c : Int) : Int := if (conX x (max l 0)).2.2 = true then min ((U.cut x (((R.cn (x.extract 0 (conX x (max l 0)).1.toNat)).u : Int) + max (min c ((R.cn x).u : Int)) 0) : Nat) : Int) (conX x (max l 0)).2.1 else (x.size : Int)
theorem offX_is (t : R.T) (ht : t.Fit) (l c : Int) : R.offV t l c = offX t.tx l c := by
  have hc : R.conV t (max l 0) = conX t.tx (max l 0) := by
    have h := R.con_spec t ht (max l 0).toNat
    rw [show (((max l 0).toNat : Nat) : Int) = max l 0 by omega] at h
    exact h
  unfold R.offV offX R.chV
  rw [hc, R.cut_spec t ht]
def ofF (x : ByteArray) (c : ChE) : Int := if c.r = true then offX x c.a c.b else 0
def ofK (x : ByteArray) (c : ChE) : Int := if c.r = true then offX x c.c c.d else (x.size : Int)
def ofAns (f k : Int) (s : ByteArray) : EdE × Int := if k < f then (⟨0, 0, ⟨#[]⟩⟩, 90) else (⟨f, k, s⟩, 0)
/-- what Of answers -/
def ofX (x : ByteArray) (c : ChE) : EdE × Int := ofAns (ofF x c) (ofK x c) c.s
end Ed
theorem info_edit : (Tryd.prog.info? 63).map (·.size) = some 3 := by kernel_rfl
theorem one_edit (x y : Int) (s : ByteArray) : (#[Value.int .i64 x, Value.int .i64 y, .string s].all (·.oneCell')) = true := by simp [Value.oneCell']
def EditRow (w : World) (b : Nat) (x y : Int) (s : ByteArray) : Prop := w.heap[b]? = some (.cells #[.int .i64 x, .int .i64 y, .string s] 63 (0, 0))
theorem EditRow.set {w : World} {b : Nat} {x y : Int} {s : ByteArray} (h : EditRow w b x y s) (e : EdE) : EditRow (w.setRow b #[.int .i64 e.f, .int .i64 e.k, .string e.s]) b e.f e.k e.s := by
  unfold EditRow at *
  simp [World.setRow, Array.getElem?_modify, h]
theorem EditRow.below {w w' : World} {b : Nat} {x y : Int} {s : ByteArray} (h : EditRow w b x y s) (hB : Below w.heap.size w w') : EditRow w' b x y s := (hB.block b (Array.getElem?_eq_some_iff.1 h).1).trans h
theorem edit_ret2 {fn : Func} {p q : Tmp} (h : fn.results = #[.cell p 63, .tmp q]) {Q : Ending → World → Prop} (a : Act) (w : World) (g : Nat) (x y : Int) (s : ByteArray) (z : Value) (hp : a.tmps.getD p undef = .pointer (some ⟨g, 0, none⟩)) (hq : a.tmps.getD q undef = z) (hd : a.defers = []) (hg : EditRow w g x y s) (hQ : Q (.returned (.tuple #[.agg #[.int .i64 x, .int .i64 y, .string s], z])) w) : bodyPost Tryd.prog fn Q .ret a w := by
  have hp' : a.tmps[p]?.getD undef = .pointer (some ⟨g, 0, none⟩) := by simpa using hp
  have hq' : a.tmps[q]?.getD undef = z := by simpa using hq
  refine bodyPost_ret (v := .tuple #[.agg #[.int .i64 x, .int .i64 y, .string s], z]) ?_ hd hQ
  simp [results, h, hp', hq', asAddr, run_loadVar_row w g _ _ _ (0, 0) _ hg Tryd.underlying63 rfl info_edit]
/-- an edit and an error come back -/
def OfR (r : EdE × Int) (w : World) (en : Ending) (w' : World) : Prop := en = .returned (.tuple #[.agg #[.int .i64 r.1.f, .int .i64 r.1.k, .string r.1.s], .int .i64 r.2]) ∧ Below w.heap.size w w'
set_option maxHeartbeats 8000000 in
set_option maxRecDepth 100000 in
theorem of_nil (c : ChE) (w : World) : Calls Tryd.prog 32 #[.pointer none, .agg #[.bool c.r, .int .i64 c.a, .int .i64 c.b, .int .i64 c.c, .int .i64 c.d, .string c.s]] w (OfR (⟨0, 0, ⟨#[]⟩⟩, 1) w) := by
  have hn := two_newE w (.cells #[.bool c.r, .int .i64 c.a, .int .i64 c.b, .int .i64 c.c, .int .i64 c.d, .string c.s] 69) (.cells #[.int .i64 0, .int .i64 0, .string ⟨#[]⟩] 63)
  have hb0 := below_al (below_al (Below.refl w.heap.size w) (.cells #[.bool c.r, .int .i64 c.a, .int .i64 c.b, .int .i64 c.c, .int .i64 c.d, .string c.s] 69)) (.cells #[.int .i64 0, .int .i64 0, .string ⟨#[]⟩] 63)
  have H0 := Lib.hid (And.intro hb0 hn)
  clear hb0 hn
  go_enter Tryd.func32, Tryd.ntmps32
  go_upto_region 1 with fail
  generalize ((w.alloc (.cells #[.bool c.r, .int .i64 c.a, .int .i64 c.b, .int .i64 c.c, .int .i64 c.d, .string c.s] 69)).alloc (.cells #[.int .i64 0, .int .i64 0, .string ⟨#[]⟩] 63)) = W1 at *
  have r0 : EditRow W1 (w.heap.size + 1) 0 0 ⟨#[]⟩ := H0.out.2.2.1
  have hb := H0.out.1
  go_wp2_with (refine wpList_store_row rfl 63 _ _ rfl (w.heap.size + 1) #[.int .i64 (0), .int .i64 (0), .string ⟨#[]⟩] (by rfl) (by rfl) 63 _ r0 info_edit rfl (one_edit _ _ _) ?_)
  exact edit_ret2 (by rfl) _ _ (w.heap.size + 1) 0 0 ⟨#[]⟩ (.int .i64 1) (by rfl) (by rfl) rfl (EditRow.set r0 ⟨0, 0, ⟨#[]⟩⟩) ⟨rfl, below_setRow hb (by omega) _⟩
set_option maxHeartbeats 8000000 in
set_option maxRecDepth 100000 in
theorem of_any (c : ChE) (v : Value) (t : R.T) (w : World) (h : RopeAt w v t) (hs : t.tx.size ≤ 1000000000) (hc : Ed.Ch6 c) : Calls Tryd.prog 32 #[v, .agg #[.bool c.r, .int .i64 c.a, .int .i64 c.b, .int .i64 c.c, .int .i64 c.d, .string c.s]] w (OfR (Ed.ofX t.tx c) w) := by
  have ht : t.Fit := by obtain ⟨b, rv, rfl, hb, hn, ht⟩ := h; exact ht
  have HLn := Lib.hid (fun W (hB : Below w.heap.size w W) => (show Calls Tryd.prog 25 #[v] W (fun e w' => e = .returned (.int .i64 (t.tx.size : Int)) ∧ Below W.heap.size W w') from len_any v t W (h.below hB)))
  have HOa := Lib.hid (fun W (hB : Below w.heap.size w W) => (show Calls Tryd.prog 20 #[v, .agg #[.int .i64 c.a, .int .i64 c.b]] W (IntZ (Ed.offX t.tx c.a c.b) W) from by
    rw [← Ed.offX_is t ht]; exact offset_any c.a c.b v t W (h.below hB) hs hc.1 hc.2.1))
  have HOb := Lib.hid (fun W (hB : Below w.heap.size w W) => (show Calls Tryd.prog 20 #[v, .agg #[.int .i64 c.c, .int .i64 c.d]] W (IntZ (Ed.offX t.tx c.c c.d) W) from by
    rw [← Ed.offX_is t ht]; exact offset_any c.c c.d v t W (h.below hB) hs hc.2.2.1 hc.2.2.2.1))
  have HCl := Lib.hid (fun W => (show Calls Tryd.prog 64 #[.string c.s] W (fun e w' => e = .returned (.string c.s) ∧ Below W.heap.size W w') from clone_any c.s W (by have := hc.2.2.2.2; omega)))
  have hn := two_newE w (.cells #[.bool c.r, .int .i64 c.a, .int .i64 c.b, .int .i64 c.c, .int .i64 c.d, .string c.s] 69) (.cells #[.int .i64 0, .int .i64 0, .string ⟨#[]⟩] 63)
  have hb0 := below_al (below_al (Below.refl w.heap.size w) (.cells #[.bool c.r, .int .i64 c.a, .int .i64 c.b, .int .i64 c.c, .int .i64 c.d, .string c.s] 69)) (.cells #[.int .i64 0, .int .i64 0, .string ⟨#[]⟩] 63)
  have H0 := Lib.hid (And.intro hb0 hn)
  obtain ⟨b, rv, rfl, hb, -, -⟩ := h
  clear hb0 hn hb ht hs hc
  unfold Ed.ofX
  obtain ⟨z, hz⟩ : ∃ z, t.tx.size = z := ⟨_, rfl⟩
  rw [hz] at HLn
  go_enter Tryd.func32, Tryd.ntmps32
  go_upto_region 1 with fail
  generalize ((w.alloc (.cells #[.bool c.r, .int .i64 c.a, .int .i64 c.b, .int .i64 c.c, .int .i64 c.d, .string c.s] 69)).alloc (.cells #[.int .i64 0, .int .i64 0, .string ⟨#[]⟩] 63)) = W0 at *
  go_wp2_with fail
  refine (HLn.out W0 H0.out.1).mono ?_
  rintro en w1 ⟨rfl, hB1⟩
  have k0 := (hB1.block w.heap.size (by have := H0.out.2.2.2; omega)).trans H0.out.2.1
  have k1 : EditRow w1 (w.heap.size + 1) 0 0 ⟨#[]⟩ := EditRow.below H0.out.2.2.1 hB1
  have H1 := Lib.hid (And.intro (H0.out.1.trans (hB1.mono H0.out.1.size)) (And.intro k1 (And.intro k0 (show w.heap.size + 1 < w1.heap.size by have := H0.out.2.2.2; have := hB1.size; omega))))
  clear hB1 k0 k1
  have x0 : w1.cell? ⟨w.heap.size, 0, none⟩ = some (.bool c.r) := by rw [Lib.cell_of_heap H1.out.2.2.1]; rfl
  rcases hr : c.r with _ | _
  · rw [hr] at x0
    have e1 : Ed.ofF t.tx c = 0 := by unfold Ed.ofF; rw [hr]; rfl
    have e2 : Ed.ofK t.tx c = (t.tx.size : Int) := by unfold Ed.ofK; rw [hr]; rfl
    have H2 := H1
    rw [hz] at e2
    obtain ⟨fv, hfv⟩ : ∃ fv : Int, fv = 0 := ⟨_, rfl⟩
    obtain ⟨kv, hkv⟩ : ∃ kv : Int, kv = (z : Int) := ⟨_, rfl⟩
    rw [← hfv] at e1
    rw [← hkv] at e2
    have HF := Lib.hid (And.intro e1 e2)
    clear e1 e2 hz HOa HOb
    go_upto_region 6 with fail
    clear x0 hr
    generalize w1 = W2 at *
    rw [← hfv, ← hkv]
    clear hfv hkv
    by_cases hlt : kv < fv
    · have HE := Lib.hid (show Ed.ofAns fv kv c.s = (⟨0, 0, ⟨#[]⟩⟩, 90) by unfold Ed.ofAns; rw [if_pos hlt])
      have r0 := H2.out.2.1
      have hb := H2.out.1
      go_wp2_with (refine wpList_store_row rfl 63 _ _ rfl (w.heap.size + 1) #[.int .i64 (0), .int .i64 (0), .string ⟨#[]⟩] (by rfl) (by rfl) 63 _ r0 info_edit rfl (one_edit _ _ _) ?_)
      exact edit_ret2 (by rfl) _ _ (w.heap.size + 1) 0 0 ⟨#[]⟩ (.int .i64 90) (by rfl) (by rfl) rfl (EditRow.set r0 ⟨0, 0, ⟨#[]⟩⟩) ⟨by rw [HF.out.1, HF.out.2, HE.out], below_setRow hb (by omega) _⟩
    · have HE := Lib.hid (show Ed.ofAns fv kv c.s = (⟨fv, kv, c.s⟩, 0) by unfold Ed.ofAns; rw [if_neg hlt])
      have x5 : W2.cell? ⟨w.heap.size, 5, none⟩ = some (.string c.s) := by rw [Lib.cell_of_heap H2.out.2.2.1]; rfl
      go_wp2_with fail
      refine (HCl.out W2).mono ?_
      rintro en w3 ⟨rfl, hB⟩
      have r0 := EditRow.below H2.out.2.1 hB
      have hb := H2.out.1.trans (hB.mono H2.out.1.size)
      clear x5 hB
      go_wp2_with (refine wpList_store_row rfl 63 _ _ rfl (w.heap.size + 1) #[.int .i64 (fv), .int .i64 (kv), .string c.s] (by rfl) (by rfl) 63 _ r0 info_edit rfl (one_edit _ _ _) ?_)
      exact edit_ret2 (by rfl) _ _ (w.heap.size + 1) fv kv c.s (.int .i64 0) (by rfl) (by rfl) rfl (EditRow.set r0 ⟨fv, kv, c.s⟩) ⟨by rw [HF.out.1, HF.out.2, HE.out], below_setRow hb (by omega) _⟩
  · rw [hr] at x0
    have e1 : Ed.ofF t.tx c = Ed.offX t.tx c.a c.b := by unfold Ed.ofF; rw [hr]; rfl
    have e2 : Ed.ofK t.tx c = Ed.offX t.tx c.c c.d := by unfold Ed.ofK; rw [hr]; rfl
    have HF := Lib.hid (And.intro e1 e2)
    clear e1 e2 hz
    generalize Ed.offX t.tx c.a c.b = fv at *
    generalize Ed.offX t.tx c.c c.d = kv at *
    have KEEP := Lib.hid (fun w' (hB : Below w1.heap.size w1 w') => (show (w'.cell? ⟨w.heap.size, 1, none⟩ = some (.int .i64 c.a) ∧ w'.cell? ⟨w.heap.size, 2, none⟩ = some (.int .i64 c.b)) ∧ w'.cell? ⟨w.heap.size, 3, none⟩ = some (.int .i64 c.c) ∧ w'.cell? ⟨w.heap.size, 4, none⟩ = some (.int .i64 c.d) from by
      have k := (hB.block w.heap.size (by have := H1.out.2.2.2; omega)).trans H1.out.2.2.1
      refine ⟨⟨?_, ?_⟩, ?_, ?_⟩ <;> (rw [Lib.cell_of_heap k]; rfl)))
    go_upto_region 5 with fail
    obtain ⟨⟨z1, z2⟩, z3, z4⟩ := KEEP.out w1 (Below.refl _ _)
    clear x0 hr
    go_region_held3 (fun w' => (w'.cell? ⟨w.heap.size, 1, none⟩ = some (.int .i64 c.a) ∧ w'.cell? ⟨w.heap.size, 2, none⟩ = some (.int .i64 c.b)) ∧ w'.cell? ⟨w.heap.size, 3, none⟩ = some (.int .i64 c.c) ∧ w'.cell? ⟨w.heap.size, 4, none⟩ = some (.int .i64 c.d))
      (first | exact KEEP.out _ hC2 | exact KEEP.out _ hC1 | exact KEEP.out _ (Below.refl _ _).drew | exact KEEP.out _ (Below.refl _ _))
      (first
        | (go_at_call 20; (with_reducible refine (HOb.out _ (H1.out.1.trans (hC1.mono H1.out.1.size))).mono ?_); rintro en wk2 ⟨rfl, hB⟩; have hC2 := hC1.trans (hB.mono hC1.size); clear hB)
        | (go_at_call 20; (with_reducible refine (HOa.out _ H1.out.1.drew).mono ?_); rintro en wk1 ⟨rfl, hB⟩; have hC1 := (Below.refl w1.heap.size w1).drew.trans hB; clear hB))
    rename_i hHeld
    have k0 := (hC2.block w.heap.size (by have := H1.out.2.2.2; omega)).trans H1.out.2.2.1
    have H2 := Lib.hid (And.intro (H1.out.1.trans (hC2.mono H1.out.1.size)) (And.intro (EditRow.below H1.out.2.1 hC2) (And.intro k0 (Nat.lt_of_lt_of_le H1.out.2.2.2 hC2.size))))
    clear hHeld KEEP z1 z2 z3 z4 hC1 hC2 k0
    generalize wk2 = W2 at *
    go_upto_region 6 with fail
    by_cases hlt : kv < fv
    · have HE := Lib.hid (show Ed.ofAns fv kv c.s = (⟨0, 0, ⟨#[]⟩⟩, 90) by unfold Ed.ofAns; rw [if_pos hlt])
      have r0 := H2.out.2.1
      have hb := H2.out.1
      go_wp2_with (refine wpList_store_row rfl 63 _ _ rfl (w.heap.size + 1) #[.int .i64 (0), .int .i64 (0), .string ⟨#[]⟩] (by rfl) (by rfl) 63 _ r0 info_edit rfl (one_edit _ _ _) ?_)
      exact edit_ret2 (by rfl) _ _ (w.heap.size + 1) 0 0 ⟨#[]⟩ (.int .i64 90) (by rfl) (by rfl) rfl (EditRow.set r0 ⟨0, 0, ⟨#[]⟩⟩) ⟨by rw [HF.out.1, HF.out.2, HE.out], below_setRow hb (by omega) _⟩
    · have HE := Lib.hid (show Ed.ofAns fv kv c.s = (⟨fv, kv, c.s⟩, 0) by unfold Ed.ofAns; rw [if_neg hlt])
      have x5 : W2.cell? ⟨w.heap.size, 5, none⟩ = some (.string c.s) := by rw [Lib.cell_of_heap H2.out.2.2.1]; rfl
      go_wp2_with fail
      refine (HCl.out W2).mono ?_
      rintro en w3 ⟨rfl, hB⟩
      have r0 := EditRow.below H2.out.2.1 hB
      have hb := H2.out.1.trans (hB.mono H2.out.1.size)
      clear x5 hB
      go_wp2_with (refine wpList_store_row rfl 63 _ _ rfl (w.heap.size + 1) #[.int .i64 (fv), .int .i64 (kv), .string c.s] (by rfl) (by rfl) 63 _ r0 info_edit rfl (one_edit _ _ _) ?_)
      exact edit_ret2 (by rfl) _ _ (w.heap.size + 1) fv kv c.s (.int .i64 0) (by rfl) (by rfl) rfl (EditRow.set r0 ⟨fv, kv, c.s⟩) ⟨by rw [HF.out.1, HF.out.2, HE.out], below_setRow hb (by omega) _⟩
end Go.Proofs.YtjeopabnddekgaaDoor
