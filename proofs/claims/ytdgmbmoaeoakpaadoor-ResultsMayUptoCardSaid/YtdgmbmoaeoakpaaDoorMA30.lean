/- The program's clone: a value in memory of its own, the same. Conditions: strings of at most 2^47 bytes, rows of at most 2 * 10^12 elements. -/
import Derived.Test.YtdgmbmoaeoakpaaDoorMA03
import Derived.Test.YtdgmbmoaeoakpaaDoorMA04
import Derived.Test.YtdgmbmoaeoakpaaDoorMA08
import Derived.Laws.MakeOwn
import Derived.Test.YtdgmbmoaeoakpaaDoorMA21
import Derived.Shelf.Unicode.ValidAny
import Derived.Shelf.Strings.FieldsFuncAny
namespace Go.Proofs.YtdgmbmoaeoakpaaDoor
open Go Go.RowKit Go.Lib

/-- a field's box -/
def ClS (s : Nat) (nm : ByteArray) (k : Nat) (x : ByteArray) (v u : Value) (W : World) : Prop :=
  W.cell? ⟨s, 0, none⟩ = some (.string nm) ∧ W.cell? ⟨s, 1, none⟩ = some (.int .u8 k) ∧ W.cell? ⟨s, 2, none⟩ = some (.string x) ∧ W.cell? ⟨s, 3, none⟩ = some v ∧ W.cell? ⟨s, 4, none⟩ = some u
theorem ClS.below {s : Nat} {nm : ByteArray} {k : Nat} {x : ByteArray} {v u : Value} {W W' : World} (h : ClS s nm k x v u W) (hB : Below W.heap.size W W') : ClS s nm k x v u W' :=
  ⟨bcellv hB h.1, bcellv hB h.2.1, bcellv hB h.2.2.1, bcellv hB h.2.2.2.1, bcellv hB h.2.2.2.2⟩
/-- clone serves values of fewer than n elements -/
def CloneOk (n : Nat) : Prop := ∀ (ka : Nat) (xa : ByteArray) (va ua : Value) (la fa : V.T) (A : Nat → Prop) (w : World),
  la.size + fa.size < n → xa.size ≤ 140737488355328 → HS w A 0 va la → HS w A 1 ua fa →
  Calls Tryd.prog 101 #[.agg #[.int .u8 ka, .string xa, va, ua]] w (Own4F ka xa la fa w)
/-- what the loop of cloneAll keeps -/
structure CaSt (w : World) (tv : TypeId) (d g : Nat) (t : V.T) (i : Nat) (cur : Array Value) (W : World) : Prop where
  below : Below w.heap.size w W
  row : Row W g tv cur
  size : cur.size = t.len * (4 + d)
  base : w.heap.size ≤ g
  fits : RP W (fun b => Fre w.heap.size W b ∧ b ≠ g) d t i (cur.toList.take (i * (4 + d)))
theorem CaSt.step0 {w wr w1 : World} {tv : TypeId} {g : Nat} {t : V.T} {i : Nat} {cur : Array Value} {nm : ByteArray} {k : Nat} {x : ByteArray} {l f tl : V.T} {v2 u2 : Value}
    (h : CaSt w tv 0 g t i cur wr) (hi : i < t.len) (hd : t.drop i = .cons nm k x l f tl) (hnm : nm = ⟨#[]⟩) (hk : Fit nm k x) (hB : Below wr.heap.size wr w1)
    (hl : HS w1 (Fre wr.heap.size w1) 0 v2 l) (hf : HS w1 (Fre wr.heap.size w1) 1 u2 f) :
    CaSt w tv 0 g t (i + 1) ((((cur.setIfInBounds (i * 4) (.int .u8 k)).setIfInBounds (i * 4 + 1) (.string x)).setIfInBounds (i * 4 + 2) v2).setIfInBounds (i * 4 + 3) u2)
      ((((w1.setCell ⟨g, i * 4, none⟩ (.int .u8 k)).setCell ⟨g, i * 4 + 1, none⟩ (.string x)).setCell ⟨g, i * 4 + 2, none⟩ v2).setCell ⟨g, i * 4 + 3, none⟩ u2) := by
  have hg := h.row.lt
  have hsz : cur.size = t.len * 4 := h.size
  have hle : (i + 1) * 4 ≤ t.len * 4 := Nat.mul_le_mul_right 4 hi
  have he : ∀ j, j ≠ g → ((((w1.setCell ⟨g, i * 4, none⟩ (.int .u8 k)).setCell ⟨g, i * 4 + 1, none⟩ (.string x)).setCell ⟨g, i * 4 + 2, none⟩ v2).setCell ⟨g, i * 4 + 3, none⟩ u2).heap[j]? = w1.heap[j]? := fun j hj =>
    (Below.heap_setCell _ _ _ j hj).trans ((Below.heap_setCell _ _ _ j hj).trans ((Below.heap_setCell _ _ _ j hj).trans (Below.heap_setCell _ _ _ j hj)))
  have hbs := h.base
  refine ⟨((((h.below.trans (hB.mono h.below.size)).setCell hbs _).setCell hbs _).setCell hbs _).setCell hbs _, ((((h.row.same (hB.block _ hg)).set _ _).set _ _).set _ _).set _ _, by simp [h.size], hbs, ?_⟩
  have r1 := (h.fits.imp (A' := fun b => Fre w.heap.size w1 b ∧ b ≠ g) (fun b a hb => ⟨a.1.imp a.1.1 (hB.block b hb), a.2⟩) (fun b _ hb => hB.block b hb)).snoc0 hd hnm (hl.mono fun b hb _ => ⟨hb.imp (Nat.le_trans h.below.size hb.1) rfl, by have := hb.1; omega⟩) (hf.mono fun b hb _ => ⟨hb.imp (Nat.le_trans h.below.size hb.1) rfl, by have := hb.1; omega⟩) hk
  have r2 := r1.imp (A' := fun b => Fre w.heap.size _ b ∧ b ≠ g) (fun b a _ => ⟨a.1.imp a.1.1 (he b a.2), a.2⟩) (fun b hb _ => he b hb.2)
  have e := take_set4 cur.toList (i * 4) (.int .u8 k) (.string x) v2 u2 (by rw [Array.length_toList]; omega)
  rw [Nat.add_zero] at r2
  rw [← e] at r2
  simp only [Array.toList_setIfInBounds]
  rw [show (i + 1) * (4 + 0) = i * 4 + 4 by omega]
  exact r2
theorem CaSt.step1 {w wr w1 : World} {tv : TypeId} {g : Nat} {t : V.T} {i : Nat} {cur : Array Value} {nm : ByteArray} {k : Nat} {x : ByteArray} {l f tl : V.T} {v2 u2 : Value}
    (h : CaSt w tv 1 g t i cur wr) (hi : i < t.len) (hd : t.drop i = .cons nm k x l f tl) (hk : Fit nm k x) (hB : Below wr.heap.size wr w1)
    (hl : HS w1 (Fre wr.heap.size w1) 0 v2 l) (hf : HS w1 (Fre wr.heap.size w1) 1 u2 f) :
    CaSt w tv 1 g t (i + 1) (((((cur.setIfInBounds (i * 5) (.string nm)).setIfInBounds (i * 5 + 1) (.int .u8 k)).setIfInBounds (i * 5 + 2) (.string x)).setIfInBounds (i * 5 + 3) v2).setIfInBounds (i * 5 + 4) u2)
      (((((w1.setCell ⟨g, i * 5, none⟩ (.string nm)).setCell ⟨g, i * 5 + 1, none⟩ (.int .u8 k)).setCell ⟨g, i * 5 + 2, none⟩ (.string x)).setCell ⟨g, i * 5 + 3, none⟩ v2).setCell ⟨g, i * 5 + 4, none⟩ u2) := by
  have hg := h.row.lt
  have hsz : cur.size = t.len * 5 := h.size
  have hle : (i + 1) * 5 ≤ t.len * 5 := Nat.mul_le_mul_right 5 hi
  have he : ∀ j, j ≠ g → (((((w1.setCell ⟨g, i * 5, none⟩ (.string nm)).setCell ⟨g, i * 5 + 1, none⟩ (.int .u8 k)).setCell ⟨g, i * 5 + 2, none⟩ (.string x)).setCell ⟨g, i * 5 + 3, none⟩ v2).setCell ⟨g, i * 5 + 4, none⟩ u2).heap[j]? = w1.heap[j]? := fun j hj =>
    (Below.heap_setCell _ _ _ j hj).trans ((Below.heap_setCell _ _ _ j hj).trans ((Below.heap_setCell _ _ _ j hj).trans ((Below.heap_setCell _ _ _ j hj).trans (Below.heap_setCell _ _ _ j hj))))
  have hbs := h.base
  refine ⟨(((((h.below.trans (hB.mono h.below.size)).setCell hbs _).setCell hbs _).setCell hbs _).setCell hbs _).setCell hbs _, (((((h.row.same (hB.block _ hg)).set _ _).set _ _).set _ _).set _ _).set _ _, by simp [h.size], hbs, ?_⟩
  have r1 := (h.fits.imp (A' := fun b => Fre w.heap.size w1 b ∧ b ≠ g) (fun b a hb => ⟨a.1.imp a.1.1 (hB.block b hb), a.2⟩) (fun b _ hb => hB.block b hb)).snoc1 hd (hl.mono fun b hb _ => ⟨hb.imp (Nat.le_trans h.below.size hb.1) rfl, by have := hb.1; omega⟩) (hf.mono fun b hb _ => ⟨hb.imp (Nat.le_trans h.below.size hb.1) rfl, by have := hb.1; omega⟩) hk
  have r2 := r1.imp (A' := fun b => Fre w.heap.size _ b ∧ b ≠ g) (fun b a _ => ⟨a.1.imp a.1.1 (he b a.2), a.2⟩) (fun b hb _ => he b hb.2)
  have e := take_set5 cur.toList (i * 5) (.string nm) (.int .u8 k) (.string x) v2 u2 (by rw [Array.length_toList]; omega)
  rw [show i * (4 + 1) = i * 5 by omega] at r2
  rw [← e] at r2
  simp only [Array.toList_setIfInBounds]
  rw [show (i + 1) * (4 + 1) = i * 5 + 5 by omega]
  exact r2
theorem CaSt.whole {w W : World} {tv : TypeId} {d g : Nat} {t : V.T} {cur : Array Value} (h : CaSt w tv d g t t.len cur W) (hl : t.len ≤ 2000000000000) : HS W (Fre w.heap.size W) d (.slice (some ⟨g, 0, none⟩) t.len t.len) t := by
  refine .inr (.inr ⟨g, 0, t.len, rfl, Nat.le_refl _, ⟨by unfold maxLen; omega, hl⟩, ?_⟩)
  have h5 : RP W (Fre w.heap.size W) d t t.len (cur.toList.take (t.len * (4 + d))) := h.fits.imp (fun b hb _ => hb.1) (fun _ _ _ => rfl)
  rw [← h.size, List.take_of_length_le (by simp)] at h5
  have h6 := RP.row h5 (g := g) ⟨h.base, h.row.free⟩ (fun j u hj => by
    rw [Array.getElem?_toList] at hj
    exact (cell_of_row W g j cur tv (0, 0) h.row).trans hj) t.len 0 (by omega)
  rw [V.T.drop_zero, Nat.zero_mul] at h6
  exact h6

set_option maxRecDepth 100000 in
set_option maxHeartbeats 1000000 in
theorem cloneList_any (n : Nat) (ih : CloneOk n) (v : Value) (t : V.T) (A : Nat → Prop) (w : World) (ht : t.size ≤ n) (hv : HS w A 0 v t) :
    Calls Tryd.prog 128 #[v, .func (.func 101) #[] #[]] w (OwnS 0 t w) := by
  rcases hv.shape with ⟨rfl, hn⟩ | ⟨a, c, rfl, hc, hc2, hl⟩
  · obtain rfl := V.T.len_nil hn
    have qT := Lib.run_eql_slice_nil (P := Tryd.prog) w _ _ none 0 0 0 0 Tryd.underlying22
    go_enter Tryd.func128, Tryd.ntmps128
    go_wp2_with fail
    go_ret
    exact ⟨_, rfl, HS.nil _ _ _, SlFree.nil _ _, Below.refl _ _⟩
  · generalize ea : t.len = na at *
    have HE := Lib.hid ea
    have HT := Lib.hid ht
    have HR0 := Lib.hid hv
    clear ea ht hv
    have qT := fun w => Lib.run_eql_slice_nil (P := Tryd.prog) w _ _ (some a) na c 0 0 Tryd.underlying22
    obtain ⟨i0, hi0, hz0, hz1, hz2⟩ := info_parts infoValue
    obtain ⟨M, hM⟩ : ∃ M, M = madeCells (Value.agg #[.int .u8 0, .string ⟨#[]⟩, .slice none 0 0, .slice none 0 0]).cells (((na : Nat) : Int).toNat * i0.size) := ⟨_, rfl⟩
    have hMs : M.size = na * 4 := by
      rw [hM, size_madeCells, hz1, Int.toNat_natCast]
    have hmk : ∀ W : World, (Instr.makeSlice 22 (.int .i64 (na : Int)) (.int .i64 (na : Int))).run Tryd.prog W = .ok (.slice (some ⟨W.heap.size, 0, none⟩) na na) (W.alloc (.cells M 25)) := fun W => by
      have h := run_make (P := Tryd.prog) W 22 25 i0 _ Tryd.underlying22 hi0 hz0 .i64 .i64 (na : Int) (na : Int) (by omega) (by omega) (by rw [hz2]; omega) (by omega)
      rw [← hM] at h
      simpa using h
    clear hM
    go_enter Tryd.func128, Tryd.ntmps128
    go_wp2_with fail
    have hrow : Row (w.alloc (.cells M 25)) w.heap.size 25 M := heap_alloc_new _ _
    have hc0 : CaSt w 25 0 w.heap.size t 0 M (w.alloc (.cells M 25)) :=
      ⟨(Below.refl _ _).alloc (Nat.le_refl _) _, hrow, by rw [hMs, HE.out], Nat.le_refl _, by rw [Nat.zero_mul, List.take_zero]; exact RP.nil _ _ _ _⟩
    generalize w.alloc (.cells M 25) = W0 at *
    have HC := Lib.hid hc0
    clear hrow hc0 hMs hmk
    go_loopw [15] (fun p wr => ∃ i : Nat, p = .int .i64 i ∧ i ≤ na ∧ Hid (∃ cur, CaSt w 25 0 w.heap.size t i cur wr)) (fun p _ => na - (RowKit.intOf p).toNat)
    case atStart => exact ⟨0, rfl, Nat.zero_le _, Lib.hid ⟨_, HC.out⟩⟩
    case round =>
      obtain ⟨i, rfl, hi, HR⟩ := hrel
      obtain ⟨cur, hR⟩ := HR.out
      by_cases hlt : i < na
      · have HQ := Lib.hid hR
        clear HR hR
        obtain ⟨nm1, k1, x1, l1, f1, tl1, hd1⟩ := V.T.drop_some (t := t) (i := i) (by rw [HE.out]; exact hlt)
        obtain ⟨b, o, v1, u1, hbo, E1⟩ := (HR0.out.below HQ.out.below).elem (by rw [HE.out]; exact hlt) hd1
        cases hbo
        obtain ⟨p1, c5, rfl, -⟩ := E1.hl.len
        obtain ⟨p2, c6, rfl, -⟩ := E1.hf.len
        have e1 := E1.kind
        have e2 := E1.text
        have e3 := E1.list
        have e4 := E1.fields
        simp only [Nat.add_zero, Nat.reduceAdd] at e1 e2 e3 e4
        have HL := Lib.hid hlt
        have D1 := Lib.hid hd1
        clear hd1
        have IH := fun W (hB : Below wr.heap.size wr W) => ih k1 x1 (.slice p1 l1.len c5) (.slice p2 f1.len c6) l1 f1 A W (by have := V.T.drop_size D1.out; have := HT.out; omega) E1.small.text (E1.hl.below hB) (E1.hf.below hB)
        have hrow := HQ.out.row
        have hgl := hrow.lt
        have hcs : i * 4 + 4 ≤ cur.size := by rw [HQ.out.size, HE.out]; have := HL.out; omega
        go_wp2_with fail
        go_at_call 101
        (with_reducible refine (IH _ ((Below.refl _ _).alloc (Nat.le_refl _) _)).mono ?_)
        rintro e w1 ⟨v2, u2, rfl, hl1, hf1, _, _, hB1⟩
        obtain ⟨p3, c7, rfl, -⟩ := hl1.len
        obtain ⟨p4, c8, rfl, -⟩ := hf1.len
        have hB2 := (((Below.refl wr.heap.size wr).alloc (Nat.le_refl _) (.cells #[.int .u8 k1, .string x1, .slice p1 l1.len c5, .slice p2 f1.len c6] 25)).trans (hB1.mono (by simp)))
        have hr1 := hrow.same (hB2.block _ hgl)
        have q0 := hr1.cell (j := i * 4) (by omega)
        have q1 := hr1.cell (j := i * 4 + 1) (by omega)
        have q2 := hr1.cell (j := i * 4 + 2) (by omega)
        have q3 := hr1.cell (j := i * 4 + 3) (by omega)
        have z0 := hr1.free (i * 4)
        have z1 := hr1.free (i * 4 + 1)
        have z2 := hr1.free (i * 4 + 2)
        have z3 := hr1.free (i * 4 + 3)
        have H1 := Lib.hid (And.intro hl1 hf1)
        have HB2 := Lib.hid hB2
        have HX := Lib.hid (World.size_alloc wr (.cells #[.int .u8 k1, .string x1, .slice p1 l1.len c5, .slice p2 f1.len c6] 25))
        clear hl1 hf1 hB1 hB2 hr1
        go_wp2_with fail
        go_roundw
        case rel => exact ⟨i + 1, by go_num, HL.out, Lib.hid ⟨_, HQ.out.step0 (by rw [HE.out]; exact HL.out) D1.out (E1.nil rfl) E1.small HB2.out (H1.out.1.mono fun b hb _ => hb.imp (by have := HX.out; have := hb.1; omega) rfl) (H1.out.2.mono fun b hb _ => hb.imp (by have := HX.out; have := hb.1; omega) rfl)⟩⟩
        case measure => have := HL.out; simp [RowKit.intOf]; omega
      · obtain rfl : i = na := by omega
        clear HR
        have hw := CaSt.whole (by rw [HE.out]; exact hR) (by rw [HE.out]; exact hl)
        rw [HE.out] at hw
        have HF := Lib.hid (And.intro hw (And.intro (show SlFree w.heap.size wr (.slice (some ⟨w.heap.size, 0, none⟩) i i) from fun b hb => by cases hb; exact ⟨Nat.le_refl _, hR.row.lt, hR.row.free⟩) hR.below))
        clear hw hR
        go_wp2_with fail
        go_ret
        exact ⟨_, rfl, HF.out.1, HF.out.2.1, HF.out.2.2⟩

set_option maxRecDepth 100000 in
set_option maxHeartbeats 1000000 in
theorem cloneField_any (n : Nat) (ih : CloneOk n) (nm : ByteArray) (k : Nat) (x : ByteArray) (v u : Value) (l f : V.T) (A : Nat → Prop) (w : World) (hn : l.size + f.size < n) (hk : Fit nm k x) (hl : HS w A 0 v l) (hf : HS w A 1 u f) :
    Calls Tryd.prog 130 #[.agg #[.string nm, .int .u8 k, .string x, v, u]] w (Own5 nm k x l f w) := by
  obtain ⟨p1, c1, rfl, -⟩ := hl.len
  obtain ⟨p2, c2, rfl, -⟩ := hf.len
  unfold CloneOk at ih
  go_enter Tryd.func130, Tryd.ntmps130
  go_wp2_with fail
  have hx := two_new w (.cells #[.string nm, .int .u8 k, .string x, .slice p1 l.len c1, .slice p2 f.len c2] 43) (.cells #[.string ⟨#[]⟩, .int .u8 0, .string ⟨#[]⟩, .slice none 0 0, .slice none 0 0] 43)
  have hw := two_below w (.cells #[.string nm, .int .u8 k, .string x, .slice p1 l.len c1, .slice p2 f.len c2] 43) (.cells #[.string ⟨#[]⟩, .int .u8 0, .string ⟨#[]⟩, .slice none 0 0, .slice none 0 0] 43)
  have hz := two_size w (.cells #[.string nm, .int .u8 k, .string x, .slice p1 l.len c1, .slice p2 f.len c2] 43) (.cells #[.string ⟨#[]⟩, .int .u8 0, .string ⟨#[]⟩, .slice none 0 0, .slice none 0 0] 43)
  generalize (w.alloc (.cells #[.string nm, .int .u8 k, .string x, .slice p1 l.len c1, .slice p2 f.len c2] 43)).alloc (.cells #[.string ⟨#[]⟩, .int .u8 0, .string ⟨#[]⟩, .slice none 0 0, .slice none 0 0] 43) = W0 at *
  have r1 : Row W0 w.heap.size 43 _ := hx.1
  have r2 : Row W0 (w.heap.size + 1) 43 _ := hx.2
  have HS0 := Lib.hid (show ClS w.heap.size nm k x (.slice p1 l.len c1) (.slice p2 f.len c2) W0.drew from ⟨r1.cell (j := 0) (by simp), r1.cell (j := 1) (by simp), r1.cell (j := 2) (by simp), r1.cell (j := 3) (by simp), r1.cell (j := 4) (by simp)⟩)
  have HR := Lib.hid r2
  have HW := Lib.hid hw
  have HZ := Lib.hid hz
  have HN := Lib.hid hn
  have HA := Lib.hid (And.intro hl hf)
  have HK := Lib.hid hk
  clear hx hw hz r1 r2 hn hl hf hk
  refine wp_region_last (S := ClS w.heap.size nm k x (.slice p1 l.len c1) (.slice p2 f.len c2)) (z := 7) (by kernel_rfl) ?_
  refine wpAnyZ_take (v := ?_) 0 rfl (by kernel_rfl) (by kernel_rfl) (by kernel_rfl) (fun _ _ _ h => h) (by kernel_rfl) (by kernel_rfl) (by decide) HS0.out (by rfl) (fun W hSW => ?_) ?_
  rotate_left
  · obtain ⟨s1, s2, s3, s4, s5⟩ := hSW
    go_simp
    try with_reducible rfl
  try simp only [Act.put, List.setIfInBounds_toArray, List.set_cons_zero, List.set_cons_succ]
  refine wpAnyZ_take (v := ?_) 1 rfl (by kernel_rfl) (by kernel_rfl) (by kernel_rfl) (fun _ _ _ h => h) (by kernel_rfl) (by kernel_rfl) (by decide) HS0.out (by rfl) (fun W hSW => ?_) ?_
  rotate_left
  · obtain ⟨s1, s2, s3, s4, s5⟩ := hSW
    go_simp
    try with_reducible rfl
  try simp only [Act.put, List.setIfInBounds_toArray, List.set_cons_zero, List.set_cons_succ]
  refine wpAnyZ_take (v := ?_) 3 rfl (by kernel_rfl) (by kernel_rfl) (by kernel_rfl) (fun _ _ _ h => h) (by kernel_rfl) (by kernel_rfl) (by decide) HS0.out (by rfl) (fun W hSW => ?_) ?_
  rotate_left
  · obtain ⟨s1, s2, s3, s4, s5⟩ := hSW
    go_simp
    try with_reducible rfl
  try simp only [Act.put, List.setIfInBounds_toArray, List.set_cons_zero, List.set_cons_succ]
  refine wpAnyZ_take (v := ?_) 4 rfl (by kernel_rfl) (by kernel_rfl) (by kernel_rfl) (fun _ _ _ h => h) (by kernel_rfl) (by kernel_rfl) (by decide) HS0.out (by rfl) (fun W hSW => ?_) ?_
  rotate_left
  · obtain ⟨s1, s2, s3, s4, s5⟩ := hSW
    go_simp
    try with_reducible rfl
  try simp only [Act.put, List.setIfInBounds_toArray, List.set_cons_zero, List.set_cons_succ]
  refine wpAnyZ_op 2 (by kernel_rfl) rfl (fun K hK => ?_)
  go_simp
  go_at_call 79
  (with_reducible refine (strClone_any _ _ HK.out.name).mono ?_)
  rintro e w1 ⟨rfl, hB1⟩
  have HB1 := Lib.hid ((Below.refl W0.heap.size W0).drew.trans hB1)
  have HS1 := Lib.hid (HS0.out.below hB1)
  clear hB1
  refine hK.out _ _ HS1.out ?_
  try simp only [Act.put, List.setIfInBounds_toArray, List.set_cons_zero, List.set_cons_succ]
  clear hK K
  refine wpAnyZ_op 5 (by kernel_rfl) rfl (fun K hK => ?_)
  go_simp
  go_at_call 101
  have HB3 := Lib.hid (HW.out.trans (HB1.out.mono HW.out.size))
  (with_reducible refine (ih k x _ _ l f A w1 HN.out HK.out.text (HA.out.1.below HB3.out) (HA.out.2.below HB3.out)).mono ?_)
  rintro e w2 ⟨v2, u2, rfl, hl2, hf2, _, _, hB2⟩
  obtain ⟨p3, c3, rfl, -⟩ := hl2.len
  obtain ⟨p4, c4, rfl, -⟩ := hf2.len
  have HB2 := Lib.hid hB2
  have HS2 := Lib.hid (HS1.out.below hB2)
  have H2 := Lib.hid (And.intro hl2 hf2)
  clear hB2 hl2 hf2
  refine hK.out _ _ HS2.out ?_
  try simp only [Act.put, List.setIfInBounds_toArray, List.set_cons_zero, List.set_cons_succ]
  clear hK K
  refine wpAnyZ_take (v := ?_) 6 rfl (by kernel_rfl) (by kernel_rfl) (by kernel_rfl) (fun _ _ _ h => h) (by kernel_rfl) (by kernel_rfl) (by decide) HS2.out (by rfl) (fun W hSW => ?_) ?_
  rotate_left
  · obtain ⟨s1, s2, s3, s4, s5⟩ := hSW
    go_simp
    try with_reducible rfl
  try simp only [Act.put, List.setIfInBounds_toArray, List.set_cons_zero, List.set_cons_succ]
  refine wpAnyZ_end (by kernel_rfl) rfl (by kernel_rfl) (fun K hK => ?_)
  have r3 : Row w2 (w.heap.size + 1) 43 _ := (HR.out.same (HB1.out.block _ HR.out.lt)).same (HB2.out.block _ (Nat.lt_of_lt_of_le HR.out.lt HB1.out.size))
  have q0 := r3.cell (j := 0) (by simp)
  have q1 := r3.cell (j := 1) (by simp)
  have q2 := r3.cell (j := 2) (by simp)
  have q3 := r3.cell (j := 3) (by simp)
  have q4 := r3.cell (j := 4) (by simp)
  have z0 := r3.free 0
  have z1 := r3.free 1
  have z2 := r3.free 2
  have z3 := r3.free 3
  have z4 := r3.free 4
  go_simp
  refine hK.out _ _ ?_
  clear hK K
  have r4 := ((((r3.set 0 (.string nm)).set 1 (.int .u8 k)).set 2 (.string x)).set 3 (.slice p3 l.len c3)).set 4 (.slice p4 f.len c4)
  have g4 : ∀ j, j ≠ w.heap.size + 1 → (((((w2.setCell ⟨w.heap.size + 1, 0, none⟩ (.string nm)).setCell ⟨w.heap.size + 1, 1, none⟩ (.int .u8 k)).setCell ⟨w.heap.size + 1, 2, none⟩ (.string x)).setCell ⟨w.heap.size + 1, 3, none⟩ (.slice p3 l.len c3)).setCell ⟨w.heap.size + 1, 4, none⟩ (.slice p4 f.len c4)).heap[j]? = w2.heap[j]? := fun j hj =>
    (Below.heap_setCell _ _ _ j hj).trans ((Below.heap_setCell _ _ _ j hj).trans ((Below.heap_setCell _ _ _ j hj).trans ((Below.heap_setCell _ _ _ j hj).trans (Below.heap_setCell _ _ _ j hj))))
  have g5 : Below w.heap.size w2 (((((w2.setCell ⟨w.heap.size + 1, 0, none⟩ (.string nm)).setCell ⟨w.heap.size + 1, 1, none⟩ (.int .u8 k)).setCell ⟨w.heap.size + 1, 2, none⟩ (.string x)).setCell ⟨w.heap.size + 1, 3, none⟩ (.slice p3 l.len c3)).setCell ⟨w.heap.size + 1, 4, none⟩ (.slice p4 f.len c4)) :=
    (((((Below.refl _ _).setCell (Nat.le_succ _) _).setCell (Nat.le_succ _) _).setCell (Nat.le_succ _) _).setCell (Nat.le_succ _) _).setCell (Nat.le_succ _) _
  generalize ((((w2.setCell ⟨w.heap.size + 1, 0, none⟩ (.string nm)).setCell ⟨w.heap.size + 1, 1, none⟩ (.int .u8 k)).setCell ⟨w.heap.size + 1, 2, none⟩ (.string x)).setCell ⟨w.heap.size + 1, 3, none⟩ (.slice p3 l.len c3)).setCell ⟨w.heap.size + 1, 4, none⟩ (.slice p4 f.len c4) = W3 at *
  simp only [List.setIfInBounds_toArray, List.set_cons_zero, List.set_cons_succ] at r4
  have y0 : W3.cell? ⟨w.heap.size + 1, 0, none⟩ = _ := r4.cell (j := 0) (by simp)
  have y1 : W3.cell? ⟨w.heap.size + 1, 1, none⟩ = _ := r4.cell (j := 1) (by simp)
  have y2 : W3.cell? ⟨w.heap.size + 1, 2, none⟩ = _ := r4.cell (j := 2) (by simp)
  have y3 : W3.cell? ⟨w.heap.size + 1, 3, none⟩ = _ := r4.cell (j := 3) (by simp)
  have y4 : W3.cell? ⟨w.heap.size + 1, 4, none⟩ = _ := r4.cell (j := 4) (by simp)
  go_wp2_with fail
  refine bodyPost_ret (v := .agg #[.string nm, .int .u8 k, .string x, .slice p3 l.len c3, .slice p4 f.len c4]) (by simp [results, Tryd.results130, go_sem, y0, y1, y2, y3, y4]) rfl ⟨_, _, rfl, ?_, ?_, ?_⟩
  · exact H2.out.1.fre (fun b hb => Nat.le_trans HB3.out.size hb) (fun b hb _ => g4 b (by have h1 := HB1.out.size; have h2 := HZ.out; omega))
  · exact H2.out.2.fre (fun b hb => Nat.le_trans HB3.out.size hb) (fun b hb _ => g4 b (by have h1 := HB1.out.size; have h2 := HZ.out; omega))
  · exact (HB3.out.trans (HB2.out.mono HB3.out.size)).trans g5
end Go.Proofs.YtdgmbmoaeoakpaaDoor

namespace Go.Proofs
open Go Go.RowKit Go.Shelf Go.Lib

namespace YtdgmbmoaeoakpaaDoor
theorem validString_any (s : ByteArray) (w : World) (hs : s.size ≤ 1000000000000) (hT : Tabs w) :
    Calls Tryd.prog 125 #[.string s] w (BoolIs (U.valid s) w) := by
  have := Any.utf8_ValidString Tryd.laysValid s w (by omega) hT
  rw [U.validD_eq] at this
  exact this
set_option maxHeartbeats 400000 in
set_option maxRecDepth 100000 in
theorem utfValid_any (s : ByteArray) (w : World) (hs : s.size ≤ 1000000000000) (hT : Tabs w) :
    Calls Tryd.prog 98 #[.string s] w (BoolIs (U.valid s) w) := by
  have hc := validString_any s w hs hT
  generalize U.valid s = v at *
  go_enter Tryd.func98, Tryd.ntmps98
  go_wp2_with fail
  refine hc.mono ?_
  rintro e w' ⟨rfl, hb⟩
  go_wp2_with fail
  go_ret
  exact ⟨rfl, hb⟩
end YtdgmbmoaeoakpaaDoor
end Go.Proofs

namespace Go.Proofs
open Go Go.RowKit Go.Shelf Go.Lib

namespace YtdgmbmoaeoakpaaDoor
set_option maxHeartbeats 400000 in
set_option maxRecDepth 100000 in
theorem utfFix_valid (s : ByteArray) (w : World) (hs : s.size ≤ 1000000000000) (hT : Tabs w) (h : U.valid s = true) :
    Calls Tryd.prog 80 #[.string s] w (StrIs (U.fixS s) w) := by
  have hc := utfValid_any s w hs hT
  rw [U.fixS_valid s h]
  rw [h] at hc
  clear h
  go_enter Tryd.func80, Tryd.ntmps80
  go_wp2_with fail
  refine hc.mono ?_
  rintro e w' ⟨rfl, hb⟩
  go_wp2_with fail
  go_ret
  exact ⟨rfl, hb⟩

set_option maxHeartbeats 1000000 in
set_option maxRecDepth 100000 in
theorem utfFix_broken (s : ByteArray) (w : World) (hs : s.size ≤ 1000000000000) (hT : Tabs w) (h : U.valid s = false) :
    Calls Tryd.prog 80 #[.string s] w (StrIs (U.fixS s) w) := by
  have hc := utfValid_any s w hs hT
  rw [h] at hc
  clear h
  obtain ⟨i0, hi, hz0, hz1, hz2⟩ := info_parts infoByte
  go_enter Tryd.func80, Tryd.ntmps80
  go_wp2_with fail
  refine hc.mono ?_
  rintro e w1 ⟨rfl, hb⟩
  go_wp2_with (refine wpList_make_own _ rfl _ _ 107 rfl w.heap.size 5 i0 (.int .u8 0) 1 Tryd.underlying107 hi hz0 hz1 .i64 .i64 _ s.size rfl rfl rfl ?c1 ?c2 hb.size ?_)
  case c1 => rw [hz2]; omega
  case c2 => unfold maxLen; omega
  intro w2 hown2 hgrow2
  have hb2 := hb.grown hgrow2 hb.size (fun k hk => by cases hk)
  clear hb hgrow2 hc
  go_wp2_with fail
  go_loopw [3] (fun v wr => ∃ (f pos : Nat) (l : List UInt8), Hid (wr.heap[w2.heap.size]? = some (.stringIter s pos)) ∧ pos ≤ s.size ∧ l.length ≤ 3 * pos ∧ wr.ownsRow w.heap.size 5 1 v l.length (U.cellsOf l) ∧ Hid (l ++ U.fixFrom s f pos = U.fixL s ∧ s.size ≤ pos + f) ∧ Below w.heap.size w wr) (fun _ wr => s.size - wr.iterPos w2.heap.size)
  case atStart => exact ⟨s.size, 0, [], Lib.hid (World.iter_heap _ _ _), by omega, by simp, hown2.alloc _, Lib.hid ⟨rfl, by omega⟩, hb2.alloc hb2.size _⟩
  case round =>
    obtain ⟨f, pos, l, HI, hp, hl, hown, HU, hbl⟩ := hrel
    have HM := Lib.hid (iterPos_of HI.out)
    by_cases hlt : pos < s.size
    · have hw1 := U.wd_pos hlt
      have hw2 := U.wd_le hlt
      obtain ⟨f', rfl⟩ : ∃ f', f = f' + 1 := ⟨f - 1, by have := HU.out.2; omega⟩
      have HS := Lib.hid (U.fixFrom_step s f' pos hlt)
      have hpl := (U.piece_le hlt).1
      have hnx : ∀ ty, (Instr.next (.pointer (some ⟨w2.heap.size, 0, none⟩)) true ty).run Tryd.prog wr = .ok (.tuple #[.bool true, .int .i64 pos, .int .i32 (U.ch s pos)]) (wr.iterAt w2.heap.size s (pos + U.wd s pos)) := fun ty => Lib.run_next_any_at wr _ s pos ty HI.out hlt
      have hI1 := Lib.hid (Lib.iterAt_heap wr _ s pos (pos + U.wd s pos) HI.out)
      have hown1 := own_iterAt hown HI.out (pos + U.wd s pos)
      have hbl1 := Lib.below_iterAt hbl hb2.size s (pos + U.wd s pos)
      have hc := append_any w.heap.size u3 l s pos hlt _ hown1 (by omega) hbl1.size
      generalize U.wd s pos = d at *
      generalize U.ch s pos = c at *
      clear hown hbl
      go_wp2_with fail
      refine hc.mono ?_
      rintro e w3 ⟨v', rfl, hown3, o, hgrow⟩
      have hI3 := Lib.hid (iter_grown hI1.out hgrow (own_ne_iter hown1 hI1.out))
      have hb3 := (hbl1.alloc hbl1.size o).grown hgrow (hbl1.alloc hbl1.size o).size (fun k hk => (hown1.lt k hk).1)
      have HM3 := Lib.hid (iterPos_of hI3.out)
      clear hbl1 hown1 hgrow hc
      go_wp2_with fail
      go_roundw
      case rel =>
        refine ⟨f', pos + d, l ++ U.piece s pos, hI3, by omega, by rw [List.length_append]; omega, hown3, Lib.hid ⟨?_, ?_⟩, hb3⟩
        · rw [List.append_assoc, ← HS.out]; exact HU.out.1
        · have := HU.out.2; omega
      case measure =>
        rw [HM3.out, HM.out]
        omega
    · have hnx : ∀ ty, (Instr.next (.pointer (some ⟨w2.heap.size, 0, none⟩)) true ty).run Tryd.prog wr = _ := fun ty => Lib.run_next_end_at wr _ s pos ty HI.out hlt
      have hconv := conv_own hown
      have HE := Lib.hid (U.fixFrom_end s f pos hlt)
      clear hown
      go_wp2_with fail
      go_ret
      refine ⟨?_, hbl⟩
      have := HU.out.1
      rw [HE.out, List.append_nil] at this
      unfold U.fixS
      rw [← this]
      rfl
theorem utfFix_any (s : ByteArray) (w : World) (hs : s.size ≤ 1000000000000) (hT : Tabs w) :
    Calls Tryd.prog 80 #[.string s] w (StrIs (U.fixS s) w) := by
  cases h : U.valid s
  · exact utfFix_broken s w hs hT h
  · exact utfFix_valid s w hs hT h
end YtdgmbmoaeoakpaaDoor
end Go.Proofs

namespace Go.Proofs
open Go Go.RowKit Go.Shelf Go.Lib

namespace YtdgmbmoaeoakpaaDoor
def TextIs (x : ByteArray) (w : World) (e : Ending) (w' : World) : Prop := e = .returned (.agg #[.int .u8 4, .string x, .slice none 0 0, .slice none 0 0]) ∧ Below w.heap.size w w'
set_option maxHeartbeats 1000000 in
set_option maxRecDepth 100000 in
theorem text4_any (s : ByteArray) (w : World) (hs : s.size ≤ 1000000000000) (hz : (U.fixS s).size ≤ 140737488355328) (hT : Tabs w) :
    Calls Tryd.prog 41 #[.string s] w (TextIs (U.fixS s) w) := by
  have hfix := fun W (hW : Tabs W) => utfFix_any s W hs hW
  have hclone := fun W => strClone_any (U.fixS s) W hz
  generalize U.fixS s = F at *
  have HT := Lib.hid hT
  clear hT
  have hB0 := (Below.refl w.heap.size w).alloc (Nat.le_refl _) (.cells #[.int .u8 0, .string ⟨#[]⟩, .slice none 0 0, .slice none 0 0] 25)
  have b0 : Blk4 (w.alloc (.cells #[.int .u8 0, .string ⟨#[]⟩, .slice none 0 0, .slice none 0 0] 25)) w.heap.size 25 _ _ _ _ := heap_alloc_new _ _
  go_enter Tryd.func41, Tryd.ntmps41
  go_wp2_with fail
  refine (hfix _ (tabs_below HT.out hB0)).mono ?_
  rintro e w1 ⟨rfl, hB1⟩
  have b1 := b0.same (hB1.block _ b0.lt)
  have hB2 := hB0.trans (hB1.mono hB0.size)
  clear b0 hB0 hB1 hfix
  go_wp2_with fail
  refine (hclone _).mono ?_
  rintro e w3 ⟨rfl, hB3⟩
  have b3 := b1.same (hB3.block _ b1.lt)
  have hB4 := hB2.trans (hB3.mono hB2.size)
  obtain ⟨x0, x1, x2, x3⟩ := b3.box
  have f0 := b3.free 0
  have f1 := b3.free 1
  have f2 := b3.free 2
  have f3 := b3.free 3
  have HB := Lib.hid (And.intro b3 hB4)
  clear b1 b3 hB2 hB3 hB4 hclone
  go_wp2_with fail
  obtain ⟨g1, g2, g3⟩ := HB.out.1.all (.int .u8 4) (.string F) (.slice none 0 0) (.slice none 0 0)
  have hfin := HB.out.2.trans (g3 w.heap.size (Nat.le_refl _))
  clear x0 x1 x2 x3 f0 f1 f2 f3
  generalize (((w3.setCell ⟨w.heap.size, 0, none⟩ (.int .u8 4)).setCell ⟨w.heap.size, 1, none⟩ (.string F)).setCell ⟨w.heap.size, 2, none⟩ (.slice none 0 0)).setCell ⟨w.heap.size, 3, none⟩ (.slice none 0 0) = W' at *
  obtain ⟨x0, x1, x2, x3⟩ := g1.box
  refine bodyPost_ret (v := .agg #[.int .u8 4, .string F, .slice none 0 0, .slice none 0 0]) (by simp [results, Tryd.results41, go_sem, x0, x1, x2, x3]) rfl ?_
  exact ⟨rfl, hfin⟩
end YtdgmbmoaeoakpaaDoor
end Go.Proofs

namespace Go.Proofs.YtdgmbmoaeoakpaaDoor
open Go Go.RowKit Go.Lib

/-- a field: its name, its value as it lies, the value's trees -/
structure Fe where
  nm : ByteArray
  k : Nat
  x : ByteArray
  v : Value
  u : Value
  l : V.T
  f : V.T
def Fe.cells (e : Fe) : List Value := [.string e.nm, .int .u8 e.k, .string e.x, e.v, e.u]
def cellsOf : List Fe → List Value
  | [] => []
  | e :: r => .string e.nm :: .int .u8 e.k :: .string e.x :: e.v :: e.u :: cellsOf r
def treeOf : List Fe → V.T
  | [] => .nil
  | e :: r => .cons e.nm e.k e.x e.l e.f (treeOf r)
def Fe.Ok (w : World) (A : Nat → Prop) (e : Fe) : Prop := HS w A 0 e.v e.l ∧ HS w A 1 e.u e.f ∧ Fit e.nm e.k e.x
theorem cellsOf_append (a b : List Fe) : cellsOf (a ++ b) = cellsOf a ++ cellsOf b := by
  induction a with
  | nil => rfl
  | cons e r ih => simp [cellsOf, ih]
theorem cellsOf_len (a : List Fe) : (cellsOf a).length = a.length * 5 := by
  induction a with
  | nil => rfl
  | cons e r ih => simp [cellsOf, ih]; omega
theorem treeOf_len (a : List Fe) : (treeOf a).len = a.length := by
  induction a with
  | nil => rfl
  | cons e r ih => show (treeOf r).len + 1 = _; rw [ih]; rfl
theorem Fe.Ok.below {w w' : World} {A : Nat → Prop} {e : Fe} (h : e.Ok w A) (hB : Below w.heap.size w w') : e.Ok w' A := ⟨h.1.below hB, h.2.1.below hB, h.2.2⟩
theorem Fe.Ok.mono {w : World} {A A' : Nat → Prop} {e : Fe} (h : e.Ok w A) (hA : ∀ b, A b → b < w.heap.size → A' b) : e.Ok w A' := ⟨h.1.mono hA, h.2.1.mono hA, h.2.2⟩
theorem Fe.Ok.imp {w w' : World} {A A' : Nat → Prop} {e : Fe} (h : e.Ok w A) (hA : ∀ b, A b → b < w.heap.size → A' b) (hk : ∀ b, A b → b < w.heap.size → w'.heap[b]? = w.heap[b]?) : e.Ok w' A' := ⟨h.1.imp hA hk, h.2.1.imp hA hk, h.2.2⟩
theorem one_slice {p : Option Addr} {n c : Nat} : (Value.slice p n c).oneCell' = true := rfl
theorem cellsOf_one {w : World} {A : Nat → Prop} : ∀ (es : List Fe), (∀ e ∈ es, e.Ok w A) → ∀ u ∈ cellsOf es, u.oneCell' = true
  | [], _, _, h => by cases h
  | e :: r, ho, u, h => by
    obtain ⟨h1, h2, _⟩ := ho e (List.mem_cons_self ..)
    obtain ⟨p, c, e1, _⟩ := h1.len
    obtain ⟨q, d, e2, _⟩ := h2.len
    simp only [cellsOf, List.mem_cons] at h
    rcases h with rfl | rfl | rfl | h | h | h
    · rfl
    · rfl
    · rfl
    · rw [h, e1]; rfl
    · rw [h, e2]; rfl
    · exact cellsOf_one r (fun e he => ho e (List.mem_cons_of_mem _ he)) u h
/-- the cells stand in block b from cell o on -/
theorem row_of {w : World} {A : Nat → Prop} {b : Nat} (hA : A b) : ∀ (es : List Fe) (o : Nat), (∀ e ∈ es, e.Ok w A) → (∀ j u, (cellsOf es)[j]? = some u → w.cell? ⟨b, o + j, none⟩ = some u) → HR w A 1 b o (treeOf es)
  | [], _, _, _ => trivial
  | e :: r, o, ho, h => by
    obtain ⟨h1, h2, h3⟩ := ho e (List.mem_cons_self ..)
    refine ⟨hA, (fun e => by cases e), fun _ => h 0 _ rfl, h 1 _ rfl, h 2 _ rfl, ⟨_, h 3 _ rfl, h1⟩, ⟨_, h 4 _ rfl, h2⟩, h3, ?_⟩
    exact row_of hA r (o + 5) (fun e he => ho e (List.mem_cons_of_mem _ he)) (fun j u hu => by
      have := h (j + 5) u hu
      rw [show o + (j + 5) = o + 5 + j by omega] at this
      exact this)
/-- a slice of fields as it lies -/
def Lies (w : World) (v : Value) (es : List Fe) : Prop := ∃ b c, v = .slice (some ⟨b, 0, none⟩) es.length c ∧ es.length ≤ c ∧ c ≤ maxLen ∧ b < w.heap.size ∧ ∀ j u, (cellsOf es)[j]? = some u → w.cell? ⟨b, j, none⟩ = some u
theorem Lies.below {w w' : World} {v : Value} {es : List Fe} (h : Lies w v es) (hB : Below w.heap.size w w') : Lies w' v es := by
  obtain ⟨b, c, h1, h2, h3, h4, h5⟩ := h
  exact ⟨b, c, h1, h2, h3, Nat.lt_of_lt_of_le h4 hB.size, fun j u hu => (World.cell?_of_block (w := w) (w' := w') (a := ⟨b, j, none⟩) (hB.block b h4)).trans (h5 j u hu)⟩
theorem Lies.hs {w : World} {A : Nat → Prop} {v : Value} {es : List Fe} (h : Lies w v es) (ho : ∀ e ∈ es, e.Ok w A) (hA : ∀ b, v.ownBlock = some b → A b) (hn : es.length ≤ 2000000000000) : HS w A 1 v (treeOf es) := by
  obtain ⟨b, c, rfl, h2, h3, h4, h5⟩ := h
  refine .inr (.inr ⟨b, 0, c, ?_, ?_, ⟨h3, ?_⟩, row_of (hA b rfl) es 0 ho (fun j u hu => by rw [Nat.zero_add]; exact h5 j u hu)⟩)
  · rw [treeOf_len]
  · rw [treeOf_len]; exact h2
  · rw [treeOf_len]; exact hn
theorem Lies.news {w : World} {es : List Fe} {b n c : Nat} (h : Lies w (.slice (some ⟨b, 0, none⟩) n c) es) : ∀ j u, (cellsOf es)[j]? = some u → w.cell? ((⟨b, 0, none⟩ : Addr).add j) = some u := by
  obtain ⟨b', c', e, _, _, _, h5⟩ := h
  cases e
  intro j u hu
  have hadd : (⟨b, 0, none⟩ : Addr).add j = ⟨b, j, none⟩ := by unfold Addr.add; split <;> simp_all
  rw [hadd]
  exact h5 j u hu
/-- a block just made -/
theorem lies_new {w : World} {cs : Array Value} {es : List Fe} {t : TypeId} {n : Nat} (h : cs.toList = cellsOf es) (hn : n = es.length) (hm : n ≤ maxLen) : Lies (w.alloc (.cells cs t)) (.slice (some ⟨w.heap.size, 0, none⟩) n n) es := by
  subst hn
  refine ⟨_, _, rfl, Nat.le_refl _, hm, by simp, fun j u hu => ?_⟩
  rw [cell_of_row _ _ j cs t (0, 0) (heap_alloc_new _ _)]
  rw [← h] at hu
  simpa using hu
theorem owns_new {w : World} {cs : Array Value} {es : List Fe} {t : TypeId} {n : Nat} (h : cs.toList = cellsOf es) (hn : n = es.length) (hm : n ≤ maxLen) (base : Nat) (hb : base ≤ w.heap.size) : (w.alloc (.cells cs t)).ownsRow base t 5 (.slice (some ⟨w.heap.size, 0, none⟩) n n) n (cellsOf es) := by
  subst hn
  have hz : cs.size = es.length * 5 := by rw [← Array.length_toList, h, cellsOf_len]
  refine ⟨cellsOf_len _, .inr ⟨_, _, cs, rfl, hb, heap_alloc_new _ _, Nat.le_refl _, hm, hz, ?_⟩⟩
  rw [← h, ← hz, ← Array.length_toList, List.take_length]
theorem lies_owned {w : World} {base : Nat} {t : TypeId} {g n c : Nat} {es : List Fe} (hn : n = es.length) (h : w.ownsRow base t 5 (.slice (some ⟨g, 0, none⟩) n c) n (cellsOf es)) : Lies w (.slice (some ⟨g, 0, none⟩) n c) es := by
  subst hn
  rcases h.2 with ⟨e, _⟩ | ⟨g', c', cur, e, hb, hg, h1, h2, h3, h4⟩
  · cases e
  · cases e
    refine ⟨_, _, rfl, h1, h2, (Array.getElem?_eq_some_iff.1 hg).1, fun j u hu => ?_⟩
    rw [cell_of_row _ _ j cur t (0, 0) hg]
    rw [← h4] at hu
    have hj := (List.getElem?_eq_some_iff.1 hu).1
    rw [List.getElem?_take_of_lt (by rw [List.length_take] at hj; omega)] at hu
    simpa using hu
end Go.Proofs.YtdgmbmoaeoakpaaDoor
