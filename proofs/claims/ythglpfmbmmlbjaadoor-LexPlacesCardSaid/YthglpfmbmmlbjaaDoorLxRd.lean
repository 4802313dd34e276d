/- Lists of tokens as they lie, and the program's own calls of them: where a token ends, which kinds count, Next, At. Conditions: the table of kinds as the program's text lays it. -/
import Derived.Test.YthglpfmbmmlbjaaDoorDfWord
import Derived.Laws.Tables
namespace Go.Proofs
open Go Go.RowKit Go.Lib
namespace YthglpfmbmmlbjaaDoor
/-- a token, whatever its numbers -/
structure TkI where
  k : Nat
  w : Int
  l : Int
def I6 (x : Int) : Prop := -9223372036854775808 ≤ x ∧ x ≤ 9223372036854775807
def TkI.Ok (t : TkI) : Prop := t.k < 256 ∧ I6 t.w ∧ I6 t.l
/-- a slice of tokens as it lies -/
def RdT (W : World) (v : Value) (ts : List TkI) : Prop := ∃ z cap, v = .slice z ts.length cap ∧ ts.length ≤ cap ∧ cap ≤ 9223372036854775807 ∧ ts.length ≤ 1000000000000000 ∧ (∀ t ∈ ts, t.Ok) ∧ ∀ (j : Nat) (t : TkI), ts[j]? = some t → ∃ b o, z = some ⟨b, o, none⟩ ∧ b < W.heap.size ∧ W.cell? ⟨b, o + j * 3, none⟩ = some (.int .u8 (t.k : Int)) ∧ W.cell? ⟨b, o + j * 3 + 1, none⟩ = some (.int .i64 t.w) ∧ W.cell? ⟨b, o + j * 3 + 2, none⟩ = some (.int .i64 t.l)
theorem RdT.below {W W' : World} {v : Value} {ts : List TkI} (h : RdT W v ts) (hB : Below W.heap.size W W') : RdT W' v ts := by
  obtain ⟨z, cap, hv, h1, h2, h3, h4, h5⟩ := h
  refine ⟨z, cap, hv, h1, h2, h3, h4, fun j t hj => ?_⟩
  obtain ⟨b, o, hz, hb, c0, c1, c2⟩ := h5 j t hj
  exact ⟨b, o, hz, Nat.lt_of_lt_of_le hb hB.size, (hB.cell (p := ⟨b, _, none⟩) hb).trans c0, (hB.cell (p := ⟨b, _, none⟩) hb).trans c1, (hB.cell (p := ⟨b, _, none⟩) hb).trans c2⟩
namespace D
def far : Int := 1099511627776
def enI (a w : Int) : Int := min (a + min (max w 0) 1099511627776) 1099511627776
/-- where a token begins -/
def spAt (ts : List TkI) : Nat → Int
  | 0 => 0
  | j + 1 => enI (spAt ts j) ((ts.getD j ⟨0, 0, 0⟩).w)
theorem enI_in {a w : Int} (h : 0 ≤ a ∧ a ≤ 1099511627776) : a ≤ enI a w ∧ enI a w ≤ 1099511627776 := by unfold enI; omega
theorem spAt_in (ts : List TkI) : ∀ j, 0 ≤ spAt ts j ∧ spAt ts j ≤ 1099511627776
  | 0 => ⟨Int.le_refl _, by show (0 : Int) ≤ 1099511627776; decide⟩
  | j + 1 => by have := spAt_in ts j; have := enI_in (w := (ts.getD j ⟨0, 0, 0⟩).w) this; show 0 ≤ enI _ _ ∧ enI _ _ ≤ _; omega
theorem spAt_le (ts : List TkI) (j : Nat) : spAt ts j ≤ spAt ts (j + 1) := (enI_in (spAt_in ts j)).1
/-- does a number tell the kind of a token? -/
def isK (k : Nat) : Bool := (decide (1 ≤ k) && decide (k ≤ 17)) || (decide (20 ≤ k) && decide (k ≤ 40))
def triv (k : Nat) : Bool := decide (k ∈ [1, 2, 3, 4, 5, 9])
def cnt (k : Nat) : Bool := isK k && !triv k
/-- the first of a list from a place on that counts -/
def nxF (ts : List TkI) : Nat → Nat → Nat
  | 0, i => i
  | f + 1, i => if i < ts.length then (if cnt (ts.getD i ⟨0, 0, 0⟩).k = true then i else nxF ts f (i + 1)) else ts.length
def nx (ts : List TkI) (n : Int) : Nat := if (ts.length : Int) ≤ n then ts.length else nxF ts (ts.length - n.toNat) n.toNat
/-- the first token that ends behind a place -/
def atF (ts : List TkI) (p : Int) : Nat → Nat → Int
  | 0, _ => -1
  | f + 1, i => if i < ts.length then (if p < spAt ts (i + 1) then (i : Int) else atF ts p f (i + 1)) else -1
def atI (ts : List TkI) (p : Int) : Int := if p < 0 then -1 else atF ts p ts.length 0
end D
/-- the table of kinds -/
def Trv (w : World) : Prop := ∀ i, i < 41 → w.cell? ⟨0, i, none⟩ = some (.bool (D.triv i))
theorem cell_lt {w : World} {b o : Nat} {v : Value} (h : w.cell? ⟨b, o, none⟩ = some v) : b < w.heap.size := by
  refine Decidable.byContradiction fun hb => ?_
  have : w.heap[b]? = none := Array.getElem?_eq_none (by omega)
  simp [World.cell?, this] at h
theorem Trv.below {w w' : World} (h : Trv w) (hB : Below w.heap.size w w') : Trv w' := fun i hi => (hB.cell (p := ⟨_, i, none⟩) (cell_lt (h i hi))).trans (h i hi)
def BoolS (b : Bool) (w : World) (e : Ending) (w' : World) : Prop := e = .returned (.bool b) ∧ w = w'
set_option maxHeartbeats 1000000 in
set_option maxRecDepth 100000 in
theorem isToken_any (k : Nat) (hk : k < 256) (w : World) : Calls Tryd.prog 19 #[.int .u8 k] w (BoolS (D.isK k) w) := by
  generalize hb : D.isK k = b
  have HB := Lib.hid hb
  clear hb
  by_cases h1 : 1 ≤ k
  · have e1 : decide ((1 : Int) ≤ (k : Int)) = true := decide_eq_true (by omega)
    by_cases h17 : k ≤ 17
    · have e2 : decide ((k : Int) ≤ 17) = true := decide_eq_true (by omega)
      obtain rfl : b = true := by rw [← HB.out]; unfold D.isK; rw [decide_eq_true h1, decide_eq_true h17]; rfl
      clear h1 h17
      go_enter Tryd.func19, Tryd.ntmps19
      go_wp2_with fail
      go_ret
      exact ⟨rfl, rfl⟩
    · have e2 : decide ((k : Int) ≤ 17) = false := decide_eq_false (by omega)
      by_cases h20 : 20 ≤ k
      · have e3 : decide ((20 : Int) ≤ (k : Int)) = true := decide_eq_true (by omega)
        by_cases h40 : k ≤ 40
        · have e4 : decide ((k : Int) ≤ 40) = true := decide_eq_true (by omega)
          obtain rfl : b = true := by rw [← HB.out]; unfold D.isK; rw [decide_eq_true h20, decide_eq_true h40]; simp
          clear h1 h17 h20 h40
          go_enter Tryd.func19, Tryd.ntmps19
          go_wp2_with fail
          go_ret
          exact ⟨rfl, rfl⟩
        · have e4 : decide ((k : Int) ≤ 40) = false := decide_eq_false (by omega)
          obtain rfl : b = false := by rw [← HB.out]; unfold D.isK; rw [decide_eq_false h17, decide_eq_false h40]; simp
          clear h1 h17 h20 h40
          go_enter Tryd.func19, Tryd.ntmps19
          go_wp2_with fail
          go_ret
          exact ⟨rfl, rfl⟩
      · have e3 : decide ((20 : Int) ≤ (k : Int)) = false := decide_eq_false (by omega)
        obtain rfl : b = false := by rw [← HB.out]; unfold D.isK; rw [decide_eq_false h17, decide_eq_false h20]; simp
        clear h1 h17 h20
        go_enter Tryd.func19, Tryd.ntmps19
        go_wp2_with fail
        go_ret
        exact ⟨rfl, rfl⟩
  · obtain rfl : k = 0 := by omega
    obtain rfl : b = false := by rw [← HB.out]; rfl
    clear h1
    go_enter Tryd.func19, Tryd.ntmps19
    go_wp2_with fail
    go_ret
    exact ⟨rfl, rfl⟩
set_option maxHeartbeats 1000000 in
set_option maxRecDepth 100000 in
theorem counts_any (k : Nat) (hk : k < 256) (w : World) (hT : Trv w) : Calls Tryd.prog 13 #[.int .u8 k] w (BoolS (D.cnt k) w) := by
  have ht := isToken_any k hk w
  unfold D.cnt
  cases hi : D.isK k
  · rw [hi] at ht
    rw [Bool.false_and]
    go_enter Tryd.func13, Tryd.ntmps13
    go_wp2_with fail
    refine ht.mono ?_
    rintro e w1 ⟨rfl, rfl⟩
    go_wp2_with fail
    go_ret
    exact ⟨rfl, rfl⟩
  · have h41 : k < 41 := by unfold D.isK at hi; simp at hi; omega
    have c1 := hT k h41
    rw [hi] at ht
    have i1 : (0 : Int) ≤ (k : Int) := Int.natCast_nonneg k
    have i2 : (k : Int) < 41 := by omega
    have HB := Lib.hid (show (true && !D.triv k) = !D.triv k from Bool.true_and _)
    rw [Bool.true_and]
    generalize D.triv k = tv at *
    clear hi
    go_enter Tryd.func13, Tryd.ntmps13
    go_wp2_with fail
    refine ht.mono ?_
    rintro e w1 ⟨rfl, rfl⟩
    go_wp2_with fail
    go_ret
    exact ⟨rfl, rfl⟩
set_option maxHeartbeats 1000000 in
set_option maxRecDepth 100000 in
theorem end_any (a : Int) (t : TkI) (ht : t.Ok) (ha : 0 ≤ a ∧ a ≤ 1099511627776) (w : World) : Calls Tryd.prog 18 #[.int .i64 a, .agg #[.int .u8 t.k, .int .i64 t.w, .int .i64 t.l]] w (IntB (D.enI a t.w) w) := by
  obtain ⟨k, x, l⟩ := t
  have hx := ht.2.1
  unfold I6 at hx
  simp only at hx ⊢
  have HE := Lib.hid (show D.enI a x = min (a + min (max x 0) 1099511627776) 1099511627776 from rfl)
  generalize D.enI a x = y at *
  obtain ⟨m, hm⟩ : ∃ m, max x 0 = m := ⟨_, rfl⟩
  obtain ⟨m2, hm2⟩ : ∃ m2, min m 1099511627776 = m2 := ⟨_, rfl⟩
  obtain ⟨m3, hm3⟩ : ∃ m3, min (a + m2) 1099511627776 = m3 := ⟨_, rfl⟩
  have b1 : 0 ≤ m2 ∧ m2 ≤ 1099511627776 := by omega
  have HY := Lib.hid (show y = m3 by rw [HE.out, hm, hm2, hm3])
  clear ht hx HE
  go_enter Tryd.func18, Tryd.ntmps18
  go_wp2_with fail
  go_ret
  exact ⟨by rw [HY.out]; rfl, (Below.refl w.heap.size w).alloc (Nat.le_refl _) _⟩
end YthglpfmbmmlbjaaDoor
end Go.Proofs
