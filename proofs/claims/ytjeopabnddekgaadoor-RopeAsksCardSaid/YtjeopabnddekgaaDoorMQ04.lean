/- The offsets at which the lines begin, as a slice. Conditions: none. -/
import Derived.Test.YtjeopabnddekgaaDoorME34
import Derived.Maps.AppendAt
namespace Go.Proofs.YtjeopabnddekgaaDoor
open Go Go.RowKit Go.Shelf Go.Lib

attribute [local go_sem] Oper.semAt_some

theorem infoInt : (Tryd.prog.info? 3).map (fun i => (i.zero, i.size, i.bytes)) = some (some (.int .i64 0), 1, 8) := by kernel_rfl

/-- behind an append: the longer row, in memory of the call's own; nothing else has turned -/
def Appended (n₀ : Nat) (v : Value) (k : Nat) (xs : List Value) (w : World) (e : Ending) (w' : World) : Prop :=
  ∃ g cap, e = .returned (.slice (some ⟨g, 0, none⟩) (k + 1) cap) ∧ w'.ownsRow n₀ 3 1 (.slice (some ⟨g, 0, none⟩) (k + 1) cap) (k + 1) xs ∧ w.grownBy w' v.ownBlock

def offs (s : ByteArray) (pre : List Nat) : List Value := pre.map fun k => Value.int .i64 (L.fr s k)
theorem offs_snoc (s : ByteArray) (pre : List Nat) (k : Nat) : offs s (pre ++ [k]) = offs s pre ++ [.int .i64 (L.fr s k)] := by simp [offs]
/-- a slice of one's own that reads as the lines' offsets -/
def StartsAre (s : ByteArray) (w : World) (e : Ending) (w' : World) : Prop :=
  ∃ g cap, e = .returned (.slice (some ⟨g, 0, none⟩) (L.mny s) cap) ∧ w'.ownsRow w.heap.size 3 1 (.slice (some ⟨g, 0, none⟩) (L.mny s) cap) (L.mny s) (offs s (List.range (L.mny s))) ∧ Below w.heap.size w w'
end Go.Proofs.YtjeopabnddekgaaDoor

namespace Go.Proofs.YtjeopabnddekgaaDoor
open Go Go.RowKit Go.Shelf Go.Lib

namespace L
/-- how many bytes the line's end has that begins at the place -/
def eb (s : ByteArray) (i : Nat) : Nat := if i < s.size ∧ brk s i = true then nx s i - i else 0
theorem eb_end {s : ByteArray} {i : Nat} (h : ¬ i < s.size) : eb s i = 0 := by unfold eb; rw [if_neg (fun h' => h h'.1)]
theorem eb_no {s : ByteArray} {i : Nat} (h : brk s i = false) : eb s i = 0 := by unfold eb; rw [if_neg (fun h' => by rw [h] at h'; cases h'.2)]
theorem eb_yes {s : ByteArray} {i : Nat} (h : i < s.size) (hb : brk s i = true) : eb s i = nx s i - i := by unfold eb; rw [if_pos ⟨h, hb⟩]
theorem eb_pos {s : ByteArray} {i : Nat} (h : i < s.size) (hb : brk s i = true) : i + eb s i = nx s i ∧ 1 ≤ eb s i ∧ eb s i ≤ 2 := by
  have := nx_facts h
  rw [eb_yes h hb]; omega
end L

set_option maxHeartbeats 400000 in
set_option maxRecDepth 100000 in
theorem refEnd_any (s : ByteArray) (i : Nat) (w : World) (hi : i ≤ s.size) (hs : s.size ≤ 1000000000000) :
    Calls Tryd.prog 81 #[.string s, .int .i64 i] w fun e w' => e = .returned (.int .i64 (L.eb s i)) ∧ w = w' := by
  by_cases hlt : i < s.size
  · have hb := at_byte hlt
    cases hk : L.brk s i
    · rw [L.eb_no hk]
      obtain ⟨n1, n2⟩ := L.of_nbrk hk
      rw [← hb] at n1 n2
      have e1 : ((s[i].toNat : Int) != 10) = true := by simp; omega
      have e2 : ((s[i].toNat : Int) != 13) = true := by simp; omega
      clear hk hb n1 n2
      go_enter Tryd.func81, Tryd.ntmps81
      go_wp2_with fail
      go_ret
      exact ⟨rfl, rfl⟩
    · rw [L.eb_yes hlt hk]
      have hc := L.of_brk hk
      rw [← hb] at hc
      clear hk
      cases hp : L.pair s i
      · have hn := L.of_npair hp
        rw [L.nx_one hp, show i + 1 - i = 1 by omega]
        rw [← hb] at hn
        clear hp
        rcases hc with hc | hc
        · have e1 : ((s[i].toNat : Int) != 10) = false := by simp; omega
          have e3 : ((s[i].toNat : Int) == 13) = false := by simp; omega
          clear hc hb hn
          go_enter Tryd.func81, Tryd.ntmps81
          go_wp2_with fail
          go_ret
          exact ⟨rfl, rfl⟩
        · have e1 : ((s[i].toNat : Int) != 10) = true := by simp; omega
          have e2 : ((s[i].toNat : Int) != 13) = false := by simp; omega
          have e3 : ((s[i].toNat : Int) == 13) = true := by simp; omega
          by_cases h2 : i + 1 < s.size
          · have hb2 := at_byte h2
            have h3 : ¬ s[i + 1].toNat = 10 := by rw [hb2]; omega
            have e4 : ((s[i + 1].toNat : Int) == 10) = false := by simp; omega
            clear hc hb hn hb2 h3
            go_enter Tryd.func81, Tryd.ntmps81
            go_wp2_with fail
            go_ret
            exact ⟨rfl, rfl⟩
          · clear hc hb hn
            go_enter Tryd.func81, Tryd.ntmps81
            go_wp2_with fail
            go_ret
            exact ⟨rfl, rfl⟩
      · obtain ⟨h1, h2, h3⟩ := L.of_pair hp
        rw [L.nx_pair hp, show i + 2 - i = 2 by omega]
        have hb2 := at_byte h2
        rw [← hb] at h1
        rw [← hb2] at h3
        have e1 : ((s[i].toNat : Int) != 10) = true := by simp; omega
        have e2 : ((s[i].toNat : Int) != 13) = false := by simp; omega
        have e3 : ((s[i].toNat : Int) == 13) = true := by simp; omega
        have e4 : ((s[i + 1].toNat : Int) == 10) = true := by simp; omega
        clear h1 h3 hb hb2 hc hp
        go_enter Tryd.func81, Tryd.ntmps81
        go_wp2_with fail
        go_ret
        exact ⟨rfl, rfl⟩
  · rw [L.eb_end hlt]
    go_enter Tryd.func81, Tryd.ntmps81
    go_wp2_with fail
    go_ret
    exact ⟨rfl, rfl⟩

theorem offs_range (s : ByteArray) (k : Nat) : offs s (List.range (k + 1)) = offs s (List.range k) ++ [.int .i64 (L.fr s k)] := by rw [List.range_succ, offs_snoc]
theorem ownsRow_one (w : World) (base : Nat) (e : TypeId) (x : Value) (hb : base ≤ w.heap.size) : (w.alloc (.cells #[x] e)).ownsRow base e 1 (.slice (some ⟨w.heap.size, 0, none⟩) 1 1) 1 [x] :=
  ⟨rfl, .inr ⟨w.heap.size, 1, #[x], rfl, hb, World.alloc_heap_new w _, Nat.le_refl _, by decide, rfl, rfl⟩⟩

def StartsAt (s : ByteArray) (w : World) (p q : Value) (wr : World) : Prop :=
  ∃ k pos g cap : Nat, q = .int .i64 pos ∧ k < L.mny s ∧ L.fr s k ≤ pos ∧ pos ≤ L.to s k ∧ p = .slice (some ⟨g, 0, none⟩) (k + 1) cap ∧ wr.ownsRow w.heap.size 3 1 (.slice (some ⟨g, 0, none⟩) (k + 1) cap) (k + 1) (offs s (List.range (k + 1))) ∧ Below w.heap.size w wr

set_option maxRecDepth 100000 in
set_option maxHeartbeats 1000000 in
theorem refStarts_any (s : ByteArray) (w : World) (hs : s.size ≤ 100000000000) :
    Calls Tryd.prog 53 #[.string s] w (StartsAre s w) := by
  have hm1 := L.mny_pos s
  have hm2 := L.mny_le s
  obtain ⟨i0, hi, hz0, hz1, hz2⟩ := info_parts infoInt
  have h0 := ownsRow_one w w.heap.size 3 (.int .i64 0) (Nat.le_refl _)
  have H0 := Lib.hid h0
  clear h0
  go_enter Tryd.func53, Tryd.ntmps53
  go_wp2_with fail
  go_loopw [3, 4] (fun p q wr => StartsAt s w p q wr) (fun _ q _ => s.size - (RowKit.intOf q).toNat)
  case atStart => exact ⟨0, 0, _, _, rfl, by omega, Nat.le_refl _, Nat.zero_le _, rfl, H0.out, (Below.refl _ _).alloc (Nat.le_refl _) _⟩
  case round =>
    obtain ⟨k, pos, g, cap, rfl, hk, h1, h2, rfl, hown, hB⟩ := hrel
    have hfr := L.fr_le hk
    have hto := L.to_le hk
    have HO := Lib.hid hown
    clear hown
    have hce : L.ce s pos = L.to s k := L.ce_same hfr h1 h2
    have HC := Lib.hid hce
    clear hce
    have hend := fun W => refEnd_any s pos W (by omega) (by omega)
    by_cases hlt : pos < s.size
    · cases hb : L.brk s pos
      · rw [L.eb_no hb] at hend
        have hne : pos ≠ L.to s k := fun e => by
          have := L.ce_is (i := L.fr s k) hfr (by show L.to s k < s.size; omega)
          change L.brk s (L.to s k) = true at this
          rw [← e, hb] at this
          cases this
        have hlt2 : pos + 1 ≤ L.to s k := by omega
        clear hne hb
        go_wp2_with fail
        refine (hend _).mono ?_
        rintro e w' ⟨rfl, rfl⟩
        go_wp2_with fail
        go_roundw
        case rel => exact ⟨k, pos + 1, g, cap, by go_num, hk, by omega, hlt2, rfl, HO.out, hB⟩
        case measure => simp [RowKit.intOf]; omega
      · obtain ⟨e1, e2, e3⟩ := L.eb_pos hlt hb
        have hpt : pos = L.to s k := by rw [← HC.out, L.ce_brk hlt hb]
        have hk1 : k + 1 < L.mny s := (L.to_lt_iff hk).1 (by omega)
        have hnx : L.nx s pos = L.fr s (k + 1) := by rw [L.fr_succ, hpt]
        rw [hnx] at e1
        have HE := Lib.hid e1
        have hge := L.to_ge hk1
        have hfr2 := L.fr_le hk1
        have hle1 : pos + L.eb s pos ≤ L.fr s (k + 1) := by omega
        have hle2 : L.fr s (k + 1) ≤ pos + L.eb s pos := by omega
        clear hnx hpt e1 hb
        generalize L.eb s pos = d at *
        have hnew := cell_one_new wr (.int .i64 ((pos : Int) + (d : Int))) 3
        have HN := Lib.hid hnew
        clear hnew
        go_wp2_with fail
        refine (hend _).mono ?_
        rintro e w' ⟨rfl, rfl⟩
        go_wp2_with (at_builtin; refine wpList_append_own _ rfl (.tmp 19) (.tmp 21) 103 rfl w.heap.size 3 i0 (.int .i64 0) 1 8 Tryd.underlying103 hi hz0 hz1 hz2 rfl (by decide) _ _ _ rfl (HO.out.alloc _) ⟨wr.heap.size, 0, none⟩ 1 1 [.int .i64 ((pos : Int) + (d : Int))] rfl rfl HN.out (by simp [Value.oneCell']) (by unfold maxLen; omega) (by omega) (by have := hB.size; simp; omega) ?_; intro v' w1 hown' hgrow _; obtain ⟨g', cap', rfl⟩ := ownsRow_succ hown')
        go_roundw
        case rel =>
          refine ⟨k + 1, pos + d, g', cap', by go_num, hk1, by omega, by omega, rfl, ?_, ?_⟩
          · rw [offs_range s (k + 1), show ((L.fr s (k + 1) : Nat) : Int) = (pos : Int) + (d : Int) by omega]; exact hown'
          · exact (hB.alloc hB.size _).grown hgrow (by have := hB.size; simp; omega) (fun j e => by have := (HO.out.lt j e).1; omega)
        case measure => simp [RowKit.intOf]; omega
    · have hm : L.mny s = k + 1 := L.mny_eq hk (by omega)
      have HM := Lib.hid hm
      clear hm
      go_wp2_with fail
      go_ret
      refine ⟨g, cap, by rw [HM.out]; rfl, ?_, hB⟩
      rw [HM.out]; exact HO.out
end Go.Proofs.YtjeopabnddekgaaDoor

namespace Go.Proofs.YtjeopabnddekgaaDoor
open Go Go.RowKit Go.Shelf Go.Lib

theorem bcell {W w1 : World} (hb : Below W.heap.size W w1) : (∀ b o, b < W.heap.size → w1.cell? ⟨b, o, none⟩ = W.cell? ⟨b, o, none⟩) ∧ (∀ b o, b < W.heap.size → w1.frozen? ⟨b, o, none⟩ = W.frozen? ⟨b, o, none⟩) :=
  ⟨fun b o h => hb.cell (p := ⟨b, o, none⟩) h, fun b o h => hb.frozen (p := ⟨b, o, none⟩) h⟩
theorem below_grown {w w' : World} (h : Below w.heap.size w w') : w.grownBy w' none := ⟨h.os, h.tape, h.output, h.size, fun k hk _ => h.block k hk⟩
theorem ownsRow_below {w w' : World} {n₀ e size k : Nat} {v : Value} {xs : List Value} (h : w.ownsRow n₀ e size v k xs) (hB : Below w.heap.size w w') : w'.ownsRow n₀ e size v k xs := h.kept (below_grown hB) (by cases hv : v.ownBlock <;> simp)
theorem boxed_below {w w' : World} {B : Nat} {t : TypeId} {u : Value} (h : Boxed w B t u) (hB : Below w.heap.size w w') : Boxed w' B t u := h.kept (below_grown hB) (by simp)
theorem Boxed2.drew {W : World} {B : Nat} {t : TypeId} {u v : Value} (h : Boxed2 W B t u v) : Boxed2 W.drew B t u v := h
theorem Boxed2.below {w w' : World} {B : Nat} {t : TypeId} {u v : Value} (h : Boxed2 w B t u v) (hB : Below w.heap.size w w') : Boxed2 w' B t u v := h.kept (below_grown hB) (by simp)
/-- the k-th offset lies at its place -/
theorem offs_cell {s : ByteArray} {W : World} {n₀ g cap k j : Nat} (h : W.ownsRow n₀ 3 1 (.slice (some ⟨g, 0, none⟩) k cap) k (offs s (List.range k))) (hj : j < k) : W.cell? ⟨g, j, none⟩ = some (.int .i64 (L.fr s j)) := by
  have := h.cells (g := g) rfl j (.int .i64 (L.fr s j)) (by simp [offs, hj])
  rwa [show (⟨g, 0, none⟩ : Addr).add j = ⟨g, j, none⟩ by unfold Addr.add; split <;> simp_all] at this

/-- what Line answers -/
def LineIs (s : ByteArray) (n : Int) (w : World) (e : Ending) (w' : World) : Prop :=
  ((∃ k : Nat, n = k ∧ k < L.mny s ∧ e = .returned (.tuple #[.agg #[.int .i64 (L.fr s k), .int .i64 (L.to s k)], .bool true])) ∨ ((n < 0 ∨ (L.mny s : Int) ≤ n) ∧ e = .returned (.tuple #[.agg #[.int .i64 0, .int .i64 0], .bool false]))) ∧ Below w.heap.size w w'
theorem line_is (s : ByteArray) (n : Int) (w : World) (hs : s.size ≤ 1000000000000) : Calls Tryd.prog 52 #[.string s, .int .i64 n] w (LineIs s n w) := line_any s n w hs

set_option maxRecDepth 100000 in
set_option maxHeartbeats 1000000 in
theorem refLine_no (s : ByteArray) (n : Int) (w : World) (hs : s.size ≤ 100000000000) (hn : n < 0 ∨ (L.mny s : Int) ≤ n) :
    Calls Tryd.prog 84 #[.string s, .int .i64 n] w fun e w' => e = .returned (.tuple #[.agg #[.int .i64 0, .int .i64 0], .bool false]) ∧ Below w.heap.size w w' := by
  have hm2 := L.mny_le s
  have hc := fun W => refStarts_any s W hs
  by_cases h0 : n < 0
  · clear hn
    go_enter Tryd.func84, Tryd.ntmps84
    go_wp2_with fail
    refine (hc _).mono ?_
    rintro e w' ⟨g, cap, rfl, hown, hB⟩
    obtain ⟨hbc, hbf⟩ := bcell hB
    have HO := Lib.hid hown
    clear hown
    have hz := hB.size
    simp at hz
    go_wp2_with fail
    exact bodyPost_ret (v := .tuple #[.agg #[.int .i64 0, .int .i64 0], .bool false]) (by simp [results, Tryd.results84, go_sem, hbc]) rfl ⟨rfl, ((((Below.refl _ w).alloc (Nat.le_refl _) _).trans (hB.mono (by simp))).setCell (p := ⟨w.heap.size, 0, none⟩) (Nat.le_refl _) _).setCell (p := ⟨w.heap.size, 1, none⟩) (Nat.le_refl _) _⟩
  · have hn' : (L.mny s : Int) ≤ n := by omega
    clear hn
    go_enter Tryd.func84, Tryd.ntmps84
    go_wp2_with fail
    refine (hc _).mono ?_
    rintro e w' ⟨g, cap, rfl, hown, hB⟩
    obtain ⟨hbc, hbf⟩ := bcell hB
    have HO := Lib.hid hown
    clear hown
    have hz := hB.size
    simp at hz
    go_wp2_with fail
    exact bodyPost_ret (v := .tuple #[.agg #[.int .i64 0, .int .i64 0], .bool false]) (by simp [results, Tryd.results84, go_sem, hbc]) rfl ⟨rfl, ((((Below.refl _ w).alloc (Nat.le_refl _) _).trans (hB.mono (by simp))).setCell (p := ⟨w.heap.size, 0, none⟩) (Nat.le_refl _) _).setCell (p := ⟨w.heap.size, 1, none⟩) (Nat.le_refl _) _⟩

set_option maxRecDepth 100000 in
set_option maxHeartbeats 2000000 in
theorem refLine_yes (s : ByteArray) (k : Nat) (w : World) (hs : s.size ≤ 100000000000) (hk : k < L.mny s) :
    Calls Tryd.prog 84 #[.string s, .int .i64 k] w fun e w' => e = .returned (.tuple #[.agg #[.int .i64 (L.fr s k), .int .i64 (L.to s k)], .bool true]) ∧ Below w.heap.size w w' := by
  have hm2 := L.mny_le s
  have hfr := L.fr_le hk
  have hto := L.to_le hk
  have hge := L.to_ge hk
  have hc := fun W => refStarts_any s W hs
  have HC : Hid (∀ pos, L.fr s k ≤ pos → pos ≤ L.to s k → L.ce s pos = L.to s k) := Lib.hid (fun pos h1 h2 => L.ce_same hfr h1 h2)
  have HI : Hid (L.to s k < s.size → L.brk s (L.to s k) = true) := Lib.hid (fun h => L.ce_is hfr h)
  have HF : Hid (∀ (W : World) (n₀ g cap : Nat), W.ownsRow n₀ 3 1 (.slice (some ⟨g, 0, none⟩) (L.mny s) cap) (L.mny s) (offs s (List.range (L.mny s))) → W.cell? ⟨g, k, none⟩ = some (.int .i64 (L.fr s k))) := Lib.hid (fun W n₀ g cap h => offs_cell h hk)
  generalize L.to s k = t at *
  generalize L.fr s k = f at *
  have d1 : decide ((k : Int) < 0) = false := decide_eq_false (by omega)
  have d2 : decide (L.mny s ≤ k) = false := decide_eq_false (by omega)
  go_enter Tryd.func84, Tryd.ntmps84
  go_wp2_with fail
  refine (hc _).mono ?_
  rintro e w' ⟨g, cap, rfl, hown, hB⟩
  obtain ⟨hbc, hbf⟩ := bcell hB
  have hcell := HF.out _ _ _ _ hown
  clear hown
  have hz := hB.size
  simp at hz
  go_wp2_with fail
  go_loop [7] (fun p => ∃ pos : Nat, p = .int .i64 pos ∧ f ≤ pos ∧ pos ≤ t) (fun p => s.size - (RowKit.intOf p).toNat)
  case atStart => exact ⟨f, rfl, Nat.le_refl _, hge⟩
  case round =>
    obtain ⟨pos, rfl, h1, h2⟩ := hrel
    have hend := fun W => refEnd_any s pos W (by omega) (by omega)
    by_cases hlt : pos < s.size
    · cases hb : L.brk s pos
      · rw [L.eb_no hb] at hend
        have hne : pos ≠ t := fun e => by
          have := HI.out (by omega)
          rw [← e, hb] at this
          cases this
        have hlt2 : pos + 1 ≤ t := by omega
        clear hne hb
        go_wp2_with fail
        refine (hend _).mono ?_
        rintro e w' ⟨rfl, rfl⟩
        go_wp2_with fail
        go_round
        case rel => exact ⟨pos + 1, by go_num, by omega, hlt2⟩
        case measure => simp [RowKit.intOf]; omega
      · obtain ⟨e1, e2, e3⟩ := L.eb_pos hlt hb
        have hpt : pos = t := by rw [← HC.out pos h1 h2, L.ce_brk hlt hb]
        have hz0 : ((L.eb s pos : Int) == 0) = false := by simp; omega
        clear e1 hb
        generalize L.eb s pos = d at *
        subst hpt
        go_wp2_with fail
        refine (hend _).mono ?_
        rintro e w' ⟨rfl, rfl⟩
        go_wp2_with fail
        exact bodyPost_ret (v := .tuple #[.agg #[.int .i64 f, .int .i64 pos], .bool true]) (by simp [results, Tryd.results84, go_sem, hbc]) rfl ⟨rfl, ((((Below.refl _ w).alloc (Nat.le_refl _) _).trans (hB.mono (by simp))).setCell (p := ⟨w.heap.size, 0, none⟩) (Nat.le_refl _) _).setCell (p := ⟨w.heap.size, 1, none⟩) (Nat.le_refl _) _⟩
    · obtain rfl : pos = t := by omega
      go_wp2_with fail
      exact bodyPost_ret (v := .tuple #[.agg #[.int .i64 f, .int .i64 pos], .bool true]) (by simp [results, Tryd.results84, go_sem, hbc]) rfl ⟨rfl, ((((Below.refl _ w).alloc (Nat.le_refl _) _).trans (hB.mono (by simp))).setCell (p := ⟨w.heap.size, 0, none⟩) (Nat.le_refl _) _).setCell (p := ⟨w.heap.size, 1, none⟩) (Nat.le_refl _) _⟩
theorem refLine_is (s : ByteArray) (n : Int) (w : World) (hs : s.size ≤ 100000000000) : Calls Tryd.prog 84 #[.string s, .int .i64 n] w (LineIs s n w) := by
  by_cases h : n < 0 ∨ (L.mny s : Int) ≤ n
  · exact (refLine_no s n w hs h).mono fun e w' ⟨h1, h2⟩ => ⟨.inr ⟨h, h1⟩, h2⟩
  · obtain ⟨k, rfl⟩ : ∃ k : Nat, n = k := ⟨n.toNat, by omega⟩
    exact (refLine_yes s k w hs (by omega)).mono fun e w' ⟨h1, h2⟩ => ⟨.inl ⟨k, rfl, by omega, h1⟩, h2⟩
end Go.Proofs.YtjeopabnddekgaaDoor
