/- Is one of the bytes 0D and 0A in a string? The library's ContainsAny, whatever the string. Conditions: a string of at most 10^9 bytes. -/
import Derived.Test.YtmaclplhphfkiaaDoorFrRune
import Derived.Test.YtmaclplhphfkiaaDoorFrLays
import Derived.Shelf.Strings.Runes
import Derived.Shelf.Strings.AsciiSet
import Derived.Shelf.Strings.IndexAnyAll
namespace Go.Proofs
open Go Go.RowKit Go.Lib
namespace YtmaclplhphfkiaaDoor
open F

namespace F
def crlf : ByteArray := ⟨#[13, 10]⟩
theorem valid_le (n : Nat) (h : Utf8.valid (n : Int) = true) : n ≤ 1114111 := by
  unfold Utf8.valid at h
  simp at h
  omega
theorem dec_cont (s : ByteArray) (i : Nat) (hi : i < s.size) (h : 128 ≤ (s.get! i).toNat) : 1 ≤ (Utf8.decode s i).2 ∧ i + (Utf8.decode s i).2 ≤ s.size ∧ (Utf8.decode s i).1 ≤ 1114111 ∧ ∀ j, j < (Utf8.decode s i).2 → 128 ≤ (s.get! (i + j)).toNat := by
  have one : ∀ j, j < 1 → 128 ≤ (s.get! (i + j)).toNat := fun j hj => by
    obtain rfl : j = 0 := by omega
    exact h
  have hb : ∀ k, (s.get! (i + k)).toNat < 256 := fun k => (s.get! (i + k)).toNat_lt
  unfold Utf8.decode
  dsimp only
  rw [if_neg (show ¬ (s.get! (i + 0)).toNat < 128 by rw [Nat.add_zero]; omega)]
  split
  · rename_i h1
    simp only [Bool.and_eq_true, beq_iff_eq, decide_eq_true_eq] at h1
    split
    · refine ⟨Nat.succ_le_succ (Nat.zero_le _), by dsimp only; omega, by dsimp only; have := hb 1; omega, fun j hj => ?_⟩
      have : j = 0 ∨ j = 1 := by dsimp only at hj; omega
      rcases this with rfl | rfl
      · exact h
      · omega
    · exact ⟨Nat.le_refl _, hi, by decide, one⟩
  · split
    · rename_i h1
      simp only [Bool.and_eq_true, beq_iff_eq, decide_eq_true_eq] at h1
      split
      · refine ⟨Nat.succ_le_succ (Nat.zero_le _), by dsimp only; omega, by dsimp only; have := hb 1; omega, fun j hj => ?_⟩
        have : j = 0 ∨ j = 1 ∨ j = 2 := by dsimp only at hj; omega
        rcases this with rfl | rfl | rfl
        · exact h
        · omega
        · omega
      · exact ⟨Nat.le_refl _, hi, by decide, one⟩
    · split
      · rename_i h1
        simp only [Bool.and_eq_true, beq_iff_eq, decide_eq_true_eq] at h1
        split
        · rename_i h2
          simp only [Bool.and_eq_true, decide_eq_true_eq] at h2
          refine ⟨Nat.succ_le_succ (Nat.zero_le _), by dsimp only; omega, valid_le _ h2.2, fun j hj => ?_⟩
          · have : j = 0 ∨ j = 1 ∨ j = 2 ∨ j = 3 := by dsimp only at hj; omega
            rcases this with rfl | rfl | rfl | rfl
            · exact h
            · omega
            · omega
            · omega
        · exact ⟨Nat.le_refl _, hi, by decide, one⟩
      · exact ⟨Nat.le_refl _, hi, by decide, one⟩
theorem ba_get! (l : Bs) (i : Nat) (h : i < l.length) : (ba l).get! i = l[i] := by
  show l.toArray[i]! = _
  rw [getElem!_pos l.toArray i (by simpa using h)]
  simp
/-- as far as some characters go: none of the two -/
theorem ok_take_high {l : Bs} {pos : Nat} (hlt : pos < l.length) (h : okVal (l.take pos) = true) (hb : 128 ≤ (l[pos]).toNat) :
    pos + (Utf8.decode (ba l) pos).2 ≤ l.length ∧ 1 ≤ (Utf8.decode (ba l) pos).2 ∧ (Utf8.decode (ba l) pos).1 ≤ 1114111 ∧ okVal (l.take (pos + (Utf8.decode (ba l) pos).2)) = true := by
  have h1 := dec_cont (ba l) pos (by rw [ba_size]; exact hlt) (by rw [ba_get! l pos hlt]; exact hb)
  rw [ba_size] at h1
  refine ⟨h1.2.1, h1.1, h1.2.2.1, ?_⟩
  rw [List.take_add]
  unfold okVal at h ⊢
  rw [List.all_append, h, Bool.true_and, List.all_eq_true]
  intro c hc
  obtain ⟨j, hj, rfl⟩ := List.mem_iff_getElem.1 hc
  rw [List.length_take, List.length_drop] at hj
  have h2 := h1.2.2.2 j (by omega)
  rw [ba_get! l (pos + j) (by omega)] at h2
  simp only [List.getElem_take, List.getElem_drop]
  have n1 : l[pos + j] ≠ 13 := fun e => by rw [e] at h2; simp at h2
  have n2 : l[pos + j] ≠ 10 := fun e => by rw [e] at h2; simp at h2
  simp [n1, n2]
theorem ok_take_one {l : Bs} {pos : Nat} (hlt : pos < l.length) (h : okVal (l.take pos) = true) (h1 : l[pos] ≠ 13) (h2 : l[pos] ≠ 10) : okVal (l.take (pos + 1)) = true := by
  rw [List.take_add_one, List.getElem?_eq_getElem hlt]
  unfold okVal at h ⊢
  rw [List.all_append, h]
  simp [h1, h2]
theorem not_ok {l : Bs} {pos : Nat} (hlt : pos < l.length) (h : l[pos] = 13 ∨ l[pos] = 10) : okVal l = false := by
  unfold okVal
  rw [List.all_eq_false]
  refine ⟨l[pos], List.getElem_mem hlt, ?_⟩
  rcases h with h | h <;> simp [h]
theorem idx_crlf (r : Nat) (hr : r < 128) : decide (0 ≤ Lib.indexByte crlf.data.toList (r : Int).toNat.toUInt8) = (decide (r = 13) || decide (r = 10)) := by
  have : ∀ r : Fin 128, decide (0 ≤ Lib.indexByte crlf.data.toList ((r.val : Nat) : Int).toNat.toUInt8) = (decide (r.val = 13) || decide (r.val = 10)) := by decide +kernel
  exact this ⟨r, hr⟩
end F
set_option maxRecDepth 100000 in
set_option maxHeartbeats 400000 in
theorem useSet_any (n : Nat) (w : World) : Calls Tryd.prog 192 #[.int .i64 n] w (Stay (.bool (decide ((8 : Int) < (n : Int)))) w) := by
  go_enter Tryd.func192, Tryd.ntmps192
  go_wp2_with fail
  go_ret
  exact ⟨rfl, rfl⟩
/-- where an iterator stands -/
def posOf (k : Nat) (w : World) : Nat := match w.heap[k]? with | some (.stringIter _ p) => p | _ => 0
theorem posOf_at {k pos : Nat} {s : ByteArray} {w : World} (h : w.heap[k]? = some (.stringIter s pos)) : posOf k w = pos := by unfold posOf; rw [h]
/-- a number that is no place just if all bytes are others -/
def AnyIs (l : Bs) (w : World) (e : Ending) (w' : World) : Prop := ∃ z : Int, e = .returned (.int .i64 z) ∧ decide (0 ≤ z) = !(okVal l) ∧ Below w.heap.size w w'
set_option maxRecDepth 100000 in
set_option maxHeartbeats 1000000 in
theorem indexAny_short (l : Bs) (h8 : l.length ≤ 8) (w : World) : Calls Tryd.prog 176 #[.string (ba l), .string ⟨#[13, 10]⟩] w (AnyIs l w) := by
  have hsh : decide ((8 : Int) < ((ba l).size : Int)) = false := decide_eq_false (by rw [ba_size]; omega)
  have hsz := ba_size l
  have hI0 : Hid ((w.iter (ba l) 0).heap[w.heap.size]? = some (.stringIter (ba l) 0)) := Lib.hid (heap_alloc_new w (.stringIter (ba l) 0))
  have hB0 := Lib.hid (show Below w.heap.size w (w.iter (ba l) 0) from (Below.refl w.heap.size w).alloc (Nat.le_refl _) (.stringIter (ba l) 0))
  go_enter Tryd.func176, Tryd.ntmps176
  go_wp2_with fail
  refine (useSet_any (ba l).size _).mono ?_
  rintro e w' ⟨rfl, rfl⟩
  rw [hsh]
  go_wp2_with fail
  go_loopw [] (fun wr => ∃ pos : Nat, pos ≤ l.length ∧ Hid (wr.heap[w.heap.size]? = some (.stringIter (ba l) pos)) ∧ Hid (okVal (l.take pos) = true) ∧ Hid (Below w.heap.size w wr)) (fun wr => l.length - posOf w.heap.size wr)
  case atStart => exact ⟨0, Nat.zero_le _, hI0, Lib.hid rfl, hB0⟩
  case round =>
    obtain ⟨pos, hp, HI, HO, HB⟩ := hrel
    have HM := Lib.hid (posOf_at HI.out)
    by_cases hlt : pos < l.length
    · have hlt' : pos < (ba l).size := by rw [ba_size]; exact hlt
      obtain ⟨c, hc⟩ : ∃ c, l[pos]'hlt = c := ⟨_, rfl⟩
      have hgt := (ba_get l pos hlt').trans hc
      by_cases ha : c.toNat < 128
      · have hnx := fun ty => Lib.run_next_ascii_at (P := Tryd.prog) wr w.heap.size (ba l) pos ty HI.out hlt' (by rw [hgt]; exact ha)
        rw [hgt] at hnx
        have HI2 := Lib.hid (Lib.iterAt_heap wr w.heap.size (ba l) pos (pos + 1) HI.out)
        have HB2 := Lib.hid (Lib.below_iterAt HB.out (Nat.le_refl _) (ba l) (pos + 1))
        have hir := Any.strings_IndexRune_ascii Tryd.laysIndexRune ⟨#[13, 10]⟩ (c.toNat : Int) (wr.iterAt w.heap.size (ba l) (pos + 1)) (by omega) (by omega)
        change Calls Tryd.prog 191 _ _ _ at hir
        have hix := idx_crlf c.toNat ha
        unfold crlf at hix
        generalize Lib.indexByte (⟨#[13, 10]⟩ : ByteArray).data.toList (c.toNat : Int).toNat.toUInt8 = z at *
        by_cases hin : c.toNat = 13 ∨ c.toNat = 10
        · have hz : decide (0 ≤ z) = true := by rw [hix]; rcases hin with h | h <;> rw [h] <;> rfl
          have HN := Lib.hid (not_ok hlt (by
            rw [hc]
            rcases hin with h | h
            · exact .inl (UInt8.toNat_inj.1 h)
            · exact .inr (UInt8.toNat_inj.1 h)))
          clear hix hin hgt ha hc
          go_wp2_with fail
          refine hir.mono ?_
          rintro e w' ⟨rfl, rfl⟩
          go_wp2_with fail
          go_ret
          exact ⟨_, rfl, by rw [HN.out]; exact decide_eq_true (by omega), HB2.out⟩
        · have hz : decide (0 ≤ z) = false := by
            rw [hix, decide_eq_false (fun h => hin (.inl h)), decide_eq_false (fun h => hin (.inr h))]; rfl
          have HN := Lib.hid (ok_take_one hlt HO.out (fun h => hin (.inl (by rw [← hc, h]; rfl))) (fun h => hin (.inr (by rw [← hc, h]; rfl))))
          have HM2 := Lib.hid (posOf_at HI2.out)
          clear hix hin hgt ha hc
          go_wp2_with fail
          refine hir.mono ?_
          rintro e w' ⟨rfl, rfl⟩
          go_wp2_with fail
          go_roundw
          case rel => exact ⟨pos + 1, hlt, HI2, HN, HB2⟩
          case measure => rw [HM.out, HM2.out]; omega
      · have hnx := fun ty => Lib.run_next_any_at (P := Tryd.prog) wr w.heap.size (ba l) pos ty HI.out hlt'
        obtain ⟨k1, k2, k3, k4⟩ := ok_take_high hlt HO.out (by rw [hc]; omega)
        have k5 := (decode_high (ba l) pos hlt' (by rw [hgt]; omega)).1
        generalize (Utf8.decode (ba l) pos).1 = x at *
        generalize (Utf8.decode (ba l) pos).2 = d at *
        have HI2 := Lib.hid (Lib.iterAt_heap wr w.heap.size (ba l) pos (pos + d) HI.out)
        have HM2 := Lib.hid (posOf_at HI2.out)
        have HB2 := Lib.hid (Lib.below_iterAt HB.out (Nat.le_refl _) (ba l) (pos + d))
        have hir := idxRune_hi x k5 k3 (wr.iterAt w.heap.size (ba l) (pos + d))
        have HK := Lib.hid (And.intro k1 (And.intro k2 k4))
        clear hgt ha hc k1 k2 k3 k4 k5
        go_wp2_with fail
        refine hir.mono ?_
        rintro e w2 ⟨rfl, hB3⟩
        have hlti := (Array.getElem?_eq_some_iff.1 HI2.out).1
        have HI3 := Lib.hid ((hB3.block _ hlti).trans HI2.out)
        have HM3 := Lib.hid (posOf_at HI3.out)
        have HB3 := Lib.hid (HB2.out.trans (hB3.mono HB2.out.size))
        clear hB3 hlti
        go_wp2_with fail
        go_roundw
        case rel => exact ⟨pos + d, HK.out.1, HI3, Lib.hid HK.out.2.2, HB3⟩
        case measure => rw [HM.out, HM3.out]; have := HK.out; omega
    · obtain rfl : pos = l.length := by omega
      have hnx := fun ty => Lib.run_next_end_at (P := Tryd.prog) wr w.heap.size (ba l) l.length ty HI.out (by rw [ba_size]; exact hlt)
      have HN := Lib.hid (show okVal l = true by have := HO.out; rwa [List.take_length] at this)
      go_wp2_with fail
      go_ret
      exact ⟨_, rfl, by rw [HN.out]; rfl, HB.out⟩
end YtmaclplhphfkiaaDoor
end Go.Proofs
