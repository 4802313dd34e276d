/- The program's Write and the document's own. Conditions: a string of at most 10^12 bytes; the library's table of powers as its text lays it. -/
import Derived.Test.YtmaclplhphfkiaaDoorFrItoa
namespace Go.Proofs.YtmaclplhphfkiaaDoor
open Go Go.RowKit Go.Lib

namespace FW
def hdr : List UInt8 := [67, 111, 110, 116, 101, 110, 116, 45, 76, 101, 110, 103, 116, 104, 58, 32]
/-- a message written -/
def wr (s : ByteArray) : ByteArray := ⟨(hdr ++ Lib.itoa (s.size : Int) ++ [13, 10, 13, 10] ++ s.data.toList).toArray⟩
theorem ba_ext {a b : ByteArray} (h : a.data.toList = b.data.toList) : a = b := by
  apply ByteArray.ext
  exact Array.toList_inj.1 h
theorem itoa_len (n : Nat) (h : n ≤ 9223372036854775808) : (Lib.itoa (n : Int)).length ≤ 100 := by
  by_cases h0 : n = 0
  · subst h0; rw [show ((0 : Nat) : Int) = 0 from rfl, itoa_zero]; decide
  · rw [itoa_dgs0 (by omega)]; exact dgs0_len n h
theorem wr_a (s : ByteArray) : (⟨#[67, 111, 110, 116, 101, 110, 116, 45, 76, 101, 110, 103, 116, 104, 58, 32]⟩ : ByteArray) ++ ⟨(Lib.itoa (s.size : Int)).toArray⟩ ++ ⟨#[13, 10]⟩ ++ ⟨#[13, 10]⟩ ++ s = wr s := by
  apply ba_ext
  simp only [ByteArray.data_append, Array.toList_append, wr, hdr, List.append_assoc]
  try rfl
theorem wr_b (s : ByteArray) (l : List UInt8) (h : l = Lib.itoa (s.size : Int)) : (⟨#[67, 111, 110, 116, 101, 110, 116, 45, 76, 101, 110, 103, 116, 104, 58, 32]⟩ : ByteArray) ++ ⟨l.toArray⟩ ++ ⟨#[13, 10, 13, 10]⟩ ++ s = wr s := by
  subst h
  apply ba_ext
  simp only [ByteArray.data_append, Array.toList_append, wr, hdr, List.append_assoc]
  try rfl
end FW
set_option maxRecDepth 100000 in
set_option maxHeartbeats 400000 in
theorem write_any (s : ByteArray) (w : World) (hs : s.size ≤ 1000000000000) (hP : FW.PowTab w) :
    Calls Tryd.prog 24 #[.string s] w (FW.StrIs (FW.wr s) w) := by
  have hc := FW.itoa_any s.size (by omega) (by omega) w hP
  have hl := FW.itoa_len s.size (by omega)
  have HW := Lib.hid (FW.wr_a s)
  generalize Lib.itoa (s.size : Int) = l at *
  have hsz : (⟨l.toArray⟩ : ByteArray).size = l.length := by show l.toArray.size = _; rw [List.size_toArray]
  go_enter Tryd.func24, Tryd.ntmps24
  go_wp2_with fail
  refine hc.mono ?_
  rintro e w1 ⟨rfl, hB⟩
  go_wp2_with fail
  go_ret
  rw [HW.out]
  exact ⟨rfl, hB⟩
set_option maxRecDepth 100000 in
set_option maxHeartbeats 400000 in
theorem refWrite_any (s : ByteArray) (w : World) (hs : s.size ≤ 1000000000000) :
    Calls Tryd.prog 25 #[.string s] w (FW.StrIs (FW.wr s) w) := by
  have HN := Lib.hid (FW.dgs0_len s.size (by omega))
  have HW := fun l h => Lib.hid (FW.wr_b s l h)
  obtain ⟨n, hn⟩ : ∃ n, n = s.size := ⟨_, rfl⟩
  have HE := Lib.hid hn
  rw [← hn] at HW HN
  have hs1 : n ≤ 1000000000000 := by omega
  go_enter Tryd.func25, Tryd.ntmps25
  go_wp2_with fail
  rw [← HE.out]
  clear hn
  go_loopw [3, 4] (fun x q wr => ∃ (u : Nat) (sl : List UInt8), x = .string ⟨sl.toArray⟩ ∧ q = .int .i64 u ∧ u ≤ n ∧ Hid (FW.dgs0 u ++ sl = FW.dgs0 n ∧ sl.length + (FW.dgs0 u).length = (FW.dgs0 n).length) ∧ Below w.heap.size w wr) (fun _ q _ => (RowKit.intOf q).toNat)
  case atStart => exact ⟨n, [], rfl, rfl, Nat.le_refl _, Lib.hid ⟨List.append_nil _, by simp⟩, Below.refl _ _⟩
  case round =>
    obtain ⟨u, sl, rfl, rfl, hu, HU, hbl⟩ := hrel
    have hlen : sl.length ≤ 1000 := by have := HU.out.2; have := HN.out; omega
    have hsz : (⟨sl.toArray⟩ : ByteArray).size = sl.length := by show sl.toArray.size = _; rw [List.size_toArray]
    by_cases h : u = 0
    · subst h
      have hsl : sl = FW.dgs0 n := HU.out.1
      by_cases h0 : n = 0
      · have hn2 : sl = [] := by rw [hsl, h0]; rfl
        have HX := Lib.hid (show Lib.itoa (n : Int) = [48] by rw [h0]; exact FW.itoa_zero)
        subst hn2
        clear hsl h0
        go_wp2_with fail
        go_ret
        have := (HW [48] HX.out.symm).out
        rw [← this]
        exact ⟨rfl, hbl⟩
      · have HX := Lib.hid (show sl = Lib.itoa (n : Int) by rw [FW.itoa_dgs0 (by omega)]; exact hsl)
        have hne : sl ≠ [] := by
          intro e
          rw [e] at hsl
          have h2 := FW.dgs0_step (u := n) (by omega)
          rw [← hsl] at h2
          simp at h2
        have e1 : sl.isEmpty = false := by cases sl with | nil => exact absurd rfl hne | cons _ _ => rfl
        have e2 : (⟨sl.toArray⟩ : ByteArray).data.toList.isEmpty = false := by rw [show (⟨sl.toArray⟩ : ByteArray).data.toList = sl from rfl]; exact e1
        clear hsl h0
        go_wp2_with fail
        go_ret
        rw [← (HW sl HX.out).out]
        exact ⟨rfl, hbl⟩
    · have tt : decide ((u : Int) > 0) = true := by simp; omega
      have tt2 : decide (0 < (u : Int)) = true := by simp; omega
      have hm : (u : Int).tmod 10 = ((u % 10 : Nat) : Int) := rfl
      have hq : (u : Int).tdiv 10 = ((u / 10 : Nat) : Int) := rfl
      have hlt : u % 10 < 10 := Nat.mod_lt _ (by decide)
      have hdv : u / 10 < u := by omega
      have HS := Lib.hid (FW.dgs0_step (u := u) (by omega))
      generalize u % 10 = d at *
      generalize u / 10 = u2 at *
      have hcv := FW.conv_byte wr d hlt
      go_wp2_with fail
      go_roundw
      case rel =>
        refine ⟨u2, UInt8.ofNat (48 + d) :: sl, ?_, by go_num, by omega, Lib.hid ⟨?_, ?_⟩, hbl.alloc hbl.size _⟩
        · congr 1; rw [UInt8.ofNat_add]; exact FW.cat_byte _ _
        · have := HU.out.1
          rw [← HS.out, List.append_assoc] at this
          exact this
        · have h1 := HU.out.2
          rw [← HS.out, List.length_append] at h1
          simp at h1 ⊢
          omega
      case measure => simp [RowKit.intOf]; omega
end Go.Proofs.YtmaclplhphfkiaaDoor
