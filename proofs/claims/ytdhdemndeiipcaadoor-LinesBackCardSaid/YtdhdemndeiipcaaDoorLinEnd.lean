/- Where a line's content ends, and where the next line begins: the program's two functions answer it. Conditions: a string of at most 10^12 bytes. -/
import Derived.Test.YtdhdemndeiipcaaDoorLinMath
import Derived.Test.YtdhdemndeiipcaaDoorProg
import Derived.WalkKit
import Derived.WalkSpells
import Derived.WalkLawsBesides
import Derived.Lib.Hide
import Derived.ProofKit
namespace Go.Proofs.YtdhdemndeiipcaaDoor
open Go Go.RowKit Go.Lib

theorem at_byte {s : ByteArray} {i : Nat} (h : i < s.size) : s[i].toNat = (s.get! i).toNat := by rw [L.at_get h]

set_option maxHeartbeats 400000 in
set_option maxRecDepth 100000 in
theorem contentEnd_any (s : ByteArray) (i : Nat) (w : World) (hi : i ≤ s.size) (hs : s.size ≤ 1000000000000) :
    Calls Tryd.prog 32 #[.string s, .int .i64 i] w fun e w' => e = .returned (.int .i64 (L.ce s i)) ∧ w = w' := by
  go_enter Tryd.func32, Tryd.ntmps32
  go_wp2_with fail
  go_loop [5] (fun p => ∃ q : Nat, p = .int .i64 q ∧ q ≤ s.size ∧ Hid (L.ce s q = L.ce s i)) (fun p => s.size - (RowKit.intOf p).toNat)
  case atStart => exact ⟨i, rfl, hi, Lib.hid rfl⟩
  case round =>
    obtain ⟨q, rfl, hq, HU⟩ := hrel
    by_cases hlt : q < s.size
    · have hb := at_byte hlt
      cases hk : L.brk s q
      · have HS := Lib.hid (L.ce_step hlt hk)
        obtain ⟨n1, n2⟩ := L.of_nbrk hk
        rw [← hb] at n1 n2
        have e1 : ((s[q].toNat : Int) != 10) = true := by simp; omega
        have e2 : ((s[q].toNat : Int) != 13) = true := by simp; omega
        clear hk hb n1 n2
        go_wp2_with fail
        go_round
        case rel => exact ⟨q + 1, by go_num, by omega, Lib.hid (by rw [← HS.out]; exact HU.out)⟩
        case measure => simp [RowKit.intOf]; omega
      · have HS := Lib.hid (L.ce_brk hlt hk)
        have HR : Hid (q = L.ce s i) := Lib.hid (by rw [← HU.out, HS.out])
        have hc := L.of_brk hk
        rw [← hb] at hc
        clear hk hb
        rcases hc with hc | hc
        · have e1 : ((s[q].toNat : Int) != 10) = false := by simp; omega
          clear hc
          go_wp2_with fail
          go_ret
          exact ⟨by rw [← HR.out]; rfl, rfl⟩
        · have e1 : ((s[q].toNat : Int) != 10) = true := by simp; omega
          have e2 : ((s[q].toNat : Int) != 13) = false := by simp; omega
          clear hc
          go_wp2_with fail
          go_ret
          exact ⟨by rw [← HR.out]; rfl, rfl⟩
    · have HR : Hid (q = L.ce s i) := Lib.hid (by rw [← HU.out, L.ce_end hlt])
      go_wp2_with fail
      go_ret
      exact ⟨by rw [← HR.out]; rfl, rfl⟩

set_option maxHeartbeats 400000 in
set_option maxRecDepth 100000 in
theorem nextStart_any (s : ByteArray) (i : Nat) (w : World) (hi : i < s.size) (hs : s.size ≤ 1000000000000) :
    Calls Tryd.prog 33 #[.string s, .int .i64 i] w fun e w' => e = .returned (.int .i64 (L.nx s i)) ∧ w = w' := by
  have hb := at_byte hi
  cases hp : L.pair s i
  · have hn := L.of_npair hp
    rw [L.nx_one hp]
    clear hp
    rw [← hb] at hn
    by_cases h1 : s[i].toNat = 13
    · have e1 : ((s[i].toNat : Int) == 13) = true := by simp; omega
      by_cases h2 : i + 1 < s.size
      · have hb2 := at_byte h2
        have h3 : ¬ s[i + 1].toNat = 10 := by rw [hb2]; omega
        have e2 : ((s[i + 1].toNat : Int) == 10) = false := by simp; omega
        clear hn h1 hb hb2 h3
        go_enter Tryd.func33, Tryd.ntmps33
        go_wp2_with fail
        go_ret
        exact ⟨by go_num, rfl⟩
      · clear hn h1 hb
        go_enter Tryd.func33, Tryd.ntmps33
        go_wp2_with fail
        go_ret
        exact ⟨by go_num, rfl⟩
    · have e1 : ((s[i].toNat : Int) == 13) = false := by simp; omega
      clear hn h1 hb
      go_enter Tryd.func33, Tryd.ntmps33
      go_wp2_with fail
      go_ret
      exact ⟨by go_num, rfl⟩
  · obtain ⟨h1, h2, h3⟩ := L.of_pair hp
    rw [L.nx_pair hp]
    clear hp
    have hb2 := at_byte h2
    rw [← hb] at h1
    rw [← hb2] at h3
    have e1 : ((s[i].toNat : Int) == 13) = true := by simp; omega
    have e2 : ((s[i + 1].toNat : Int) == 10) = true := by simp; omega
    clear h1 h3 hb hb2
    go_enter Tryd.func33, Tryd.ntmps33
    go_wp2_with fail
    go_ret
    exact ⟨by go_num, rfl⟩
end Go.Proofs.YtdhdemndeiipcaaDoor
