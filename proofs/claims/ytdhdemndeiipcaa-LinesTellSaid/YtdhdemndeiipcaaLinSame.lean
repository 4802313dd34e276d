/- Two lists that read alike are told to be the same. Conditions: lists of at most 10^12 numbers. -/
import Derived.Test.YtdhdemndeiipcaaLinRefLine
import Derived.Deep.QuietTactic
import Derived.BigQuiet
namespace Go.Proofs.Ytdhdemndeiipcaa
open Go Go.RowKit Go.Shelf Go.Lib

set_option maxRecDepth 100000 in
set_option maxHeartbeats 1000000 in
theorem same_true (a b m c d : Nat) (F : Nat → Int) (w : World) (hm : m ≤ 1000000000000) (ha : Hid (∀ j, j < m → w.cell? ⟨a, j, none⟩ = some (.int .i64 (F j)))) (hb : Hid (∀ j, j < m → w.cell? ⟨b, j, none⟩ = some (.int .i64 (F j)))) :
    Calls Try.prog 7 #[.slice (some ⟨a, 0, none⟩) m c, .slice (some ⟨b, 0, none⟩) m d] w fun e w' => e = .returned (.bool true) ∧ ∃ q, w' = w.drewN q := by
  go_enter Try.func7, Try.ntmps7
  go_wp2_with fail
  go_loopw [5] (fun p wr => ∃ j q : Nat, p = .int .i64 j ∧ j ≤ m ∧ wr = w.drewN q) (fun p _ => m - (RowKit.intOf p).toNat)
  case atStart => exact ⟨0, 0, rfl, by omega, rfl⟩
  case round =>
    obtain ⟨j, q, rfl, hj, rfl⟩ := hrel
    by_cases hlt : j < m
    · have ca := ha.out j hlt
      have cb := hb.out j hlt
      go_wp2_with fail
      go_quiet (fail)
      go_wp2_with fail
      go_roundw
      case rel => exact ⟨j + 1, q + nq, by go_num, by omega, by simp [World.drewN]⟩
      case measure => simp [RowKit.intOf]; omega
    · obtain rfl : j = m := by omega
      go_wp2_with fail
      go_ret
      exact ⟨rfl, q, rfl⟩
end Go.Proofs.Ytdhdemndeiipcaa
