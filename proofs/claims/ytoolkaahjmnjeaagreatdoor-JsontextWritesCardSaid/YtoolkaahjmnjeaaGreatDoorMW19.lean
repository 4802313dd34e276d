/- The program's May: valid, whole. Conditions: strings of at most 10^12 bytes; the library's two tables. -/
import Derived.Test.YtoolkaahjmnjeaaGreatDoorMW17
import Derived.Test.YtoolkaahjmnjeaaGreatDoorMW18
namespace Go.Proofs.YtoolkaahjmnjeaaGreatDoor
open Go Go.RowKit Go.Shelf Go.Lib

set_option maxRecDepth 100000 in
theorem valid_wild (k : Nat) (x : ByteArray) (va ua : Value) (d : Int) (w : World) (hk : ¬ k ≤ 6) :
    Calls Tryz.prog 51 #[.agg #[.int .u8 k, .string x, va, ua], .int .i64 d] w (Bools false w) := by
  have tk : decide ((6 : Int) < (k : Int)) = true := decide_eq_true (by omega)
  have hB := (Below.refl w.heap.size w).alloc (Nat.le_refl _) (.cells #[.int .u8 k, .string x, va, ua] 25)
  go_enter Tryz.func51, Tryz.ntmps51
  go_wp2_with fail
  go_ret
  exact ⟨rfl, hB⟩
theorem ent_noText : ∀ args w, (callFunc 134 args).run Tryz.prog w = .ok (.enter 134 args) w := enters_of Tryz.func134 (by kernel_rfl) rfl
theorem ent_noList : ∀ args w, (callFunc 135 args).run Tryz.prog w = .ok (.enter 135 args) w := enters_of Tryz.func135 (by kernel_rfl) rfl
theorem ent_noFields : ∀ args w, (callFunc 136 args).run Tryz.prog w = .ok (.enter 136 args) w := enters_of Tryz.func136 (by kernel_rfl) rfl
theorem ent_isNumber : ∀ args w, (callFunc 140 args).run Tryz.prog w = .ok (.enter 140 args) w := enters_of Tryz.func140 (by kernel_rfl) rfl
theorem ent_utfValid : ∀ args w, (callFunc 85 args).run Tryz.prog w = .ok (.enter 85 args) w := enters_of Tryz.func85 (by kernel_rfl) rfl
theorem ent_validList : ∀ args w, (callFunc 143 args).run Tryz.prog w = .ok (.enter 143 args) w := enters_of Tryz.func143 (by kernel_rfl) rfl
theorem ent_validFields : ∀ args w, (callFunc 145 args).run Tryz.prog w = .ok (.enter 145 args) w := enters_of Tryz.func145 (by kernel_rfl) rfl

theorem mayV_wild {k : Nat} {x : ByteArray} {l f : V.T} {d : Nat} (h : ¬ k ≤ 6) : mayV k x l f d = false := by
  unfold mayV
  rw [decide_eq_false h, Bool.false_and]
set_option maxRecDepth 100000 in
theorem may_ok : ∀ N, MayOk Tabs N
  | 0 => fun k x va ua l f A d w h => absurd h (Nat.not_lt_zero _)
  | N + 1 => fun k x va ua l f A d w hN hk hx hsl hsf hl hf hd hT => by
    have ih := may_ok N
    by_cases hk6 : k ≤ 6
    · obtain ⟨p, c, rfl, a0, a1, a2⟩ := hl.len
      obtain ⟨q, e, rfl, b0, b1, b2⟩ := hf.len
      have T0 := fun W (_ : Below w.heap.size w W) => noText_any x W
      have L0 := fun W (_ : Below w.heap.size w W) => noList_any p l.len c d W a0 a1 a2
      have F0 := fun W (_ : Below w.heap.size w W) => noFields_any q f.len e d W b0 b1 b2
      have L1 := fun W (hW : Below w.heap.size w W) => validList_any Tabs (fun _ _ => tabs_below) N ih _ l A d W (by omega) hsl (hl.below hW) hd (tabs_below hT hW)
      have F1 := fun W (hW : Below w.heap.size w W) => validFields_any Tabs (fun _ _ => tabs_below) (fun s W => utfValid_any s W) N ih _ f A d W (by omega) hsf (hf.below hW) hd (tabs_below hT hW)
      have hc : k = 0 ∨ k = 1 ∨ k = 2 ∨ k = 3 ∨ k = 4 ∨ k = 5 ∨ k = 6 := by omega
      rcases hc with rfl | rfl | rfl | rfl | rfl | rfl | rfl
      · exact valid_with 0 x p q l.len c f.len e d 134 135 136 137 _ _ _ w (by decide) (fun W => by kernel_rfl) ent_noText ent_noList ent_noFields T0 L0 F0
      · exact valid_with 1 x p q l.len c f.len e d 134 135 136 138 _ _ _ w (by decide) (fun W => by kernel_rfl) ent_noText ent_noList ent_noFields T0 L0 F0
      · exact valid_with 2 x p q l.len c f.len e d 134 135 136 139 _ _ _ w (by decide) (fun W => by kernel_rfl) ent_noText ent_noList ent_noFields T0 L0 F0
      · exact valid_with 3 x p q l.len c f.len e d 140 135 136 141 _ _ _ w (by decide) (fun W => by kernel_rfl) ent_isNumber ent_noList ent_noFields (fun W _ => isNumber_any x W (Nat.le_trans hx (by decide))) L0 F0
      · exact valid_with 4 x p q l.len c f.len e d 85 135 136 142 _ _ _ w (by decide) (fun W => by kernel_rfl) ent_utfValid ent_noList ent_noFields (fun W hW => utfValid_any x W hx (tabs_below hT hW)) L0 F0
      · exact valid_with 5 x p q l.len c f.len e d 134 143 136 144 _ _ _ w (by decide) (fun W => by kernel_rfl) ent_noText ent_validList ent_noFields T0 L1 F0
      · exact valid_with 6 x p q l.len c f.len e d 134 135 145 146 _ _ _ w (by decide) (fun W => by kernel_rfl) ent_noText ent_noList ent_validFields T0 L0 F1
    · rw [mayV_wild hk6]
      exact valid_wild k x va ua d w hk6
end Go.Proofs.YtoolkaahjmnjeaaGreatDoor
