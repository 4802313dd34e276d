/- RelexTwice: two edits, one behind the other, come to what the edit around both comes to: the given statement, whole. Conditions: none. -/
import Derived.Test.YtglanajglhneeaaRows
import Derived.Test.YtglanajglhneeaaMZ05
import Derived.ProofKit
import Derived.OpenShut
import Derived.Carry
import Derived.SizedLaws
import Derived.Lib.SmallJoins
namespace Go.Proofs.Ytglanajglhneeaa
open Go Go.ChangeShapes Go.WideShapes Go.ChangeAt Go.RowKit Go.Joins
open Go.ChangeMaps (open_string shut_string)

theorem own : ownKnob Try.prog.godebug = none := by kernel_rfl
set_option maxRecDepth 100000 in
theorem relexTwice_lifted (os : Os) (started : os.Started) (H : Type) (enc : TypeId × Value → H) :
    ReturnsInHanded {} Try.checked os 6 .any (Rows.relexTwiceSpec.pre6 enc Try.prog Try.f6 Rows.relexTwiceRow.domain false) (Rows.relexTwiceSpec.post enc Try.prog Try.f6 false true false false) := by
  refine returnsInHanded_of_change_sized (C := Try.checked) own started (by kernel_rfl) Try.func6
    (ChangeSpec.witness6 (enc := enc) (C := Try.checked) false ⟨#[], #[.string ⟨#[]⟩, .agg #[.int .i64 0, .int .i64 0, .string ⟨#[]⟩], .agg #[.int .i64 0, .int .i64 0, .string ⟨#[]⟩]], []⟩ 8 (by kernel_rfl) (by kernel_rfl) (by kernel_rfl) (by kernel_rfl)) ?_
  intro W base args ds gs before hval0 hW _ hsz _
  have hval : ∀ (j : Nat) t v, Try.f6.params[j]? = some t → args[j]? = some v → Value.okWide Try.prog W .any base t v := hval0
  have hW' := hW
  obtain ⟨p, q, hA0, hV, rfl, hlt, _⟩ := hW
  have hA : DataW.TrodAll enc Try.prog W 0 (fun _ => true) true Try.f6.params.toList args.toList ds p := hA0
  rw [Try.params6] at hA hval
  obtain ⟨v0, v1, v2, d0, d1, d2, p0, p1, p2, rfl, rfl, rfl, h0, h1, h2⟩ := trodAll_three hA
  obtain ⟨rfl, rfl⟩ := trodVars_none hV
  have q1 : ∀ x ∈ p1, x.block < W.heap.size := fun x hx => DataW.TrodAll.lt hA x (by simp [hx])
  have q2 : ∀ x ∈ p2, x.block < W.heap.size := fun x hx => DataW.TrodAll.lt hA x (by simp [hx])
  have r0 : ∀ n ∈ d0.weights Try.prog 9, n ≤ reachBytes := fun n hn => by
    have h := List.all_eq_true.1 hsz n (DataW.weights_mem_each (j := 0) (t := 9) (d := d0) (by rw [Try.params6]; rfl) rfl n hn)
    exact of_decide_eq_true h
  obtain ⟨a0, rfl, rfl, rfl, w0⟩ := open_string Try.underlying9 (hval 0 9 v0 rfl rfl) h0
  have z0 : a0.size ≤ 1000000000000000 := by
    have := r0 a0.data.toList.length (by unfold DataW.weights; exact List.mem_singleton_self _)
    rw [Array.length_toList] at this
    exact Nat.le_trans this (by decide)
  have r1 : ∀ n ∈ d1.weights Try.prog 30, n ≤ reachBytes := fun n hn => by
    have h := List.all_eq_true.1 hsz n (DataW.weights_mem_each (j := 1) (t := 30) (d := d1) (by rw [Try.params6]; rfl) rfl n hn)
    exact of_decide_eq_true h
  obtain ⟨a1, rfl, z1⟩ := openOp (hval 1 30 v1 rfl rfl) h1 r1
  have r2 : ∀ n ∈ d2.weights Try.prog 30, n ≤ reachBytes := fun n hn => by
    have h := List.all_eq_true.1 hsz n (DataW.weights_mem_each (j := 2) (t := 30) (d := d2) (by rw [Try.params6]; rfl) rfl n hn)
    exact of_decide_eq_true h
  obtain ⟨a2, rfl, z2⟩ := openOp (hval 2 30 v2 rfl rfl) h2 r2
  clear hA0 hval0
  simp only [List.append_nil] at hW'
  refine (relexTwice_x a0 a1 a2 z0 z1 z2 W).mono fun e W' ⟨he, hw⟩ => ?_
  subst he
  have e1 : Rows.relexTwiceSpec.fn H ([.lit (.string a0.data.toList), d1, d2] ++ []) = { results := [.lit (.bool true)], args := [.lit (.string a0.data.toList), d1, d2] } := rfl
  refine ⟨_, rfl, _, _, _, [], [] ++ (p1 ++ p2), [], hW', ?_, ?_, ?_, hw.frame _, fun h => by cases h⟩
  · rw [e1]; exact trodAll_mk1 (shut_bool Try.underlying4 _)
  · rw [e1]; exact trodAll_mk3 (shut_string Try.underlying9 w0) (Below.trod (by kernel_rfl) (by kernel_rfl) (of_decide_eq_true (by kernel_rfl)) h1 hw q1) (Below.trod (by kernel_rfl) (by kernel_rfl) (of_decide_eq_true (by kernel_rfl)) h2 hw q2)
  · rw [e1]; rfl

theorem relexTwice_holds : Rows.RelexTwiceSaid :=
  OpenClaim.holds_of_wide 6 Try.f6 rfl rfl rfl rfl rfl rfl rfl ⟨rfl, rfl, rfl, rfl, rfl⟩ rfl rfl rfl rfl rfl (by kernel_rfl) Try.func6 (by kernel_rfl)
    (of_decide_eq_true (by kernel_rfl)) (by unfold Func.isWrapper; first | (rw [if_pos (by decide +kernel)]; kernel_rfl) | (rw [if_neg (by decide +kernel)]; exact ⟨rfl, rfl⟩))
    (fun os started H enc _ => relexTwice_lifted os started H enc)
end Go.Proofs.Ytglanajglhneeaa
