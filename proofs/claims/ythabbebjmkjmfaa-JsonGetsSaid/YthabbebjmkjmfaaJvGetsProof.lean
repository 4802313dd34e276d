/- Get answers what the document says, of any value of at most 2000 values, at most 200 deep, and any name, in memory of its own: the given statement, whole. Conditions: none. -/
import Derived.Test.YthabbebjmkjmfaaRows
import Derived.Test.YthabbebjmkjmfaaJvGets
import Derived.Test.YthabbebjmkjmfaaJvOpen
import Derived.Carry
import Derived.Lib.SmallJoins
namespace Go.Proofs.Ythabbebjmkjmfaa
open Go Go.ChangeShapes Go.WideShapes Go.ChangeAt Go.RowKit Go.Joins
open Go.ChangeMaps (open_string shut_string)

theorem own : ownKnob Try.prog.godebug = none := by kernel_rfl
set_option maxRecDepth 100000 in
theorem gets_lifted (os : Os) (started : os.Started) (H : Type) (enc : TypeId × Value → H) :
    ReturnsInHanded {} Try.checked os 3 .any (Rows.jsonGetsSpec.pre6 enc Try.prog Try.f3 Rows.jsonGetsRow.domain false) (Rows.jsonGetsSpec.post enc Try.prog Try.f3 false true false false) := by
  refine returnsInHanded_of_change_sized (C := Try.checked) own started (by kernel_rfl) Try.func3
    (ChangeSpec.witness6 (enc := enc) (C := Try.checked) false ⟨#[], #[.agg #[.int .u8 0, .string ⟨#[]⟩, .slice none 0 0, .slice none 0 0], .string ⟨#[]⟩], []⟩ 8 (by kernel_rfl) (by kernel_rfl) (by kernel_rfl) (by kernel_rfl)) ?_
  intro W base args ds gs before hval0 hW _ hsz _
  have hval : ∀ (j : Nat) t v, Try.f3.params[j]? = some t → args[j]? = some v → Value.okWide Try.prog W .any base t v := hval0
  have hW' := hW
  obtain ⟨p, q, hA0, hV, rfl, hlt, _⟩ := hW
  have hA : DataW.TrodAll enc Try.prog W 0 (fun _ => true) true Try.f3.params.toList args.toList ds p := hA0
  rw [Try.params3] at hA hval
  obtain ⟨v0, v1, d0, d1, p0, p1, rfl, rfl, rfl, h0, h1⟩ := trodAll_two hA
  obtain ⟨rfl, rfl⟩ := trodVars_none hV
  have g1 := h1
  obtain ⟨s, rfl, rfl, rfl, hs⟩ := open_string Try.underlying9 (hval 1 9 v1 rfl rfl) h1
  have hr0 : Reach (d0.weights Try.prog 25) := fun n hn => by
    have h := List.all_eq_true.1 hsz n (DataW.weights_mem_each (j := 0) (t := 25) (d := d0) (by rw [Try.params3]; rfl) rfl n hn)
    exact of_decide_eq_true h
  have hlt0 : ∀ x ∈ p0, x.block < W.heap.size := fun x hx => DataW.TrodAll.lt hA x (List.mem_append_left _ hx)
  obtain ⟨a, b, c, d, y0, y1, y2, y3, n, rfl, _, _, t0, t1, t2, t3⟩ := open_agg4 Try.underlying25 (by kernel_rfl) cellsValue (hval 0 25 v0 rfl rfl) h0
  obtain ⟨z, e0, _, _⟩ := DataW.trod_int Try.underlying5 t0
  obtain ⟨x, e1, _, _⟩ := DataW.trod_string Try.underlying9 t1
  have e2 : ∃ p n m, c = .slice p n m := by
    rcases DataW.trod_slice Try.underlying22 t2 with ⟨h, _⟩ | ⟨_, _, _, _, _, _, _, h, _⟩
    · exact ⟨_, _, _, List.head_eq_of_cons_eq h⟩
    · exact ⟨_, _, _, List.head_eq_of_cons_eq h⟩
  have e3 : ∃ p n m, d = .slice p n m := by
    rcases DataW.trod_slice Try.underlying23 t3 with ⟨h, _⟩ | ⟨_, _, _, _, _, _, _, h, _⟩
    · exact ⟨_, _, _, List.head_eq_of_cons_eq h⟩
    · exact ⟨_, _, _, List.head_eq_of_cons_eq h⟩
  obtain ⟨q1, n1, m1, rfl⟩ := e2
  obtain ⟨q2, n2, m2, rfl⟩ := e3
  obtain rfl := List.head_eq_of_cons_eq e0
  obtain rfl := List.head_eq_of_cons_eq e1
  obtain ⟨fuel, hf⟩ := id h0
  obtain ⟨k, x', v, u, l, f, e4, hk, hx, hl, hfl⟩ := (value_open (enc := enc) (W := W) (spare := fun _ => true) fuel).1 _ _ hf hr0
  simp [Value.cells] at e4
  obtain ⟨rfl, rfl, rfl, rfl⟩ := e4
  simp only [List.append_nil] at hW'
  refine (getsLaw_any k x s _ _ l f _ W hl hfl).mono fun e W' ⟨he, hw⟩ => ?_
  subst he
  have e5 : Rows.jsonGetsSpec.fn H ([d0, .lit (.string s.data.toList)] ++ []) = { results := [.lit (.bool true)], args := [d0, .lit (.string s.data.toList)] } := rfl
  refine ⟨_, rfl, _, _, _, [], p0 ++ [], [], hW', ?_, ?_, ?_, hw.frame _, fun h => by cases h⟩
  · rw [e5]; exact trodAll_mk1 (shut_bool Try.underlying4 _)
  · rw [e5]; exact trodAll_mk2 (Below.trod (by kernel_rfl) (by kernel_rfl) (of_decide_eq_true (by kernel_rfl)) h0 hw hlt0) (shut_string Try.underlying9 hs)
  · rw [e5]; rfl

theorem jsonGets_holds : Rows.JsonGetsSaid :=
  OpenClaim.holds_of_wide 3 Try.f3 rfl rfl rfl rfl rfl rfl rfl ⟨rfl, rfl, rfl, rfl, rfl⟩ rfl rfl rfl rfl rfl (by kernel_rfl) Try.func3 (by kernel_rfl)
    (of_decide_eq_true (by kernel_rfl)) (by unfold Func.isWrapper; first | (rw [if_pos (by decide +kernel)]; kernel_rfl) | (rw [if_neg (by decide +kernel)]; exact ⟨rfl, rfl⟩))
    (fun os started H enc _ => gets_lifted os started H enc)
end Go.Proofs.Ythabbebjmkjmfaa
