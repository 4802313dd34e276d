/- What a rope is asked, it answers of its text: the given statement, its tables tied to the program's text. Conditions: none. -/
import Derived.Test.YtjeopabnddekgaaDoorMQ08
import Derived.Test.YtjeopabnddekgaaDoorMQ09
import Derived.Test.YtjeopabnddekgaaDoorCards
import Derived.Test.YtjeopabnddekgaaDoorTie
import Derived.SevenTiedAt
import Derived.Carry
import Derived.Lay
import Derived.Lib.SmallJoins
import Derived.PinnedBridge
import Derived.Lib.LaidIn
import Derived.Lib.LaidU8T
import Derived.MakeChecks
import Derived.ProofKit
import Derived.LaidMore
import Derived.OpenShut
namespace Go.Proofs.YtjeopabnddekgaaDoor
open Go Go.ChangeShapes Go.WideShapes Go.ChangeAt Go.RowKit Go.Lib
open Go.ChangeMaps (open_string shut_string)

namespace CRopeAsks
theorem own : ownKnob Tryd.prog.godebug = none := by kernel_rfl
def tables : List (String × DataW Unit) := Rows.ropeAsksRow.laid
def nameA : String := (tables.map (·.1)).getD 0 ( "")
def nameF : String := (tables.map (·.1)).getD 1 ( "")
theorem accept_eq : Rows.laid_unicode_utf8_acceptRanges = Lib.acceptData := by kernel_rfl
theorem first_eq : Rows.laid_unicode_utf8_first = Lib.firstData := Pinned.utf8First_eq
theorem mem_a : (nameA, (Rows.laid_unicode_utf8_acceptRanges : DataW Unit)) ∈ tables := (.head _)
theorem mem_f : (nameF, Rows.laid_unicode_utf8_first) ∈ tables := (.tail _ (.head _))
theorem tabs_of_laid {W : World} (h : laidMetH Tryd.prog tables W) : Tabs W := by
  rw [MakeChecks.laidMetH_plain _ _ _ (by kernel_rfl)] at h
  have ha := mem_a
  have hf := mem_f
  rw [accept_eq] at ha
  rw [first_eq] at hf
  exact utf8Tabs_of_readsT ⟨Tryd.laysDecode.t5, Tryd.laysDecode.t119, Tryd.laysDecode.t138, Tryd.laysDecode.t139⟩ ⟨by kernel_rfl, by kernel_rfl, by kernel_rfl, by kernel_rfl, by kernel_rfl, by kernel_rfl, by kernel_rfl⟩ (Lib.laidMet.reads h hf) (Lib.laidMet.reads h ha)

set_option maxRecDepth 100000 in
theorem lifted (os : Os) (started : os.Started) (H : Type) (enc : TypeId × Value → H) :
    ReturnsInHanded {} Tryd.checked os 4 .any (fun w args => (Rows.ropeAsksSpec.pre enc Tryd.prog Tryd.f4 Rows.ropeAsksRow.domain false w args ∧ laidMetH Tryd.prog tables w) ∧ sizedMet enc Tryd.prog Tryd.f4 (OpenSpec.ofChange Rows.ropeAsksSpec) false w args)
      (Rows.ropeAsksSpec.post enc Tryd.prog Tryd.f4 false true false false) := by
  refine returnsInHanded_of_change_and (C := Tryd.checked) (X := fun w _ => laidMetH Tryd.prog tables w) (fun _ _ _ hh h => h.of_heap hh) own started (by kernel_rfl) Tryd.func4
    (ChangeSpec.witness_shaped (enc := enc) (C := Tryd.checked) (os := os) (X := fun w _ => laidMetH Tryd.prog tables w) false (World.laidAll Tryd.prog os tables) #[.string ⟨#[]⟩, .slice none 0 0, .int .i64 0, .int .i64 0, .agg #[.int .i64 0, .int .i64 0]] 8 (World.laidAll_os _ _ _)
      (World.shaped_of_ZipB (by kernel_rfl) (by kernel_rfl)) (by kernel_rfl) (by kernel_rfl) (by kernel_rfl)
      (by rw [MakeChecks.laidMetH_plain _ _ _ (by kernel_rfl)]; exact laidMet_laidAll _ (by kernel_rfl) (by kernel_rfl))) ?_
  intro W base args ds gs before hval0 hW _ hsz hL _
  have hval : ∀ (j : Nat) t v, Tryd.f4.params[j]? = some t → args[j]? = some v → Value.okWide Tryd.prog W .any base t v := hval0
  have hW' := hW
  obtain ⟨p, q, hA0, hV, rfl, _, _⟩ := hW
  have hA : DataW.TrodAll enc Tryd.prog W 0 (fun _ => true) true Tryd.f4.params.toList args.toList ds p := hA0
  rw [Tryd.params4] at hA hval
  obtain ⟨v0, v1, v2, v3, v4, d0, d1, d2, d3, d4, p0, p1, p2, p3, p4, rfl, rfl, rfl, h0, h1, h2, h3, h4⟩ := trodAll_five hA
  obtain ⟨rfl, rfl⟩ := trodVars_none hV
  have q1 : ∀ x ∈ p1, x.block < W.heap.size := fun x hx => DataW.TrodAll.lt hA x (by simp [hx])
  have q4 : ∀ x ∈ p4, x.block < W.heap.size := fun x hx => DataW.TrodAll.lt hA x (by simp [hx])
  have r0 : OReach (d0.weights Tryd.prog 9) := fun n hn => by
    have h := List.all_eq_true.1 hsz n (DataW.weights_mem_each (j := 0) (t := 9) (d := d0) (by rw [Tryd.params4]; rfl) rfl n hn)
    exact of_decide_eq_true h
  obtain ⟨a0, rfl, rfl, rfl, w0⟩ := open_string Tryd.underlying9 (hval 0 9 v0 rfl rfl) h0
  have r1 : OReach (d1.weights Tryd.prog 22) := fun n hn => by
    have h := List.all_eq_true.1 hsz n (DataW.weights_mem_each (j := 1) (t := 22) (d := d1) (by rw [Tryd.params4]; rfl) rfl n hn)
    exact of_decide_eq_true h
  obtain ⟨l1, hl1⟩ := openOps (hval 1 22 v1 rfl rfl) h1 r1
  obtain ⟨a2, rfl, rfl, rfl, w2⟩ := open_int Tryd.underlying3 (hval 2 3 v2 rfl rfl) h2
  obtain ⟨a3, rfl, rfl, rfl, w3⟩ := open_int Tryd.underlying3 (hval 3 3 v3 rfl rfl) h3
  obtain ⟨a4, b4, rfl, hl4, hm4⟩ := openPosP (hval 4 38 v4 rfl rfl) h4
  clear hA0 hval0
  simp only [List.append_nil] at hW'
  refine (ropeAsks_any a0 v1 l1 a2 a3 a4 b4 W (str9_le r0) hl1 (bounds_i64 w2) (bounds_i64 w3) hl4 hm4 (tabs_of_laid hL)).mono fun e W' ⟨he, hw⟩ => ?_
  subst he
  have e1 : Rows.ropeAsksSpec.fn H ([.lit (.string a0.data.toList), d1, .lit (.int .i64 a2), .lit (.int .i64 a3), d4] ++ []) = { results := [.lit (.bool true)], args := [.lit (.string a0.data.toList), d1, .lit (.int .i64 a2), .lit (.int .i64 a3), d4] } := rfl
  refine ⟨_, rfl, _, _, _, [], [] ++ (p1 ++ ([] ++ ([] ++ p4))), [], hW', ?_, ?_, ?_, hw.frame _, fun h => by cases h⟩
  · rw [e1]; exact trodAll_mk1 (shut_bool Tryd.underlying4 _)
  · rw [e1]; exact trodAll_mk5 (shut_string Tryd.underlying9 w0) (Below.trod (by kernel_rfl) (by kernel_rfl) (of_decide_eq_true (by kernel_rfl)) h1 hw q1) (shut_int Tryd.underlying3 w2) (shut_int Tryd.underlying3 w3) (Below.trod (by kernel_rfl) (by kernel_rfl) (of_decide_eq_true (by kernel_rfl)) h4 hw q4)
  · rw [e1]; rfl

theorem holds : Rows.RopeAsksSaid :=
  OpenClaim.holds_of_wide 4 Tryd.f4 rfl rfl rfl rfl rfl rfl rfl ⟨rfl, rfl, rfl, rfl, rfl⟩ rfl rfl rfl rfl rfl (by kernel_rfl) Tryd.func4 (by kernel_rfl)
    (of_decide_eq_true (by kernel_rfl)) (by unfold Func.isWrapper; first | (rw [if_pos (by decide +kernel)]; kernel_rfl) | (rw [if_neg (by decide +kernel)]; exact ⟨rfl, rfl⟩))
    (fun os started H enc _ => lifted os started H enc)
end CRopeAsks

theorem ropeAsks_card_holds : Rows.RopeAsksCardSaid :=
  Claim7.holds_tied_plain_at .later [] [.data, .pinned] true Rows.ropeAsksCard.stood.harness Rows.ropeAsksCard.stood.looks
    CRopeAsks.holds (fun _ h => by cases h) (by kernel_rfl) (fun _ h => by cases h) ropeAsks_row_tie rfl ⟨rfl, rfl⟩ (by kernel_rfl) rfl
    (fun f fn hf hfn => by
      obtain rfl : f = 4 := Option.some.inj ((show Tryd.prog.funcNamed Rows.ropeAsksRow.func = some 4 by kernel_rfl).symm.trans hf) |>.symm
      obtain rfl : fn = Tryd.f4 := (Option.some.inj (Tryd.func4.symm.trans hfn)).symm
      exact ⟨by kernel_rfl, fun j t ht => by
        rw [Tryd.params4] at ht
        have hm : t ∈ [9, 22, 3, 38] := by simpa using Array.mem_of_getElem? ht
        have hall : ([9, 22, 3, 38].all fun u => !Tryd.prog.wantsStandIn u) = true := by kernel_rfl
        exact (show Tryd.prog.wantsStandIn t = false by simpa using List.all_eq_true.1 hall t hm)⟩)
    (by kernel_rfl)
end Go.Proofs.YtjeopabnddekgaaDoor
