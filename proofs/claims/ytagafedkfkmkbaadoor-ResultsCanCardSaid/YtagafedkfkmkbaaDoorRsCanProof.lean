/- What the server can is told as the document says, each time anew: the given statement, its tables tied to the program's text. Conditions: none. -/
import Derived.Test.YtagafedkfkmkbaaDoorRsCan
import Derived.Test.YtagafedkfkmkbaaDoorCards
import Derived.Test.YtagafedkfkmkbaaDoorTie
import Derived.SevenTiedAt
import Derived.Carry
import Derived.Lay
import Derived.Lib.SmallJoins
import Derived.PinnedBridge
import Derived.Lib.LaidIn
import Derived.Lib.LaidU8T
import Derived.MakeChecks
import Derived.ProofKit
import Derived.LaidMore
import Derived.OpenShut
namespace Go.Proofs.YtagafedkfkmkbaaDoor
open Go Go.ChangeShapes Go.WideShapes Go.ChangeAt Go.RowKit Go.Lib
open Go.ChangeMaps (open_string shut_string)

namespace CResultsCan
theorem own : ownKnob Tryd.prog.godebug = none := by kernel_rfl
def tables : List (String × DataW Unit) := Rows.resultsCanRow.laid
def nameA : String := (tables.map (·.1)).getD 3 ( "")
def nameF : String := (tables.map (·.1)).getD 4 ( "")
theorem accept_eq : Rows.laid_unicode_utf8_acceptRanges = Lib.acceptData := by kernel_rfl
theorem first_eq : Rows.laid_unicode_utf8_first = Lib.firstData := Pinned.utf8First_eq
theorem mem_a : (nameA, (Rows.laid_unicode_utf8_acceptRanges : DataW Unit)) ∈ tables := (.tail _ (.tail _ (.tail _ (.head _))))
theorem mem_f : (nameF, Rows.laid_unicode_utf8_first) ∈ tables := (.tail _ (.tail _ (.tail _ (.tail _ (.head _)))))
theorem tabs_of_laid {W : World} (h : laidMetH Tryd.prog tables W) : Tabs W := by
  rw [MakeChecks.laidMetH_plain _ _ _ (by kernel_rfl)] at h
  have ha := mem_a
  have hf := mem_f
  rw [accept_eq] at ha
  rw [first_eq] at hf
  exact utf8Tabs_of_readsT ⟨Tryd.laysDecode.t5, Tryd.laysDecode.t119, Tryd.laysDecode.t138, Tryd.laysDecode.t139⟩ ⟨by kernel_rfl, by kernel_rfl, by kernel_rfl, by kernel_rfl, by kernel_rfl, by kernel_rfl, by kernel_rfl⟩ (Lib.laidMet.reads h hf) (Lib.laidMet.reads h ha)

def nameP : String := (tables.map (·.1)).getD 2 ( "")
theorem pow_eq : (Rows.laid_internal_strconv_uint64pow10 : DataW Unit) = Lib.tabData .u64 Lib.pow10Tab := by kernel_rfl
theorem mem_p : (nameP, (Rows.laid_internal_strconv_uint64pow10 : DataW Unit)) ∈ tables := (.tail _ (.tail _ (.head _)))
theorem nameP_is : nameP = "internal/strconv.uint64pow10" := by kernel_rfl
theorem pow_of_laid {W : World} (h : laidMetH Tryd.prog tables W) : PowTab W := by
  rw [MakeChecks.laidMetH_plain _ _ _ (by kernel_rfl)] at h
  have hp := mem_p
  rw [pow_eq, nameP_is] at hp
  obtain ⟨g, t, cs, fuel, p, hg, ht, hv, hd⟩ := Lib.laidMet.reads h hp
  have hg2 : Tryd.prog.globalNamed "internal/strconv.uint64pow10" = some 2 := by kernel_rfl
  obtain rfl := Option.some.inj (hg2.symm.trans hg)
  have ht2 : (Tryd.prog.globals[2]?).map (·.type) = some 177 := by kernel_rfl
  obtain rfl := Option.some.inj (ht2.symm.trans ht)
  have hc := Lib.cells_of_tab (n := 20) (e := 168) Tryd.underlying177 Tryd.underlying168 (by kernel_rfl) (by kernel_rfl) hd
  show W.var? Tryd.prog _ = _
  rw [hv, ← hc]
set_option maxRecDepth 100000 in
theorem lifted (os : Os) (started : os.Started) (H : Type) (enc : TypeId × Value → H) :
    ReturnsInHanded {} Tryd.checked os 6 .any (fun w args => (Rows.resultsCanSpec.pre enc Tryd.prog Tryd.f6 Rows.resultsCanRow.domain false w args ∧ laidMetH Tryd.prog tables w) ∧ sizedMet enc Tryd.prog Tryd.f6 (OpenSpec.ofChange Rows.resultsCanSpec) false w args)
      (Rows.resultsCanSpec.post enc Tryd.prog Tryd.f6 false true false false) := by
  refine returnsInHanded_of_change_and (C := Tryd.checked) (X := fun w _ => laidMetH Tryd.prog tables w) (fun _ _ _ hh h => h.of_heap hh) own started (by kernel_rfl) Tryd.func6
    (ChangeSpec.witness_shaped (enc := enc) (C := Tryd.checked) (os := os) (X := fun w _ => laidMetH Tryd.prog tables w) false (World.laidAll Tryd.prog os tables) #[] 8 (World.laidAll_os _ _ _)
      (World.shaped_of_ZipB (by kernel_rfl) (by kernel_rfl)) (by kernel_rfl) (by kernel_rfl) (by kernel_rfl)
      (by rw [MakeChecks.laidMetH_plain _ _ _ (by kernel_rfl)]; exact laidMet_laidAll _ (by kernel_rfl) (by kernel_rfl))) ?_
  intro W base args ds gs before hval0 hW _ hsz hL _
  have hval : ∀ (j : Nat) t v, Tryd.f6.params[j]? = some t → args[j]? = some v → Value.okWide Tryd.prog W .any base t v := hval0
  have hW' := hW
  obtain ⟨p, q, hA0, hV, rfl, _, _⟩ := hW
  have hA : DataW.TrodAll enc Tryd.prog W 0 (fun _ => true) true Tryd.f6.params.toList args.toList ds p := hA0
  rw [Tryd.params6] at hA hval
  obtain ⟨rfl, rfl, rfl⟩ := trodAll_none hA
  obtain ⟨rfl, rfl⟩ := trodVars_none hV
  clear hA0 hval0
  simp only [List.append_nil] at hW'
  refine (canLaw_any W (pow_of_laid hL) (tabs_of_laid hL)).mono fun e W' ⟨he, hw⟩ => ?_
  subst he
  have e1 : Rows.resultsCanSpec.fn H ([] ++ []) = { results := [.lit (.bool true)], args := [] } := rfl
  refine ⟨_, rfl, _, _, _, [], [], [], hW', ?_, ?_, ?_, hw.frame _, fun h => by cases h⟩
  · rw [e1]; exact trodAll_mk1 (shut_bool Tryd.underlying4 _)
  · rw [e1]; exact trodAll_mk0
  · rw [e1]; rfl

theorem holds : Rows.ResultsCanSaid :=
  OpenClaim.holds_of_wide 6 Tryd.f6 rfl rfl rfl rfl rfl rfl rfl ⟨rfl, rfl, rfl, rfl, rfl⟩ rfl rfl rfl rfl rfl (by kernel_rfl) Tryd.func6 (by kernel_rfl)
    (of_decide_eq_true (by kernel_rfl)) (by unfold Func.isWrapper; first | (rw [if_pos (by decide +kernel)]; kernel_rfl) | (rw [if_neg (by decide +kernel)]; exact ⟨rfl, rfl⟩))
    (fun os started H enc _ => lifted os started H enc)
end CResultsCan

theorem resultsCan_card_holds : Rows.ResultsCanCardSaid :=
  Claim7.holds_tied_plain_at .later [] [.data, .data, .data, .data, .pinned] true Rows.resultsCanCard.stood.harness Rows.resultsCanCard.stood.looks
    CResultsCan.holds (fun _ h => by cases h) (by kernel_rfl) (fun _ h => by cases h) resultsCan_row_tie rfl ⟨rfl, rfl⟩ (by kernel_rfl) rfl
    (fun f fn hf hfn => by
      obtain rfl : f = 6 := Option.some.inj ((show Tryd.prog.funcNamed Rows.resultsCanRow.func = some 6 by kernel_rfl).symm.trans hf) |>.symm
      obtain rfl : fn = Tryd.f6 := (Option.some.inj (Tryd.func6.symm.trans hfn)).symm
      exact ⟨by kernel_rfl, fun j t ht => by
        rw [Tryd.params6] at ht
        simp at ht⟩)
    (by kernel_rfl)
end Go.Proofs.YtagafedkfkmkbaaDoor
