/- The codes are the protocol's: the given statement, its tables tied to the program's text. Conditions: none. -/
import Derived.Test.YtgcdfkoobbijeaaDoorMR32
import Derived.Test.YtgcdfkoobbijeaaDoorCards
import Derived.Test.YtgcdfkoobbijeaaDoorTie
import Derived.SevenTiedAt
import Derived.Carry
import Derived.Lay
import Derived.Lib.SmallJoins
import Derived.PinnedBridge
import Derived.Lib.LaidIn
import Derived.Lib.LaidU8T
import Derived.MakeChecks
import Derived.ProofKit
import Derived.LaidMore
import Derived.OpenShut
namespace Go.Proofs.YtgcdfkoobbijeaaDoor
open Go Go.ChangeShapes Go.WideShapes Go.ChangeAt Go.RowKit Go.Lib
open Go.ChangeMaps (open_string shut_string)

namespace CRpcCodes
theorem own : ownKnob Tryd.prog.godebug = none := by kernel_rfl
def tables : List (String × DataW Unit) := Rows.rpcCodesRow.laid
def nameA : String := (tables.map (·.1)).getD 3 ( "")
def nameF : String := (tables.map (·.1)).getD 4 ( "")
theorem accept_eq : Rows.laid_unicode_utf8_acceptRanges = Lib.acceptData := by kernel_rfl
theorem first_eq : Rows.laid_unicode_utf8_first = Lib.firstData := Pinned.utf8First_eq
theorem mem_a : (nameA, (Rows.laid_unicode_utf8_acceptRanges : DataW Unit)) ∈ tables := (.tail _ (.tail _ (.tail _ (.head _))))
theorem mem_f : (nameF, Rows.laid_unicode_utf8_first) ∈ tables := (.tail _ (.tail _ (.tail _ (.tail _ (.head _)))))
theorem tabs_of_laid {W : World} (h : laidMetH Tryd.prog tables W) : Tabs W := by
  rw [MakeChecks.laidMetH_plain _ _ _ (by kernel_rfl)] at h
  have ha := mem_a
  have hf := mem_f
  rw [accept_eq] at ha
  rw [first_eq] at hf
  exact utf8Tabs_of_readsT ⟨Tryd.laysDecode.t5, Tryd.laysDecode.t119, Tryd.laysDecode.t138, Tryd.laysDecode.t139⟩ ⟨by kernel_rfl, by kernel_rfl, by kernel_rfl, by kernel_rfl, by kernel_rfl, by kernel_rfl, by kernel_rfl⟩ (Lib.laidMet.reads h hf) (Lib.laidMet.reads h ha)

def nameP : String := (tables.map (·.1)).getD 2 ( "")
theorem pow_eq : (Rows.laid_internal_strconv_uint64pow10 : DataW Unit) = Lib.tabData .u64 Lib.pow10Tab := by kernel_rfl
theorem mem_p : (nameP, (Rows.laid_internal_strconv_uint64pow10 : DataW Unit)) ∈ tables := (.tail _ (.tail _ (.head _)))
theorem nameP_is : nameP = "internal/strconv.uint64pow10" := by kernel_rfl
theorem pow_of_laid {W : World} (h : laidMetH Tryd.prog tables W) : PowTab W := by
  rw [MakeChecks.laidMetH_plain _ _ _ (by kernel_rfl)] at h
  have hp := mem_p
  rw [pow_eq, nameP_is] at hp
  obtain ⟨g, t, cs, fuel, p, hg, ht, hv, hd⟩ := Lib.laidMet.reads h hp
  have hg2 : Tryd.prog.globalNamed "internal/strconv.uint64pow10" = some 4 := by kernel_rfl
  obtain rfl := Option.some.inj (hg2.symm.trans hg)
  have ht2 : (Tryd.prog.globals[4]?).map (·.type) = some 164 := by kernel_rfl
  obtain rfl := Option.some.inj (ht2.symm.trans ht)
  have hc := Lib.cells_of_tab (n := 20) (e := 131) Tryd.underlying164 Tryd.underlying131 (by kernel_rfl) (by kernel_rfl) hd
  show W.var? Tryd.prog _ = _
  rw [hv, ← hc]
set_option maxRecDepth 100000 in
theorem lifted (os : Os) (started : os.Started) (H : Type) (enc : TypeId × Value → H) :
    ReturnsInHanded {} Tryd.checked os 6 .any (fun w args => (Rows.rpcCodesSpec.pre enc Tryd.prog Tryd.f6 Rows.rpcCodesRow.domain false w args ∧ laidMetH Tryd.prog tables w) ∧ sizedMet enc Tryd.prog Tryd.f6 (OpenSpec.ofChange Rows.rpcCodesSpec) false w args)
      (Rows.rpcCodesSpec.post enc Tryd.prog Tryd.f6 false true false false) := by
  refine returnsInHanded_of_change_and (C := Tryd.checked) (X := fun w _ => laidMetH Tryd.prog tables w) (fun _ _ _ hh h => h.of_heap hh) own started (by kernel_rfl) Tryd.func6
    (ChangeSpec.witness_shaped (enc := enc) (C := Tryd.checked) (os := os) (X := fun w _ => laidMetH Tryd.prog tables w) false (World.laidAll Tryd.prog os tables) #[] 8 (World.laidAll_os _ _ _)
      (World.shaped_of_ZipB (by kernel_rfl) (by kernel_rfl)) (by kernel_rfl) (by kernel_rfl) (by kernel_rfl)
      (by rw [MakeChecks.laidMetH_plain _ _ _ (by kernel_rfl)]; exact laidMet_laidAll _ (by kernel_rfl) (by kernel_rfl))) ?_
  intro W base args ds gs before hval0 hW _ hsz hL _
  have hval : ∀ (j : Nat) t v, Tryd.f6.params[j]? = some t → args[j]? = some v → Value.okWide Tryd.prog W .any base t v := hval0
  have hW' := hW
  obtain ⟨p, q, hA0, hV, rfl, _, _⟩ := hW
  have hA : DataW.TrodAll enc Tryd.prog W 0 (fun _ => true) true Tryd.f6.params.toList args.toList ds p := hA0
  rw [Tryd.params6] at hA hval
  obtain ⟨rfl, rfl, rfl⟩ := trodAll_none hA
  obtain ⟨rfl, rfl⟩ := trodVars_none hV
  clear hA0 hval0
  simp only [List.append_nil] at hW'
  refine (codesLaw_any W (pow_of_laid hL) (tabs_of_laid hL)).mono fun e W' ⟨he, hw⟩ => ?_
  subst he
  have e1 : Rows.rpcCodesSpec.fn H ([] ++ []) = { results := [.lit (.bool true)], args := [] } := rfl
  refine ⟨_, rfl, _, _, _, [], [], [], hW', ?_, ?_, ?_, hw.frame _, fun h => by cases h⟩
  · rw [e1]; exact trodAll_mk1 (shut_bool Tryd.underlying4 _)
  · rw [e1]; exact trodAll_mk0
  · rw [e1]; rfl

theorem holds : Rows.RpcCodesSaid :=
  OpenClaim.holds_of_wide 6 Tryd.f6 rfl rfl rfl rfl rfl rfl rfl ⟨rfl, rfl, rfl, rfl, rfl⟩ rfl rfl rfl rfl rfl (by kernel_rfl) Tryd.func6 (by kernel_rfl)
    (of_decide_eq_true (by kernel_rfl)) (by unfold Func.isWrapper; first | (rw [if_pos (by decide +kernel)]; kernel_rfl) | (rw [if_neg (by decide +kernel)]; exact ⟨rfl, rfl⟩))
    (fun os started H enc _ => lifted os started H enc)
end CRpcCodes

theorem rpcCodes_card_holds : Rows.RpcCodesCardSaid :=
  Claim7.holds_tied_plain_at .later [] [.data, .data, .data, .data, .pinned] true Rows.rpcCodesCard.stood.harness Rows.rpcCodesCard.stood.looks
    CRpcCodes.holds (fun _ h => by cases h) (by kernel_rfl) (fun _ h => by cases h) rpcCodes_row_tie rfl ⟨rfl, rfl⟩ (by kernel_rfl) rfl
    (fun f fn hf hfn => by
      obtain rfl : f = 6 := Option.some.inj ((show Tryd.prog.funcNamed Rows.rpcCodesRow.func = some 6 by kernel_rfl).symm.trans hf) |>.symm
      obtain rfl : fn = Tryd.f6 := (Option.some.inj (Tryd.func6.symm.trans hfn)).symm
      exact ⟨by kernel_rfl, fun j t ht => by
        rw [Tryd.params6] at ht
        simp at ht⟩)
    (by kernel_rfl)
end Go.Proofs.YtgcdfkoobbijeaaDoor
