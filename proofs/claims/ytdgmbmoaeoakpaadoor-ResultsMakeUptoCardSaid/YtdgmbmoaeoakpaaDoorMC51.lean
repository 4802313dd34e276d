/- Whatever is told is made the value that the chapter says; for arguments of bounded bulk: the given statement, its tables tied to the program's text. Conditions: none. -/
import Derived.Test.YtdgmbmoaeoakpaaDoorMC50
import Derived.Test.YtdgmbmoaeoakpaaDoorMC48
import Derived.Test.YtdgmbmoaeoakpaaDoorCards
import Derived.Test.YtdgmbmoaeoakpaaDoorTie
import Derived.SevenTiedAt
import Derived.Carry
import Derived.Lay
import Derived.Lib.SmallJoins
import Derived.PinnedBridge
import Derived.Lib.LaidIn
import Derived.Lib.LaidU8T
import Derived.MakeChecks
import Derived.ProofKit
import Derived.LaidMore
import Derived.OpenShut
namespace Go.Proofs.YtdgmbmoaeoakpaaDoor
open Go Go.ChangeShapes Go.WideShapes Go.ChangeAt Go.RowKit Go.Lib
open Go.ChangeMaps (open_string shut_string)

namespace CResultsMake
theorem own : ownKnob Tryd.prog.godebug = none := by kernel_rfl
def tables : List (String × DataW Unit) := Rows.resultsMakeUptoRow.laid
def nameA : String := (tables.map (·.1)).getD 3 ( "")
def nameF : String := (tables.map (·.1)).getD 4 ( "")
theorem accept_eq : Rows.laid_unicode_utf8_acceptRanges = Lib.acceptData := by kernel_rfl
theorem first_eq : Rows.laid_unicode_utf8_first = Lib.firstData := Pinned.utf8First_eq
theorem mem_a : (nameA, (Rows.laid_unicode_utf8_acceptRanges : DataW Unit)) ∈ tables := (.tail _ (.tail _ (.tail _ (.head _))))
theorem mem_f : (nameF, Rows.laid_unicode_utf8_first) ∈ tables := (.tail _ (.tail _ (.tail _ (.tail _ (.head _)))))
theorem tabs_of_laid {W : World} (h : laidMetH Tryd.prog tables W) : Tabs W := by
  rw [MakeChecks.laidMetH_plain _ _ _ (by kernel_rfl)] at h
  have ha := mem_a
  have hf := mem_f
  rw [accept_eq] at ha
  rw [first_eq] at hf
  exact utf8Tabs_of_readsT ⟨Tryd.laysDecode.t5, Tryd.laysDecode.t119, Tryd.laysDecode.t138, Tryd.laysDecode.t139⟩ ⟨by kernel_rfl, by kernel_rfl, by kernel_rfl, by kernel_rfl, by kernel_rfl, by kernel_rfl, by kernel_rfl⟩ (Lib.laidMet.reads h hf) (Lib.laidMet.reads h ha)

def nameP : String := (tables.map (·.1)).getD 2 ( "")
theorem pow_eq : (Rows.laid_internal_strconv_uint64pow10 : DataW Unit) = Lib.tabData .u64 Lib.pow10Tab := by kernel_rfl
theorem mem_p : (nameP, (Rows.laid_internal_strconv_uint64pow10 : DataW Unit)) ∈ tables := (.tail _ (.tail _ (.head _)))
theorem nameP_is : nameP = "internal/strconv.uint64pow10" := by kernel_rfl
theorem pow_of_laid {W : World} (h : laidMetH Tryd.prog tables W) : PowTab W := by
  rw [MakeChecks.laidMetH_plain _ _ _ (by kernel_rfl)] at h
  have hp := mem_p
  rw [pow_eq, nameP_is] at hp
  obtain ⟨g, t, cs, fuel, p, hg, ht, hv, hd⟩ := Lib.laidMet.reads h hp
  have hg2 : Tryd.prog.globalNamed "internal/strconv.uint64pow10" = some 2 := by kernel_rfl
  obtain rfl := Option.some.inj (hg2.symm.trans hg)
  have ht2 : (Tryd.prog.globals[2]?).map (·.type) = some 175 := by kernel_rfl
  obtain rfl := Option.some.inj (ht2.symm.trans ht)
  have hc := Lib.cells_of_tab (n := 20) (e := 166) Tryd.underlying175 Tryd.underlying166 (by kernel_rfl) (by kernel_rfl) hd
  show W.var? Tryd.prog _ = _
  rw [hv, ← hc]
set_option maxRecDepth 100000 in
theorem lifted (os : Os) (started : os.Started) (H : Type) (enc : TypeId × Value → H) (F : Stop.Interp) :
    ReturnsInHanded {} Tryd.checked os 5 .any ((Rows.OpenSpec.upto Rows.resultsMakeSpec).preRow enc Tryd.prog Tryd.f5 Rows.resultsMakeUptoRow.domain false tables) (((Rows.OpenSpec.upto Rows.resultsMakeSpec).at F).post enc Tryd.prog Tryd.f5 false true false false) := by
  refine returnsInHanded_of_row (C := Tryd.checked) (s := Rows.OpenSpec.upto Rows.resultsMakeSpec) own started (by kernel_rfl) Tryd.func5
    (witness_upto (enc := enc) (C := Tryd.checked) (os := os) false (World.laidAll Tryd.prog os tables) #[.string ⟨#[]⟩, .slice none 0 0, .slice none 0 0, .slice none 0 0, .slice none 0 0] 8 (World.laidAll_os _ _ _)
      (World.shaped_of_ZipB (by kernel_rfl) (by kernel_rfl)) (by kernel_rfl) (by kernel_rfl) (by kernel_rfl)
      (by rw [MakeChecks.laidMetH_plain _ _ _ (by kernel_rfl)]; exact laidMet_laidAll _ (by kernel_rfl) (by kernel_rfl))) ?_
  intro W base args ds gs before hval0 hW _ hcond hsz hL hsh _
  have hk := hcond _ rfl
  have hval : ∀ (j : Nat) t v, Tryd.f5.params[j]? = some t → args[j]? = some v → Value.okWide Tryd.prog W .any base t v := hval0
  have hW' := hW
  obtain ⟨p, q, hA0, hV, rfl, _, _⟩ := hW
  have hA : DataW.TrodAll enc Tryd.prog W 0 (fun _ => true) true Tryd.f5.params.toList args.toList ds p := hA0
  rw [Tryd.params5] at hA hval
  obtain ⟨v0, v1, v2, v3, v4, d0, d1, d2, d3, d4, p0, p1, p2, p3, p4, rfl, rfl, rfl, h0, h1, h2, h3, h4⟩ := trodAll_five hA
  obtain ⟨rfl, rfl⟩ := trodVars_none hV
  have q1 : ∀ x ∈ p1, x.block < W.heap.size := fun x hx => DataW.TrodAll.lt hA x (by simp [hx])
  have q2 : ∀ x ∈ p2, x.block < W.heap.size := fun x hx => DataW.TrodAll.lt hA x (by simp [hx])
  have q3 : ∀ x ∈ p3, x.block < W.heap.size := fun x hx => DataW.TrodAll.lt hA x (by simp [hx])
  have q4 : ∀ x ∈ p4, x.block < W.heap.size := fun x hx => DataW.TrodAll.lt hA x (by simp [hx])
  obtain ⟨a0, rfl, rfl, rfl, w0⟩ := open_string Tryd.underlying9 (hval 0 9 v0 rfl rfl) h0
  obtain ⟨l1, hl1⟩ := openIntsU (hval 1 47 v1 rfl rfl) h1 (Bulk.arg hk (d := d1) (by simp))
  obtain ⟨l2, hl2⟩ := openSpU (hval 2 48 v2 rfl rfl) h2 (Bulk.arg hk (d := d2) (by simp))
  obtain ⟨l3, hl3⟩ := openFoU (hval 3 49 v3 rfl rfl) h3 (Bulk.arg hk (d := d3) (by simp))
  obtain ⟨l4, hl4⟩ := openChU (hval 4 50 v4 rfl rfl) h4 (Bulk.arg hk (d := d4) (by simp))
  clear hA0 hval0
  simp only [List.append_nil] at hW'
  refine (make8_card a0 v1 l1 v2 l2 v3 l3 v4 l4 W (Bulk.string_le (Bulk.arg hk (d := .lit (.string a0.data.toList)) (by simp))) hl1 hl2 hl3 hl4 (pow_of_laid hL) (tabs_of_laid hL)).mono fun e W' ⟨he, hw⟩ => ?_
  subst he
  have e1 : ((Rows.OpenSpec.upto Rows.resultsMakeSpec).at F).fn H ([.lit (.string a0.data.toList), d1, d2, d3, d4] ++ []) = { results := [.lit (.bool true)], args := [.lit (.string a0.data.toList), d1, d2, d3, d4] } := rfl
  refine ⟨_, rfl, _, _, _, [], [] ++ (p1 ++ (p2 ++ (p3 ++ p4))), [], hW', ?_, ?_, ?_, hw.frame _, fun h => by cases h⟩
  · rw [e1]; exact trodAll_mk1 (shut_bool Tryd.underlying4 _)
  · rw [e1]; exact trodAll_mk5 (shut_string Tryd.underlying9 w0) (Below.trod (by kernel_rfl) (by kernel_rfl) (of_decide_eq_true (by kernel_rfl)) h1 hw q1) (Below.trod (by kernel_rfl) (by kernel_rfl) (of_decide_eq_true (by kernel_rfl)) h2 hw q2) (Below.trod (by kernel_rfl) (by kernel_rfl) (of_decide_eq_true (by kernel_rfl)) h3 hw q3) (Below.trod (by kernel_rfl) (by kernel_rfl) (of_decide_eq_true (by kernel_rfl)) h4 hw q4)
  · rw [e1]; rfl

theorem holds : Rows.ResultsMakeUptoSaid :=
  OpenClaim.holds_of_cond 5 Tryd.f5 rfl rfl rfl rfl rfl rfl rfl ⟨rfl, rfl, rfl, rfl, rfl⟩ rfl rfl rfl rfl rfl (by kernel_rfl) Tryd.func5 (by kernel_rfl)
    (of_decide_eq_true (by kernel_rfl)) (by unfold Func.isWrapper; first | (rw [if_pos (by decide +kernel)]; kernel_rfl) | (rw [if_neg (by decide +kernel)]; exact ⟨rfl, rfl⟩))
    (fun os started H enc _ F => by rw [OpenClaim.pre_eq_preRow]; exact lifted os started H enc F)
end CResultsMake

theorem resultsMakeUpto_card_holds : Rows.ResultsMakeUptoCardSaid :=
  Claim7.holds_tied_plain_at .later [] [.data, .data, .data, .data, .pinned] true Rows.resultsMakeUptoCard.stood.harness Rows.resultsMakeUptoCard.stood.looks
    CResultsMake.holds (fun _ h => by cases h) (by kernel_rfl) (fun _ h => by cases h) resultsMakeUpto_row_tie rfl ⟨rfl, rfl⟩ (by kernel_rfl) rfl
    (fun f fn hf hfn => by
      obtain rfl : f = 5 := Option.some.inj ((show Tryd.prog.funcNamed Rows.resultsMakeUptoRow.func = some 5 by kernel_rfl).symm.trans hf) |>.symm
      obtain rfl : fn = Tryd.f5 := (Option.some.inj (Tryd.func5.symm.trans hfn)).symm
      exact ⟨by kernel_rfl, fun j t ht => by
        rw [Tryd.params5] at ht
        have hm : t ∈ [9, 47, 48, 49, 50] := by simpa using Array.mem_of_getElem? ht
        have hall : ([9, 47, 48, 49, 50].all fun u => !Tryd.prog.wantsStandIn u) = true := by kernel_rfl
        exact (show Tryd.prog.wantsStandIn t = false by simpa using List.all_eq_true.1 hall t hm)⟩)
    (by kernel_rfl)
end Go.Proofs.YtdgmbmoaeoakpaaDoor
