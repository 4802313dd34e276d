/- What is read is of one kind, and made again it is read as the same; for a value of bounded bulk: the given statement, its tables tied to the program's text. Conditions: none. -/
import Derived.Test.YtagafedkfkmkbaaGreatDoorMO52
import Derived.Test.YtagafedkfkmkbaaGreatDoorMO53
import Derived.Test.YtagafedkfkmkbaaGreatDoorCards
import Derived.Test.YtagafedkfkmkbaaGreatDoorTie
import Derived.SevenTiedAt
import Derived.Carry
import Derived.Lay
import Derived.Lib.SmallJoins
import Derived.PinnedBridge
import Derived.Lib.LaidIn
import Derived.Lib.LaidU8T
import Derived.MakeChecks
import Derived.ProofKit
import Derived.LaidMore
import Derived.OpenShut
namespace Go.Proofs.YtagafedkfkmkbaaGreatDoor
open Go Go.ChangeShapes Go.WideShapes Go.ChangeAt Go.RowKit Go.Lib
open Go.ChangeMaps (open_string shut_string)

namespace CRpcOne
theorem own : ownKnob Tryz.prog.godebug = none := by kernel_rfl
def tables : List (String × DataW Unit) := Rows.rpcOneUptoRow.laid
def nameA : String := (tables.map (·.1)).getD 3 ( "")
def nameF : String := (tables.map (·.1)).getD 6 ( "")
theorem accept_eq : Rows.laid_unicode_utf8_acceptRanges = Lib.acceptData := by kernel_rfl
theorem first_eq : Rows.laid_unicode_utf8_first = Lib.firstData := Pinned.utf8First_eq
theorem mem_a : (nameA, (Rows.laid_unicode_utf8_acceptRanges : DataW Unit)) ∈ tables := (.tail _ (.tail _ (.tail _ (.head _))))
theorem mem_f : (nameF, Rows.laid_unicode_utf8_first) ∈ tables := (.tail _ (.tail _ (.tail _ (.tail _ (.tail _ (.tail _ (.head _)))))))
theorem tabs_of_laid {W : World} (h : laidMetH Tryz.prog tables W) : Tabs W := by
  rw [MakeChecks.laidMetH_plain _ _ _ (by kernel_rfl)] at h
  have ha := mem_a
  have hf := mem_f
  rw [accept_eq] at ha
  rw [first_eq] at hf
  exact utf8Tabs_of_readsT ⟨Tryz.laysDecode.t5, Tryz.laysDecode.t119, Tryz.laysDecode.t138, Tryz.laysDecode.t139⟩ ⟨by kernel_rfl, by kernel_rfl, by kernel_rfl, by kernel_rfl, by kernel_rfl, by kernel_rfl, by kernel_rfl⟩ (Lib.laidMet.reads h hf) (Lib.laidMet.reads h ha)

def nameP : String := (tables.map (·.1)).getD 2 ( "")
theorem pow_eq : (Rows.laid_internal_strconv_uint64pow10 : DataW Unit) = Lib.tabData .u64 Lib.pow10Tab := by kernel_rfl
theorem mem_p : (nameP, (Rows.laid_internal_strconv_uint64pow10 : DataW Unit)) ∈ tables := (.tail _ (.tail _ (.head _)))
theorem nameP_is : nameP = "internal/strconv.uint64pow10" := by kernel_rfl
theorem pow_of_laid {W : World} (h : laidMetH Tryz.prog tables W) : PowTab W := by
  rw [MakeChecks.laidMetH_plain _ _ _ (by kernel_rfl)] at h
  have hp := mem_p
  rw [pow_eq, nameP_is] at hp
  obtain ⟨g, t, cs, fuel, p, hg, ht, hv, hd⟩ := Lib.laidMet.reads h hp
  have hg2 : Tryz.prog.globalNamed "internal/strconv.uint64pow10" = some 4 := by kernel_rfl
  obtain rfl := Option.some.inj (hg2.symm.trans hg)
  have ht2 : (Tryz.prog.globals[4]?).map (·.type) = some 311 := by kernel_rfl
  obtain rfl := Option.some.inj (ht2.symm.trans ht)
  have hc := Lib.cells_of_tab (n := 20) (e := 257) Tryz.underlying311 Tryz.underlying257 (by kernel_rfl) (by kernel_rfl) hd
  show W.var? Tryz.prog _ = _
  rw [hv, ← hc]
def nameE : String := (tables.map (·.1)).getD 4 ( "")
theorem mem_e : (nameE, (Rows.laid_strconv_ErrRange : DataW Unit)) ∈ tables := (.tail _ (.tail _ (.tail _ (.tail _ (.head _)))))
theorem nameE_is : nameE = "strconv.ErrRange" := by kernel_rfl
theorem err_of_laid {W : World} (h : laidMetH Tryz.prog tables W) : ErrC W := by
  rw [MakeChecks.laidMetH_plain _ _ _ (by kernel_rfl)] at h
  have he := mem_e
  rw [nameE_is] at he
  obtain ⟨g, t, cs, fuel, p, hg, ht, hv, hd⟩ := Lib.laidMet.reads h he
  have hg2 : Tryz.prog.globalNamed "strconv.ErrRange" = some 3 := by kernel_rfl
  obtain rfl := Option.some.inj (hg2.symm.trans hg)
  have ht2 : (Tryz.prog.globals[3]?).map (·.type) = some 113 := by kernel_rfl
  obtain rfl := Option.some.inj (ht2.symm.trans ht)
  have hc := World.var?_cell hg2 hv 0
  rcases trod_err Tryz.underlying113 hd with e | ⟨u, v, e⟩
  · have e2 : cs[0]? = some .nilIface := by rw [← Array.getElem?_toList, e]; rfl
    exact ⟨_, hc.trans e2, .inl rfl⟩
  · have e2 : cs[0]? = some (.iface u v) := by rw [← Array.getElem?_toList, e]; rfl
    exact ⟨_, hc.trans e2, .inr ⟨u, v, rfl⟩⟩
set_option maxRecDepth 100000 in
theorem lifted (os : Os) (started : os.Started) (H : Type) (enc : TypeId × Value → H) (F : Stop.Interp) :
    ReturnsInHanded {} Tryz.checked os 4 .any ((Rows.OpenSpec.upto Rows.rpcOneSpec).preRow enc Tryz.prog Tryz.f4 Rows.rpcOneUptoRow.domain false tables) (((Rows.OpenSpec.upto Rows.rpcOneSpec).at F).post enc Tryz.prog Tryz.f4 false true false false) := by
  refine returnsInHanded_of_row (C := Tryz.checked) (s := Rows.OpenSpec.upto Rows.rpcOneSpec) own started (by kernel_rfl) Tryz.func4
    (witness_upto (enc := enc) (C := Tryz.checked) (os := os) false (World.laidAll Tryz.prog os tables) #[.agg #[.int .u8 0, .string ⟨#[]⟩, .slice none 0 0, .slice none 0 0]] 8 (World.laidAll_os _ _ _)
      (World.shaped_of_ZipB (by kernel_rfl) (by kernel_rfl)) (by kernel_rfl) (by kernel_rfl) (by kernel_rfl)
      (by rw [MakeChecks.laidMetH_plain _ _ _ (by kernel_rfl)]; exact laidMet_laidAll _ (by kernel_rfl) (by kernel_rfl))) ?_
  intro W base args ds gs before hval0 hW _ hcond hsz hL hsh _
  have hk := hcond _ rfl
  have hval : ∀ (j : Nat) t v, Tryz.f4.params[j]? = some t → args[j]? = some v → Value.okWide Tryz.prog W .any base t v := hval0
  have hW' := hW
  obtain ⟨p, q, hA0, hV, rfl, _, _⟩ := hW
  have hA : DataW.TrodAll enc Tryz.prog W 0 (fun _ => true) true Tryz.f4.params.toList args.toList ds p := hA0
  rw [Tryz.params4] at hA hval
  obtain ⟨v0, d0, rfl, rfl, h0⟩ := trodAll_one hA
  obtain ⟨rfl, rfl⟩ := trodVars_none hV
  have q0 : ∀ x ∈ p, x.block < W.heap.size := fun x hx => DataW.TrodAll.lt hA x (hx)
  have r0 := Bulk.arg hk (d := d0) (by simp)
  obtain ⟨k0, x0, y0, z0, l0, f0, rfl, kk0, xx0, ll0, ff0⟩ := value_argU (hval 0 25 v0 rfl rfl) h0 r0
  clear hA0 hval0
  simp only [List.append_nil] at hW'
  refine (oneLaw_card k0 x0 y0 z0 l0 f0 W kk0 xx0 ll0 ff0 (pow_of_laid hL) (tabs_of_laid hL) (err_of_laid hL)).mono fun e W' ⟨he, hw⟩ => ?_
  subst he
  have e1 : ((Rows.OpenSpec.upto Rows.rpcOneSpec).at F).fn H ([d0] ++ []) = { results := [.lit (.bool true)], args := [d0] } := rfl
  refine ⟨_, rfl, _, _, _, [], p, [], hW', ?_, ?_, ?_, hw.frame _, fun h => by cases h⟩
  · rw [e1]; exact trodAll_mk1 (shut_bool Tryz.underlying4 _)
  · rw [e1]; exact trodAll_mk1 (Below.trod (by kernel_rfl) (by kernel_rfl) (of_decide_eq_true (by kernel_rfl)) h0 hw q0)
  · rw [e1]; rfl

theorem holds : Rows.RpcOneUptoSaid :=
  OpenClaim.holds_of_cond 4 Tryz.f4 rfl rfl rfl rfl rfl rfl rfl ⟨rfl, rfl, rfl, rfl, rfl⟩ rfl rfl rfl rfl rfl (by kernel_rfl) Tryz.func4 (by kernel_rfl)
    (of_decide_eq_true (by kernel_rfl)) (by unfold Func.isWrapper; first | (rw [if_pos (by decide +kernel)]; kernel_rfl) | (rw [if_neg (by decide +kernel)]; exact ⟨rfl, rfl⟩))
    (fun os started H enc _ F => by rw [OpenClaim.pre_eq_preRow]; exact lifted os started H enc F)
end CRpcOne

theorem rpcOneUpto_card_holds : Rows.RpcOneUptoCardSaid :=
  Claim7.holds_tied_plain_at .later [] [.data, .data, .data, .data, .sentinel, .sentinel, .pinned] true Rows.rpcOneUptoCard.stood.harness Rows.rpcOneUptoCard.stood.looks
    CRpcOne.holds (fun _ h => by cases h) (by kernel_rfl) (fun _ h => by cases h) rpcOneUpto_row_tie rfl ⟨rfl, rfl⟩ (by kernel_rfl) rfl
    (fun f fn hf hfn => by
      obtain rfl : f = 4 := Option.some.inj ((show Tryz.prog.funcNamed Rows.rpcOneUptoRow.func = some 4 by kernel_rfl).symm.trans hf) |>.symm
      obtain rfl : fn = Tryz.f4 := (Option.some.inj (Tryz.func4.symm.trans hfn)).symm
      exact ⟨by kernel_rfl, fun j t ht => by
        rw [Tryz.params4] at ht
        have hm : t ∈ [25] := by simpa using Array.mem_of_getElem? ht
        have hall : ([25].all fun u => !Tryz.prog.wantsStandIn u) = true := by kernel_rfl
        exact (show Tryz.prog.wantsStandIn t = false by simpa using List.all_eq_true.1 hall t hm)⟩)
    (by kernel_rfl)
end Go.Proofs.YtagafedkfkmkbaaGreatDoor
