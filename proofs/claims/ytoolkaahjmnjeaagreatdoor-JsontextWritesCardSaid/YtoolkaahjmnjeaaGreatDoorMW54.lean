/- Any value is written as the document says, or may not be: the given statement, its tables tied to the program's text. Conditions: none. -/
import Derived.Test.YtoolkaahjmnjeaaGreatDoorMW52
import Derived.Test.YtoolkaahjmnjeaaGreatDoorMW53
import Derived.Test.YtoolkaahjmnjeaaGreatDoorCards
import Derived.Test.YtoolkaahjmnjeaaGreatDoorTie
import Derived.SevenTiedAt
import Derived.Carry
import Derived.Lay
import Derived.Lib.SmallJoins
import Derived.PinnedBridge
import Derived.Lib.LaidIn
import Derived.Lib.LaidU8T
import Derived.MakeChecks
import Derived.ProofKit
import Derived.LaidMore
import Derived.OpenShut
namespace Go.Proofs.YtoolkaahjmnjeaaGreatDoor
open Go Go.ChangeShapes Go.WideShapes Go.ChangeAt Go.RowKit Go.Lib
open Go.ChangeMaps (open_string shut_string)

namespace CJsontextWrites
theorem own : ownKnob Tryz.prog.godebug = none := by kernel_rfl
def tables : List (String × DataW Unit) := Rows.jsontextWritesRow.laid
def nameA : String := (tables.map (·.1)).getD 3 ( "")
def nameF : String := (tables.map (·.1)).getD 6 ( "")
theorem accept_eq : Rows.laid_unicode_utf8_acceptRanges = Lib.acceptData := by kernel_rfl
theorem first_eq : Rows.laid_unicode_utf8_first = Lib.firstData := Pinned.utf8First_eq
theorem mem_a : (nameA, (Rows.laid_unicode_utf8_acceptRanges : DataW Unit)) ∈ tables := (.tail _ (.tail _ (.tail _ (.head _))))
theorem mem_f : (nameF, Rows.laid_unicode_utf8_first) ∈ tables := (.tail _ (.tail _ (.tail _ (.tail _ (.tail _ (.tail _ (.head _)))))))
theorem tabs_of_laid {W : World} (h : laidMetH Tryz.prog tables W) : Tabs W := by
  rw [MakeChecks.laidMetH_plain _ _ _ (by kernel_rfl)] at h
  have ha := mem_a
  have hf := mem_f
  rw [accept_eq] at ha
  rw [first_eq] at hf
  exact utf8Tabs_of_readsT ⟨Tryz.laysDecode.t5, Tryz.laysDecode.t119, Tryz.laysDecode.t138, Tryz.laysDecode.t139⟩ ⟨by kernel_rfl, by kernel_rfl, by kernel_rfl, by kernel_rfl, by kernel_rfl, by kernel_rfl, by kernel_rfl⟩ (Lib.laidMet.reads h hf) (Lib.laidMet.reads h ha)

def nameE : String := (tables.map (·.1)).getD 4 ( "")
theorem mem_e : (nameE, (Rows.laid_strconv_ErrRange : DataW Unit)) ∈ tables := (.tail _ (.tail _ (.tail _ (.tail _ (.head _)))))
theorem nameE_is : nameE = "strconv.ErrRange" := by kernel_rfl
theorem err_of_laid {W : World} (h : laidMetH Tryz.prog tables W) : ErrC W := by
  rw [MakeChecks.laidMetH_plain _ _ _ (by kernel_rfl)] at h
  have he := mem_e
  rw [nameE_is] at he
  obtain ⟨g, t, cs, fuel, p, hg, ht, hv, hd⟩ := Lib.laidMet.reads h he
  have hg2 : Tryz.prog.globalNamed "strconv.ErrRange" = some 3 := by kernel_rfl
  obtain rfl := Option.some.inj (hg2.symm.trans hg)
  have ht2 : (Tryz.prog.globals[3]?).map (·.type) = some 85 := by kernel_rfl
  obtain rfl := Option.some.inj (ht2.symm.trans ht)
  have hc := World.var?_cell hg2 hv 0
  rcases trod_err Tryz.underlying85 hd with e | ⟨u, v, e⟩
  · have e2 : cs[0]? = some .nilIface := by rw [← Array.getElem?_toList, e]; rfl
    exact ⟨_, hc.trans e2, .inl rfl⟩
  · have e2 : cs[0]? = some (.iface u v) := by rw [← Array.getElem?_toList, e]; rfl
    exact ⟨_, hc.trans e2, .inr ⟨u, v, rfl⟩⟩
set_option maxRecDepth 100000 in
theorem lifted (os : Os) (started : os.Started) (H : Type) (enc : TypeId × Value → H) :
    ReturnsInHanded {} Tryz.checked os 3 .any (fun w args => (Rows.jsontextWritesSpec.pre enc Tryz.prog Tryz.f3 Rows.jsontextWritesRow.domain false w args ∧ laidMetH Tryz.prog tables w) ∧ sizedMet enc Tryz.prog Tryz.f3 (OpenSpec.ofChange Rows.jsontextWritesSpec) false w args)
      (Rows.jsontextWritesSpec.post enc Tryz.prog Tryz.f3 false true false false) := by
  refine returnsInHanded_of_change_and (C := Tryz.checked) (X := fun w _ => laidMetH Tryz.prog tables w) (fun _ _ _ hh h => h.of_heap hh) own started (by kernel_rfl) Tryz.func3
    (ChangeSpec.witness_shaped (enc := enc) (C := Tryz.checked) (os := os) (X := fun w _ => laidMetH Tryz.prog tables w) false (World.laidAll Tryz.prog os tables) #[.agg #[.int .u8 0, .string ⟨#[]⟩, .slice none 0 0, .slice none 0 0], .agg #[.int .u8 0, .string ⟨#[]⟩, .slice none 0 0, .slice none 0 0]] 8 (World.laidAll_os _ _ _)
      (World.shaped_of_ZipB (by kernel_rfl) (by kernel_rfl)) (by kernel_rfl) (by kernel_rfl) (by kernel_rfl)
      (by rw [MakeChecks.laidMetH_plain _ _ _ (by kernel_rfl)]; exact laidMet_laidAll _ (by kernel_rfl) (by kernel_rfl))) ?_
  intro W base args ds gs before hval0 hW _ hsz hL _
  have hval : ∀ (j : Nat) t v, Tryz.f3.params[j]? = some t → args[j]? = some v → Value.okWide Tryz.prog W .any base t v := hval0
  have hW' := hW
  obtain ⟨p, q, hA0, hV, rfl, _, _⟩ := hW
  have hA : DataW.TrodAll enc Tryz.prog W 0 (fun _ => true) true Tryz.f3.params.toList args.toList ds p := hA0
  rw [Tryz.params3] at hA hval
  obtain ⟨v0, v1, d0, d1, p0, p1, rfl, rfl, rfl, h0, h1⟩ := trodAll_two hA
  obtain ⟨rfl, rfl⟩ := trodVars_none hV
  have q0 : ∀ x ∈ p0, x.block < W.heap.size := fun x hx => DataW.TrodAll.lt hA x (List.mem_append_left _ hx)
  have q1 : ∀ x ∈ p1, x.block < W.heap.size := fun x hx => DataW.TrodAll.lt hA x (List.mem_append_right _ hx)
  have r0 : Reach (d0.weights Tryz.prog 25) := fun n hn => by
    have h := List.all_eq_true.1 hsz n (DataW.weights_mem_each (j := 0) (t := 25) (d := d0) (by rw [Tryz.params3]; rfl) rfl n hn)
    exact of_decide_eq_true h
  obtain ⟨k0, x0, y0, z0, l0, f0, rfl, kk0, xx0, ll0, ff0⟩ := value_arg (hval 0 25 v0 rfl rfl) h0 r0
  have r1 : Reach (d1.weights Tryz.prog 25) := fun n hn => by
    have h := List.all_eq_true.1 hsz n (DataW.weights_mem_each (j := 1) (t := 25) (d := d1) (by rw [Tryz.params3]; rfl) rfl n hn)
    exact of_decide_eq_true h
  obtain ⟨k1, x1, y1, z1, l1, f1, rfl, kk1, xx1, ll1, ff1⟩ := value_arg (hval 1 25 v1 rfl rfl) h1 r1
  clear hA0 hval0
  simp only [List.append_nil] at hW'
  refine (writesLaw k0 x0 y0 z0 l0 f0 k1 x1 y1 z1 l1 f1 W kk0 xx0 ll0 ff0 kk1 xx1 ll1 ff1 (tabs_of_laid hL) (err_of_laid hL)).mono fun e W' ⟨he, hw⟩ => ?_
  subst he
  have e1 : Rows.jsontextWritesSpec.fn H ([d0, d1] ++ []) = { results := [.lit (.bool true)], args := [d0, d1] } := rfl
  refine ⟨_, rfl, _, _, _, [], p0 ++ p1, [], hW', ?_, ?_, ?_, hw.frame _, fun h => by cases h⟩
  · rw [e1]; exact trodAll_mk1 (shut_bool Tryz.underlying4 _)
  · rw [e1]; exact trodAll_mk2 (Below.trod (by kernel_rfl) (by kernel_rfl) (of_decide_eq_true (by kernel_rfl)) h0 hw q0) (Below.trod (by kernel_rfl) (by kernel_rfl) (of_decide_eq_true (by kernel_rfl)) h1 hw q1)
  · rw [e1]; rfl

theorem holds : Rows.JsontextWritesSaid :=
  OpenClaim.holds_of_wide 3 Tryz.f3 rfl rfl rfl rfl rfl rfl rfl ⟨rfl, rfl, rfl, rfl, rfl⟩ rfl rfl rfl rfl rfl (by kernel_rfl) Tryz.func3 (by kernel_rfl)
    (of_decide_eq_true (by kernel_rfl)) (by unfold Func.isWrapper; first | (rw [if_pos (by decide +kernel)]; kernel_rfl) | (rw [if_neg (by decide +kernel)]; exact ⟨rfl, rfl⟩))
    (fun os started H enc _ => lifted os started H enc)
end CJsontextWrites

theorem jsontextWrites_card_holds : Rows.JsontextWritesCardSaid :=
  Claim7.holds_tied_plain_at .later [] [.data, .data, .data, .data, .sentinel, .sentinel, .pinned] true Rows.jsontextWritesCard.stood.harness Rows.jsontextWritesCard.stood.looks
    CJsontextWrites.holds (fun _ h => by cases h) (by kernel_rfl) (fun _ h => by cases h) jsontextWrites_row_tie rfl ⟨rfl, rfl⟩ (by kernel_rfl) rfl
    (fun f fn hf hfn => by
      obtain rfl : f = 3 := Option.some.inj ((show Tryz.prog.funcNamed Rows.jsontextWritesRow.func = some 3 by kernel_rfl).symm.trans hf) |>.symm
      obtain rfl : fn = Tryz.f3 := (Option.some.inj (Tryz.func3.symm.trans hfn)).symm
      exact ⟨by kernel_rfl, fun j t ht => by
        rw [Tryz.params3] at ht
        have hm : t ∈ [25] := by simpa using Array.mem_of_getElem? ht
        have hall : ([25].all fun u => !Tryz.prog.wantsStandIn u) = true := by kernel_rfl
        exact (show Tryz.prog.wantsStandIn t = false by simpa using List.all_eq_true.1 hall t hm)⟩)
    (by kernel_rfl)
end Go.Proofs.YtoolkaahjmnjeaaGreatDoor
