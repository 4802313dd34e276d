/- Whatever is told is made the value that the chapter says: the given law, walked. Conditions: arguments of at most 2^20 bytes and elements; the library's tables. -/
import Derived.Test.YtdgmbmoaeoakpaaDoorMC36
import Derived.Test.YtdgmbmoaeoakpaaDoorMC39
import Derived.Test.YtdgmbmoaeoakpaaDoorMC40
import Derived.Test.YtdgmbmoaeoakpaaDoorMC45
import Derived.Test.YtdgmbmoaeoakpaaDoorMC49
import Derived.Test.YtdgmbmoaeoakpaaDoorProg
import Derived.Carry
import Derived.Deep.DeepHandedRow
import Derived.LaidLaws
namespace Go.Proofs.YtdgmbmoaeoakpaaDoor
open Go Go.RowKit Go.Lib

def TrueM (w : World) (e : Ending) (w' : World) : Prop := e = .returned (.bool true) ∧ Below w.heap.size w w'
theorem sameVF_any {N N' k : Nat} {x : ByteArray} {l f : V.T} {y y' : Value} {w : World} (h : VF N k x l f y w) (h' : VF N' k x l f y' w) : Calls Tryd.prog 9 #[y, y'] w (Bools true w) := by
  obtain ⟨p, n, c, q, m, d, rfl, h1, h2⟩ := h
  obtain ⟨p', n', c', q', m', d', rfl, h3, h4⟩ := h'
  have := same_any (l.size + f.size + 1) k x _ _ l f k x _ _ l f _ _ w (Nat.lt_succ_self _) h1 h2 h3 h4
  rw [V.veq_self] at this
  exact this
set_option maxHeartbeats 4000000 in
set_option maxRecDepth 100000 in
theorem make8_card (id : ByteArray) (v1 : Value) (li : List Int) (v2 : Value) (ls : List Sp) (v3 : Value) (fo : List Fo) (v4 : Value) (ch : List Ch) (w : World) (hid0 : id.data.toList.length ≤ 1048576) (h1 : SrcI w v1 li ∧ li.length ≤ 1048576) (h2 : ArgSp w v2 ls) (h3 : ArgFo w v3 fo) (h4 : ArgCh w v4 ch) (hP : PowTab w) (hT : Tabs w) :
    Calls Tryd.prog 5 #[.string id, v1, v2, v3, v4] w (TrueM w) := by
  have hid : id.size ≤ 1048576 := by rw [Array.length_toList] at hid0; exact hid0
  have HPo := Lib.hid (fun W (h : Below w.heap.size w W) => pow_below hP h)
  have HTo := Lib.hid (fun W (h : Below w.heap.size w W) => tabs_below hT h)
  have HGr := Lib.hid (great_args w (Below.refl _ _) h1 h2 h3 h4)
  have H1 : Hid (∀ W, Below w.heap.size w W → Few li.length ls.length fo.length ch.length (lnS ls) (lnC ch) → Calls Tryd.prog 24 #[.string id, v1] W (RetV 0 6 ⟨#[]⟩ .nil (full_anyT id li) W)) := Lib.hid (fun W hB hf => by
    obtain ⟨p1, c1, rfl⟩ := srcI_sl h1.1
    exact full_any id _ _ _ _ 0 W (by omega) (h1.1.below hB) (by have := hf.1; omega) (Nat.zero_le _) (HPo.out _ hB) (HTo.out _ hB))
  have R1 : Hid (∀ W, Below w.heap.size w W → Few li.length ls.length fo.length ch.length (lnS ls) (lnC ch) → Calls Tryd.prog 25 #[.string id, v1] W (RetV W.heap.size 6 ⟨#[]⟩ .nil (full_anyT id li) W)) := Lib.hid (fun W hB hf =>
    refFull_any id v1 li W (by omega) (h1.1.below hB) (by have := hf.1; omega))
  have H2 : Hid (∀ W, Below w.heap.size w W → Few li.length ls.length fo.length ch.length (lnS ls) (lnC ch) → Calls Tryd.prog 26 #[.string id, v2] W (RetV 0 6 ⟨#[]⟩ .nil (delta_anyT id ls) W)) := Lib.hid (fun W hB hf => by
    have hs := srcS_of h2 (fun e he => Nat.le_trans (few_S hf e he) (by decide))
    obtain ⟨p2, c2, rfl, _⟩ := src_sl h2.1
    exact delta_any id _ _ _ _ 0 W (by omega) (hs.below hB) (by have := hf.1; omega) (Nat.zero_le _) (HPo.out _ hB) (HTo.out _ hB))
  have R2 : Hid (∀ W, Below w.heap.size w W → Few li.length ls.length fo.length ch.length (lnS ls) (lnC ch) → Calls Tryd.prog 27 #[.string id, v2] W (RetV W.heap.size 6 ⟨#[]⟩ .nil (delta_anyT id ls) W)) := Lib.hid (fun W hB hf =>
    refDelta_any id v2 ls W (by omega) ((srcS_of h2 (fun e he => Nat.le_trans (few_S hf e he) (by decide))).below hB) (by have := hf.1; omega))
  have H3 : Hid (∀ W, Below w.heap.size w W → Few li.length ls.length fo.length ch.length (lnS ls) (lnC ch) → Calls Tryd.prog 28 #[v3] W (RetV 0 5 ⟨#[]⟩ (listFoT fo) .nil W)) := Lib.hid (fun W hB hf => by
    have hs := srcF_of h3
    obtain ⟨p3, c3, rfl, _⟩ := src_sl h3.1
    exact folds_any _ _ _ _ 0 W (Nat.zero_le _) (hs.below hB) (by have := hf.1; omega) (HPo.out _ hB) (HTo.out _ hB))
  have R3 : Hid (∀ W, Below w.heap.size w W → Few li.length ls.length fo.length ch.length (lnS ls) (lnC ch) → Calls Tryd.prog 29 #[v3] W (RetV W.heap.size 5 ⟨#[]⟩ (listFoT fo) .nil W)) := Lib.hid (fun W hB hf =>
    refFolds_any v3 fo W ((srcF_of h3).below hB) (by have := hf.1; omega))
  have H4 : Hid (∀ W, Below w.heap.size w W → Few li.length ls.length fo.length ch.length (lnS ls) (lnC ch) → Calls Tryd.prog 30 #[v4] W (RetV 0 5 ⟨#[]⟩ (listChT ch) .nil W)) := Lib.hid (fun W hB hf => by
    have hs := srcC_of h4 (fun e he => Nat.le_trans (few_C hf e he) (by decide))
    obtain ⟨p4, c4, rfl, _⟩ := src_sl h4.1
    exact chains_any _ _ _ _ 0 W (Nat.zero_le _) (hs.below hB) (by have := hf.1; omega) (HPo.out _ hB))
  have R4 : Hid (∀ W, Below w.heap.size w W → Few li.length ls.length fo.length ch.length (lnS ls) (lnC ch) → Calls Tryd.prog 31 #[v4] W (RetV W.heap.size 5 ⟨#[]⟩ (listChT ch) .nil W)) := Lib.hid (fun W hB hf =>
    refChains_any v4 ch W ((srcC_of h4 (fun e he => Nat.le_trans (few_C hf e he) (by decide))).below hB) (by have := hf.1; omega))
  clear hP hT h1 h2 h3 h4 hid hid0
  go_enter Tryd.func5, Tryd.ntmps5
  go_wp2_with fail
  refine HGr.out.mono ?_
  rintro e w2 ⟨ok, rfl, rfl, hF⟩
  have B1 := Lib.hid (Below.refl w2.heap.size w2)
  cases ok
  · have HF := Lib.hid (hF rfl)
    clear hF
    go_wp2_with fail
    refine (H1.out w2 B1.out HF.out).mono ?_
    rintro e wa1 ⟨ya1, rfl, hv, hB⟩
    have BB1 := Lib.hid (B1.out.trans (hB.mono B1.out.size))
    have HV := Lib.hid hv
    clear hv hB
    go_wp2_with fail
    refine (R1.out wa1 BB1.out HF.out).mono ?_
    rintro e wb1 ⟨yb1, rfl, hv, hB⟩
    have BC1 := Lib.hid (BB1.out.trans (hB.mono BB1.out.size))
    have HM := Lib.hid (sameVF_any (HV.out.on hB) hv)
    clear hv hB HV
    go_wp2_with fail
    refine HM.out.mono ?_
    rintro e wc1 ⟨rfl, hB⟩
    have BD1 := Lib.hid (BC1.out.trans (hB.mono BC1.out.size))
    clear hB HM
    go_wp2_with fail
    refine (H2.out wc1 BD1.out HF.out).mono ?_
    rintro e wa2 ⟨ya2, rfl, hv, hB⟩
    have BB2 := Lib.hid (BD1.out.trans (hB.mono BD1.out.size))
    have HV := Lib.hid hv
    clear hv hB
    go_wp2_with fail
    refine (R2.out wa2 BB2.out HF.out).mono ?_
    rintro e wb2 ⟨yb2, rfl, hv, hB⟩
    have BC2 := Lib.hid (BB2.out.trans (hB.mono BB2.out.size))
    have HM := Lib.hid (sameVF_any (HV.out.on hB) hv)
    clear hv hB HV
    go_wp2_with fail
    refine HM.out.mono ?_
    rintro e wc2 ⟨rfl, hB⟩
    have BD2 := Lib.hid (BC2.out.trans (hB.mono BC2.out.size))
    clear hB HM
    go_wp2_with fail
    refine (H3.out wc2 BD2.out HF.out).mono ?_
    rintro e wa3 ⟨ya3, rfl, hv, hB⟩
    have BB3 := Lib.hid (BD2.out.trans (hB.mono BD2.out.size))
    have HV := Lib.hid hv
    clear hv hB
    go_wp2_with fail
    refine (R3.out wa3 BB3.out HF.out).mono ?_
    rintro e wb3 ⟨yb3, rfl, hv, hB⟩
    have BC3 := Lib.hid (BB3.out.trans (hB.mono BB3.out.size))
    have HM := Lib.hid (sameVF_any (HV.out.on hB) hv)
    clear hv hB HV
    go_wp2_with fail
    refine HM.out.mono ?_
    rintro e wc3 ⟨rfl, hB⟩
    have BD3 := Lib.hid (BC3.out.trans (hB.mono BC3.out.size))
    clear hB HM
    go_wp2_with fail
    refine (H4.out wc3 BD3.out HF.out).mono ?_
    rintro e wa4 ⟨ya4, rfl, hv, hB⟩
    have BB4 := Lib.hid (BD3.out.trans (hB.mono BD3.out.size))
    have HV := Lib.hid hv
    clear hv hB
    go_wp2_with fail
    refine (R4.out wa4 BB4.out HF.out).mono ?_
    rintro e wb4 ⟨yb4, rfl, hv, hB⟩
    have BC4 := Lib.hid (BB4.out.trans (hB.mono BB4.out.size))
    have HM := Lib.hid (sameVF_any (HV.out.on hB) hv)
    clear hv hB HV
    go_wp2_with fail
    refine HM.out.mono ?_
    rintro e wc4 ⟨rfl, hB⟩
    have BD4 := Lib.hid (BC4.out.trans (hB.mono BC4.out.size))
    clear hB HM
    go_wp2_with fail
    go_ret
    exact ⟨rfl, BD4.out⟩
  · clear hF
    go_wp2_with fail
    go_ret
    exact ⟨rfl, B1.out⟩
end Go.Proofs.YtdgmbmoaeoakpaaDoor

namespace Go.Proofs.YtdgmbmoaeoakpaaDoor
open Go Go.RowKit Go.ChangeShapes

section
variable {H : Type} {enc : TypeId × Value → H} {P : Program} {w : World} {base : Nat} {spare : Nat → Bool} {held : Bool}
theorem trodAll_five {t t' t'' t3 t4 : TypeId} {args : Array Value} {ds : List (DataW H)} {ps : List MemPlace} (h : DataW.TrodAll enc P w base spare held [t, t', t'', t3, t4] args.toList ds ps) :
    ∃ v v' v'' v3 v4 d d' d'' d3 d4 p p' p'' p3 p4, args = #[v, v', v'', v3, v4] ∧ ds = [d, d', d'', d3, d4] ∧ ps = p ++ p' ++ p'' ++ p3 ++ p4 ∧ DataW.Trod enc P w base spare held t v d p ∧ DataW.Trod enc P w base spare held t' v' d' p' ∧ DataW.Trod enc P w base spare held t'' v'' d'' p'' ∧ DataW.Trod enc P w base spare held t3 v3 d3 p3 ∧ DataW.Trod enc P w base spare held t4 v4 d4 p4 := by
  obtain ⟨v, vs, d, ds', p, q, hargs, rfl, rfl, hd, hrest⟩ := trodAll_cons h
  obtain ⟨v', vs', d', ds'', p', q', rfl, rfl, rfl, hd', hrest'⟩ := trodAll_cons hrest
  obtain ⟨v'', vs'', d'', ds''', p'', q'', rfl, rfl, rfl, hd'', hrest''⟩ := trodAll_cons hrest'
  obtain ⟨v3, vs3, d3, ds3, p3, q3, rfl, rfl, rfl, hd3, hrest3⟩ := trodAll_cons hrest''
  obtain ⟨v4, vs4, d4, ds4, p4, q4, rfl, rfl, rfl, hd4, hrest4⟩ := trodAll_cons hrest3
  obtain ⟨rfl, rfl, rfl⟩ := trodAll_nil hrest4
  exact ⟨v, v', v'', v3, v4, d, d', d'', d3, d4, p, p', p'', p3, p4, by cases args; simp_all, rfl, by simp, hd, hd', hd'', hd3, hd4⟩
theorem trodAll_mk5 {t t' t'' t3 t4 : TypeId} {v v' v'' v3 v4 : Value} {d d' d'' d3 d4 : DataW H} {p p' p'' p3 p4 : List MemPlace} (h : DataW.Trod enc P w base spare held t v d p) (h' : DataW.Trod enc P w base spare held t' v' d' p')
    (h'' : DataW.Trod enc P w base spare held t'' v'' d'' p'') (h3 : DataW.Trod enc P w base spare held t3 v3 d3 p3) (h4 : DataW.Trod enc P w base spare held t4 v4 d4 p4) : DataW.TrodAll enc P w base spare held [t, t', t'', t3, t4] [v, v', v'', v3, v4] [d, d', d'', d3, d4] (p ++ (p' ++ (p'' ++ (p3 ++ p4)))) := ⟨p, p' ++ (p'' ++ (p3 ++ p4)), h, trodAll_mk4 h' h'' h3 h4, rfl⟩
end
end Go.Proofs.YtdgmbmoaeoakpaaDoor

namespace Go.Proofs.YtdgmbmoaeoakpaaDoor
open Go

theorem witness_upto {H : Type} {enc : TypeId × Value → H} {C : Checked} {os : Os} {f : FuncId} {fn : Func} {s : OpenSpec} {conds : List PathCond} {apart : Bool} {laid : List (String × DataW Unit)} (modest : Bool) (w0 : World) (args : Array Value) (fuel : Nat) (hos : w0.os = os)
    (hsh : (w0.forCall (fun _ _ => 0) ⟨#[], args, []⟩).Shaped C.prog)
    (hok : Input.okWideB C.prog (w0.forCall (fun _ _ => 0) ⟨#[], args, []⟩) f ⟨#[], args, []⟩ = true)
    (hw : ((DataW.whole enc C.prog (w0.forCall (fun _ _ => 0) ⟨#[], args, []⟩).memory fn.params.toList s.vars apart args.toList fuel).any fun x => conds.all (PathCond.test C.prog ⟨fn.params.toList, x.1, s.bare.plain.varTypes C.prog, x.2.1⟩) && (match s.cond with | none => true | some k => k H (x.1 ++ x.2.1))) = true)
    (hsz : s.bare.sizedB enc C.prog fn apart (w0.forCall (fun _ _ => 0) ⟨#[], args, []⟩).memory args fuel = true)
    (hl : laidMetH C.prog laid (w0.forCall (fun _ _ => 0) ⟨#[], args, []⟩).memory) :
    ∃ (w : World) (tape : Tape) (i : Input), w.os = os ∧ (w.forCall tape i).Shaped C.prog ∧ i.vars = [] ∧ Input.okWide C.prog (w.forCall tape i) .any w.heap.size f i ∧
      s.preRow enc C.prog fn conds apart laid (w.forCall tape i).memory i.args ∧ ({ modest := modest } : Assume).holds C.prog (lone (Frame.enter C.prog f i.args .normal) [] (w.forCall tape i)) := by
  have hex : ∃ x, DataW.whole enc C.prog (w0.forCall (fun _ _ => 0) ⟨#[], args, []⟩).memory fn.params.toList s.vars apart args.toList fuel = some x ∧ (conds.all (PathCond.test C.prog ⟨fn.params.toList, x.1, s.bare.plain.varTypes C.prog, x.2.1⟩) && (match s.cond with | none => true | some k => k H (x.1 ++ x.2.1))) = true := by
    cases h : DataW.whole enc C.prog (w0.forCall (fun _ _ => 0) ⟨#[], args, []⟩).memory fn.params.toList s.vars apart args.toList fuel with
    | none => rw [h] at hw; cases hw
    | some x => rw [h] at hw; exact ⟨x, rfl, hw⟩
  obtain ⟨x, hx, hb⟩ := hex
  have hb2 := Bool.and_eq_true_iff.1 hb
  refine ⟨w0, fun _ _ => 0, ⟨#[], args, []⟩, hos, hsh, (Input.okWide_of_okWideB (base := 0) hok).1, (Input.okWide_of_okWideB hok).2, OpenSpec.preRow_of_cond fuel hx hb2.1 (fun k hk => ?_) hsz hl, ?_⟩
  · have h3 := hb2.2
    rw [hk] at h3
    exact h3
  · simp only [Assume.holds]
    exact ⟨by simp, by simp, fun _ => Modest.zero, by simp, by simp⟩
end Go.Proofs.YtdgmbmoaeoakpaaDoor
