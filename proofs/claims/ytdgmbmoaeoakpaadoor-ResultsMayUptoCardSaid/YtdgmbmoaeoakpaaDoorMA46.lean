/- Each answer may be written, but for chains of more than 61 ranges: the given law, walked. Conditions: arguments of at most 2^20 bytes and elements; the library's tables. -/
import Derived.Test.YtdgmbmoaeoakpaaDoorMA42
import Derived.Test.YtdgmbmoaeoakpaaDoorMA44
import Derived.Test.YtdgmbmoaeoakpaaDoorMA45
import Derived.Test.YtdgmbmoaeoakpaaDoorProg
import Derived.Carry
import Derived.Deep.DeepHandedRow
import Derived.LaidLaws
namespace Go.Proofs.YtdgmbmoaeoakpaaDoor
open Go Go.RowKit Go.Lib

def lng (e : Ch) : Bool := decide (61 < e.l.length)
theorem any_step (l : List Ch) (i : Nat) (e : Ch) (h : l[i]? = some e) : (l.take (i + 1)).any lng = ((l.take i).any lng || lng e) := by
  have hi := (List.getElem?_eq_some_iff.1 h).1
  rw [List.take_succ_eq_append_getElem hi, List.any_append, List.getElem?_eq_getElem hi] at *
  cases h
  simp
theorem neq_not (b : Bool) : ((!b) != b) = true := by cases b <;> rfl
set_option maxHeartbeats 4000000 in
set_option maxRecDepth 100000 in
theorem may8_any (id : ByteArray) (v1 v2 v3 v4 : Value) (li : List Int) (ls : List Sp) (fo : List Fo) (ch : List Ch) (w : World) (hid : id.size ≤ 1048576) (h1 : SrcI w v1 li ∧ li.length ≤ 1048576) (h2 : ArgSp w v2 ls) (h3 : ArgFo w v3 fo) (h4 : ArgCh w v4 ch) (hP : PowTab w) (hT : Tabs w) :
    Calls Tryd.prog 6 #[.string id, v1, v2, v3, v4] w (True8 w) := by
  have HPo := Lib.hid (fun W (h : Below w.heap.size w W) => pow_below hP h)
  have HTo := Lib.hid (fun W (h : Below w.heap.size w W) => tabs_below hT h)
  have HGr := Lib.hid (fun W (h : Below w.heap.size w W) => great_args W h h1 h2 h3 h4)
  have HAw := Lib.hid (awake8_any w hP hT)
  have HCh : Hid (∀ i e, ch[i]? = some e → ∃ b o, ∃ c, v4 = .slice (some ⟨b, o, none⟩) ch.length c ∧ ∀ W, Below w.heap.size w W → W.cell? ⟨b, o + i, none⟩ = some (.slice e.p e.l.length e.c)) := Lib.hid (fun i e he => by
    obtain ⟨p4, c4, rfl, _, _, q4, r4⟩ := src_sl h4.1
    obtain ⟨b, o, rfl, hb, hc⟩ := r4 i e he
    have hn := srcR_n (q4 e (List.mem_of_getElem? he)).1
    refine ⟨b, o, c4, rfl, fun W hB => ?_⟩
    rw [← hn]
    have := hc 0 _ rfl
    rw [Nat.mul_one, Nat.add_zero] at this
    exact (hB.cell (p := ⟨b, o + i, none⟩) hb).trans this)
  have HFu : Hid (∀ W, Below w.heap.size w W → Few li.length ls.length fo.length ch.length (lnS ls) (lnC ch) → Calls Tryd.prog 24 #[.string id, v1] W (RetV 0 6 ⟨#[]⟩ .nil (full_anyT id li) W)) := Lib.hid (fun W hB hf => by
    obtain ⟨p1, c1, rfl⟩ := srcI_sl h1.1
    exact full_any id _ _ _ _ 0 W (by omega) (h1.1.below hB) (by have := hf.1; omega) (Nat.zero_le _) (HPo.out _ hB) (HTo.out _ hB))
  have HDe : Hid (∀ W, Below w.heap.size w W → Few li.length ls.length fo.length ch.length (lnS ls) (lnC ch) → Calls Tryd.prog 26 #[.string id, v2] W (RetV 0 6 ⟨#[]⟩ .nil (delta_anyT id ls) W)) := Lib.hid (fun W hB hf => by
    have hs := srcS_of h2 (fun e he => Nat.le_trans (few_S hf e he) (by decide))
    obtain ⟨p2, c2, rfl, _⟩ := src_sl h2.1
    exact delta_any id _ _ _ _ 0 W (by omega) (hs.below hB) (by have := hf.1; omega) (Nat.zero_le _) (HPo.out _ hB) (HTo.out _ hB))
  have HFo : Hid (∀ W, Below w.heap.size w W → Few li.length ls.length fo.length ch.length (lnS ls) (lnC ch) → Calls Tryd.prog 28 #[v3] W (RetV 0 5 ⟨#[]⟩ (listFoT fo) .nil W)) := Lib.hid (fun W hB hf => by
    have hs := srcF_of h3
    obtain ⟨p3, c3, rfl, _⟩ := src_sl h3.1
    exact folds_any _ _ _ _ 0 W (Nat.zero_le _) (hs.below hB) (by have := hf.1; omega) (HPo.out _ hB) (HTo.out _ hB))
  have HCa : Hid (∀ W, Below w.heap.size w W → Few li.length ls.length fo.length ch.length (lnS ls) (lnC ch) → Calls Tryd.prog 30 #[v4] W (RetV 0 5 ⟨#[]⟩ (listChT ch) .nil W)) := Lib.hid (fun W hB hf => by
    have hs := srcC_of h4 (fun e he => Nat.le_trans (few_C hf e he) (by decide))
    obtain ⟨p4, c4, rfl, _⟩ := src_sl h4.1
    exact chains_any _ _ _ _ 0 W (Nat.zero_le _) (hs.below hB) (by have := hf.1; omega) (HPo.out _ hB))
  have HS := Lib.hid (And.intro (sm_full (id := id) (l := li) (by omega) (srcI_all h1.1)) (And.intro (sm_delta (id := id) (l := ls) (by omega) (fun e he => ⟨(argSp_fit h2 e he).1, (argSp_fit h2 e he).2.1, srcI_all (argSp_fit h2 e he).2.2.1⟩)) (And.intro (sm_foldL fo (fun e he => argFo_fit h3 e he)) (sm_chains ch (fun e he => srcR_all (argCh_fit h4 e he).1)))))
  have hsl : ∃ p c, v4 = .slice p ch.length c := by
    obtain ⟨p4, c4, rfl, _⟩ := src_sl h4.1
    exact ⟨_, _, rfl⟩
  have hcl : ch.length ≤ 1048576 := h4.2
  obtain ⟨p4, c4, rfl⟩ := hsl
  clear hP hT h1 h2 h3 h4 hid
  go_enter Tryd.func6, Tryd.ntmps6
  go_wp2_with fail
  refine HAw.out.mono ?_
  rintro e w1 ⟨rfl, hB⟩
  have B1 := Lib.hid hB
  clear hB
  go_wp2_with fail
  refine (HGr.out w1 B1.out).mono ?_
  rintro e w2 ⟨ok, rfl, rfl, hF⟩
  cases ok
  · have HF := Lib.hid (hF rfl)
    clear hF
    go_wp2_with fail
    go_loopw [11, 12] (fun p q wr => ∃ i : Nat, p = .bool ((ch.take i).any lng) ∧ q = .int .i64 (i : Int) ∧ i ≤ ch.length ∧ SameB w2 wr) (fun _ q _ => ch.length - (RowKit.intOf q).toNat)
    case atStart => exact ⟨0, rfl, rfl, Nat.zero_le _, rfl⟩
    case round =>
      obtain ⟨i, rfl, rfl, hi, hw⟩ := hrel
      obtain rfl : w2 = wr := hw
      by_cases hlt : i < ch.length
      · have he := List.getElem?_eq_getElem hlt
        obtain ⟨b, o, c, e4, hc⟩ := HCh.out i _ he
        obtain ⟨rfl, rfl⟩ : p4 = some ⟨b, o, none⟩ ∧ c4 = c := by cases e4; exact ⟨rfl, rfl⟩
        have hc := hc w2 B1.out
        have hst := Lib.hid (any_step ch i _ he)
        have HL := Lib.hid hlt
        have i1 : (0 : Int) ≤ (i : Int) := Int.natCast_nonneg i
        have i2 : (i : Int) < (ch.length : Int) := by omega
        have hm : decide (((ch[i].l.length : Nat) : Int) > 61) = lng ch[i] := decide_eq_decide.2 (by omega)
        have hlb : ch[i].l.length ≤ 300 := few_C HF.out _ (List.getElem_mem hlt)
        generalize ch[i] = e at *
        generalize hn : e.l.length = m at *
        clear he e4 hlt hi
        cases hb : (ch.take i).any lng
        · rw [hb] at hst
          cases hx : lng e
          · rw [hx] at hst hm
            have hm2 : ¬ ((m : Int) > 61) := of_decide_eq_false hm
            clear hm hn
            go_wp2_with fail
            go_roundw
            case rel => exact ⟨i + 1, by rw [hst.out]; rfl, by go_num, HL.out, rfl⟩
            case measure => have := HL.out; simp [RowKit.intOf]; omega
          · rw [hx] at hst hm
            have hm2 : (m : Int) > 61 := of_decide_eq_true hm
            clear hm hn
            go_wp2_with fail
            go_roundw
            case rel => exact ⟨i + 1, by rw [hst.out]; rfl, by go_num, HL.out, rfl⟩
            case measure => have := HL.out; simp [RowKit.intOf]; omega
        · rw [hb] at hst
          clear hm hn
          go_wp2_with fail
          go_roundw
          case rel => exact ⟨i + 1, by rw [hst.out]; rfl, by go_num, HL.out, rfl⟩
          case measure => have := HL.out; simp [RowKit.intOf]; omega
      · obtain rfl : i = ch.length := by omega
        rw [List.take_length]
        have HMc := Lib.hid (may_chains ch)
        change Hid (_ = !(ch.any lng)) at HMc
        generalize ch.any lng = bl at *
        go_wp2_with fail
        refine (HFu.out w2 B1.out HF.out).mono ?_
        rintro e w3 ⟨y, rfl, hv, hB⟩
        have B3 := Lib.hid (B1.out.trans (hB.mono B1.out.size))
        have hm := mayVF_any hv (by decide) (by decide) trivial HS.out.1 (HTo.out _ B3.out)
        rw [may_full] at hm
        have HM := Lib.hid hm
        clear hm hv hB
        go_wp2_with fail
        refine HM.out.mono ?_
        rintro e w4 ⟨rfl, hB⟩
        have B4 := Lib.hid (B3.out.trans (hB.mono B3.out.size))
        clear hB HM
        go_wp2_with fail
        refine (HDe.out w4 B4.out HF.out).mono ?_
        rintro e w5 ⟨y, rfl, hv, hB⟩
        have B5 := Lib.hid (B4.out.trans (hB.mono B4.out.size))
        have hm := mayVF_any hv (by decide) (by decide) trivial HS.out.2.1 (HTo.out _ B5.out)
        rw [may_delta] at hm
        have HM := Lib.hid hm
        clear hm hv hB
        go_wp2_with fail
        refine HM.out.mono ?_
        rintro e w6 ⟨rfl, hB⟩
        have B6 := Lib.hid (B5.out.trans (hB.mono B5.out.size))
        clear hB HM
        go_wp2_with fail
        refine (HFo.out w6 B6.out HF.out).mono ?_
        rintro e w7 ⟨y, rfl, hv, hB⟩
        have B7 := Lib.hid (B6.out.trans (hB.mono B6.out.size))
        have hm := mayVF_any hv (by decide) (by decide) HS.out.2.2.1 trivial (HTo.out _ B7.out)
        rw [may_folds] at hm
        have HM := Lib.hid hm
        clear hm hv hB
        go_wp2_with fail
        refine HM.out.mono ?_
        rintro e w8 ⟨rfl, hB⟩
        have B8 := Lib.hid (B7.out.trans (hB.mono B7.out.size))
        clear hB HM
        go_wp2_with fail
        refine (HCa.out w8 B8.out HF.out).mono ?_
        rintro e w9 ⟨y, rfl, hv, hB⟩
        have B9 := Lib.hid (B8.out.trans (hB.mono B8.out.size))
        have hm := mayVF_any hv (by decide) (by decide) HS.out.2.2.2 trivial (HTo.out _ B9.out)
        rw [HMc.out] at hm
        have HM := Lib.hid hm
        clear hm hv hB HMc
        go_wp2_with fail
        refine HM.out.mono ?_
        rintro e w10 ⟨rfl, hB⟩
        have B10 := Lib.hid (B9.out.trans (hB.mono B9.out.size))
        have HC := Lib.hid (cap_any w10 (HPo.out _ B10.out) (HTo.out _ B10.out))
        clear hB HM
        cases bl
        all_goals
          go_wp2_with fail
          refine HC.out.mono ?_
          rintro e w11 ⟨y, rfl, hv, hB⟩
          have B11 := Lib.hid (B10.out.trans (hB.mono B10.out.size))
          have hm := mayVF_any hv (by decide) (by decide) trivial sm_cap (HTo.out _ B11.out)
          rw [may_cap] at hm
          have HM := Lib.hid hm
          clear hm hv hB
          go_wp2_with fail
          refine HM.out.mono ?_
          rintro e w12 ⟨rfl, hB⟩
          have B12 := Lib.hid (B11.out.trans (hB.mono B11.out.size))
          clear hB HM
          go_wp2_with fail
          go_ret
          exact ⟨rfl, B12.out⟩
  · clear hF
    go_wp2_with fail
    go_ret
    exact ⟨rfl, B1.out⟩
end Go.Proofs.YtdgmbmoaeoakpaaDoor

namespace Go.Proofs.YtdgmbmoaeoakpaaDoor
open Go Go.RowKit Go.Lib

theorem may8_card (id : ByteArray) (v1 : Value) (li : List Int) (v2 : Value) (ls : List Sp) (v3 : Value) (fo : List Fo) (v4 : Value) (ch : List Ch) (w : World) (hid : id.data.toList.length ≤ 1048576) (h1 : SrcI w v1 li ∧ li.length ≤ 1048576) (h2 : ArgSp w v2 ls) (h3 : ArgFo w v3 fo) (h4 : ArgCh w v4 ch) (hP : PowTab w) (hT : Tabs w) :
    Calls Tryd.prog 6 #[.string id, v1, v2, v3, v4] w (True8 w) := may8_any id v1 v2 v3 v4 li ls fo ch w (by rw [Array.length_toList] at hid; exact hid) h1 h2 h3 h4 hP hT
end Go.Proofs.YtdgmbmoaeoakpaaDoor

namespace Go.Proofs.YtdgmbmoaeoakpaaDoor
open Go Go.RowKit Go.ChangeShapes

section
variable {H : Type} {enc : TypeId × Value → H} {P : Program} {w : World} {base : Nat} {spare : Nat → Bool} {held : Bool}
theorem trodAll_five {t t' t'' t3 t4 : TypeId} {args : Array Value} {ds : List (DataW H)} {ps : List MemPlace} (h : DataW.TrodAll enc P w base spare held [t, t', t'', t3, t4] args.toList ds ps) :
    ∃ v v' v'' v3 v4 d d' d'' d3 d4 p p' p'' p3 p4, args = #[v, v', v'', v3, v4] ∧ ds = [d, d', d'', d3, d4] ∧ ps = p ++ p' ++ p'' ++ p3 ++ p4 ∧ DataW.Trod enc P w base spare held t v d p ∧ DataW.Trod enc P w base spare held t' v' d' p' ∧ DataW.Trod enc P w base spare held t'' v'' d'' p'' ∧ DataW.Trod enc P w base spare held t3 v3 d3 p3 ∧ DataW.Trod enc P w base spare held t4 v4 d4 p4 := by
  obtain ⟨v, vs, d, ds', p, q, hargs, rfl, rfl, hd, hrest⟩ := trodAll_cons h
  obtain ⟨v', vs', d', ds'', p', q', rfl, rfl, rfl, hd', hrest'⟩ := trodAll_cons hrest
  obtain ⟨v'', vs'', d'', ds''', p'', q'', rfl, rfl, rfl, hd'', hrest''⟩ := trodAll_cons hrest'
  obtain ⟨v3, vs3, d3, ds3, p3, q3, rfl, rfl, rfl, hd3, hrest3⟩ := trodAll_cons hrest''
  obtain ⟨v4, vs4, d4, ds4, p4, q4, rfl, rfl, rfl, hd4, hrest4⟩ := trodAll_cons hrest3
  obtain ⟨rfl, rfl, rfl⟩ := trodAll_nil hrest4
  exact ⟨v, v', v'', v3, v4, d, d', d'', d3, d4, p, p', p'', p3, p4, by cases args; simp_all, rfl, by simp, hd, hd', hd'', hd3, hd4⟩
theorem trodAll_mk5 {t t' t'' t3 t4 : TypeId} {v v' v'' v3 v4 : Value} {d d' d'' d3 d4 : DataW H} {p p' p'' p3 p4 : List MemPlace} (h : DataW.Trod enc P w base spare held t v d p) (h' : DataW.Trod enc P w base spare held t' v' d' p')
    (h'' : DataW.Trod enc P w base spare held t'' v'' d'' p'') (h3 : DataW.Trod enc P w base spare held t3 v3 d3 p3) (h4 : DataW.Trod enc P w base spare held t4 v4 d4 p4) : DataW.TrodAll enc P w base spare held [t, t', t'', t3, t4] [v, v', v'', v3, v4] [d, d', d'', d3, d4] (p ++ (p' ++ (p'' ++ (p3 ++ p4)))) := ⟨p, p' ++ (p'' ++ (p3 ++ p4)), h, trodAll_mk4 h' h'' h3 h4, rfl⟩
end
end Go.Proofs.YtdgmbmoaeoakpaaDoor

namespace Go.Proofs.YtdgmbmoaeoakpaaDoor
open Go

theorem witness_upto {H : Type} {enc : TypeId × Value → H} {C : Checked} {os : Os} {f : FuncId} {fn : Func} {s : OpenSpec} {conds : List PathCond} {apart : Bool} {laid : List (String × DataW Unit)} (modest : Bool) (w0 : World) (args : Array Value) (fuel : Nat) (hos : w0.os = os)
    (hsh : (w0.forCall (fun _ _ => 0) ⟨#[], args, []⟩).Shaped C.prog)
    (hok : Input.okWideB C.prog (w0.forCall (fun _ _ => 0) ⟨#[], args, []⟩) f ⟨#[], args, []⟩ = true)
    (hw : ((DataW.whole enc C.prog (w0.forCall (fun _ _ => 0) ⟨#[], args, []⟩).memory fn.params.toList s.vars apart args.toList fuel).any fun x => conds.all (PathCond.test C.prog ⟨fn.params.toList, x.1, s.bare.plain.varTypes C.prog, x.2.1⟩) && (match s.cond with | none => true | some k => k H (x.1 ++ x.2.1))) = true)
    (hsz : s.bare.sizedB enc C.prog fn apart (w0.forCall (fun _ _ => 0) ⟨#[], args, []⟩).memory args fuel = true)
    (hl : laidMetH C.prog laid (w0.forCall (fun _ _ => 0) ⟨#[], args, []⟩).memory) :
    ∃ (w : World) (tape : Tape) (i : Input), w.os = os ∧ (w.forCall tape i).Shaped C.prog ∧ i.vars = [] ∧ Input.okWide C.prog (w.forCall tape i) .any w.heap.size f i ∧
      s.preRow enc C.prog fn conds apart laid (w.forCall tape i).memory i.args ∧ ({ modest := modest } : Assume).holds C.prog (lone (Frame.enter C.prog f i.args .normal) [] (w.forCall tape i)) := by
  have hex : ∃ x, DataW.whole enc C.prog (w0.forCall (fun _ _ => 0) ⟨#[], args, []⟩).memory fn.params.toList s.vars apart args.toList fuel = some x ∧ (conds.all (PathCond.test C.prog ⟨fn.params.toList, x.1, s.bare.plain.varTypes C.prog, x.2.1⟩) && (match s.cond with | none => true | some k => k H (x.1 ++ x.2.1))) = true := by
    cases h : DataW.whole enc C.prog (w0.forCall (fun _ _ => 0) ⟨#[], args, []⟩).memory fn.params.toList s.vars apart args.toList fuel with
    | none => rw [h] at hw; cases hw
    | some x => rw [h] at hw; exact ⟨x, rfl, hw⟩
  obtain ⟨x, hx, hb⟩ := hex
  have hb2 := Bool.and_eq_true_iff.1 hb
  refine ⟨w0, fun _ _ => 0, ⟨#[], args, []⟩, hos, hsh, (Input.okWide_of_okWideB (base := 0) hok).1, (Input.okWide_of_okWideB hok).2, OpenSpec.preRow_of_cond fuel hx hb2.1 (fun k hk => ?_) hsz hl, ?_⟩
  · have h3 := hb2.2
    rw [hk] at h3
    exact h3
  · simp only [Assume.holds]
    exact ⟨by simp, by simp, fun _ => Modest.zero, by simp, by simp⟩
end Go.Proofs.YtdgmbmoaeoakpaaDoor
