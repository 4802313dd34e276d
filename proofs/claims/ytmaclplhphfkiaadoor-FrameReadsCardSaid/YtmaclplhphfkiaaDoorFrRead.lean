/- The reader of messages reads bytes of a head. Conditions: such lengths as memory bears; what a head tells is known. -/
import Derived.Test.YtmaclplhphfkiaaDoorFrFeed
import Derived.StillTailTactics
namespace Go.Proofs.YtmaclplhphfkiaaDoor
open Go Go.RowKit Go.Lib F

namespace F
theorem take_one {l : Bs} {k : Nat} {c : UInt8} (hc : l[k]? = some c) : l.take (k + 1) = l.take k ++ [c] := by
  have hlt := (List.getElem?_eq_some_iff.1 hc).1
  rw [List.take_add_one, hc]; rfl
theorem run_take {x : Rs} {l : Bs} {k : Nat} {c : UInt8} (hc : l[k]? = some c) : run x (l.take (k + 1)) = stp (run x (l.take k)) c := by
  rw [take_one hc, run_append]; rfl
theorem end_run {p l P : Bs} {out : List Bs} {k : Nat} {c : UInt8} (hrun : run (.head p, out) (l.take k) = (.head P, out)) (hc : l[k]? = some c) (hen : ended (P ++ [c]) = true) :
    run (.head p, out) (l.take (k + 1)) = (if (bs (P ++ [c])).2 = 0 then (if (bs (P ++ [c])).1 = 0 then (.head [], out ++ [[]]) else (.body (bs (P ++ [c])).1 [], out)) else (.dead (bs (P ++ [c])).2, out)) := by
  rw [run_take hc, hrun]
  unfold stp
  dsimp only
  rw [if_pos hen]
theorem far_run {p l P : Bs} {out : List Bs} {k : Nat} {c : UInt8} (hrun : run (.head p, out) (l.take k) = (.head P, out)) (hc : l[k]? = some c) (hen : ended (P ++ [c]) = false) (h : P.length + 1 = 1024) :
    run (.head p, out) (l.take (k + 1)) = (.dead 50, out) := by
  rw [run_take hc, hrun]
  unfold stp
  dsimp only
  rw [if_neg (by rw [hen]; decide), if_pos (by simpa using h)]
theorem on_run {p l P : Bs} {out : List Bs} {k : Nat} {c : UInt8} (hrun : run (.head p, out) (l.take k) = (.head P, out)) (hc : l[k]? = some c) (hen : ended (P ++ [c]) = false) (h : ¬ P.length + 1 = 1024) :
    run (.head p, out) (l.take (k + 1)) = (.head (P ++ [c]), out) := by
  rw [run_take hc, hrun]
  unfold stp
  dsimp only
  rw [if_neg (by rw [hen]; decide), if_neg (by simpa using h)]
/-- a death: all that follows is passed over -/
theorem dead_all {x : Rs} {l : Bs} {out : List Bs} {k E : Nat} (hrun : run x (l.take k) = (.dead E, out)) : run x (l.take l.length) = (.dead E, out) := by
  rw [List.take_length]
  conv => lhs; rw [← List.take_append_drop k l]
  rw [run_append, hrun, run_dead]
theorem bodyTo_zero (out : List Bs) (l : Bs) : bodyTo 0 [] out l = (.head [], out ++ [[]]) := by
  unfold bodyTo; simp
/-- behind a head's end: as far as the body goes -/
theorem end_body {x : Rs} {l : Bs} {out : List Bs} {k n : Nat} (hrun : run x (l.take (k + 1)) = (if n = 0 then (.head [], out ++ [[]]) else (.body n [], out))) :
    run x (l.take (k + 1 + min (n - ([] : Bs).length) (l.drop (k + 1)).length)) = bodyTo n [] out (l.drop (k + 1)) := by
  rw [List.take_add, run_append, hrun]
  by_cases h0 : n = 0
  · subst h0
    rw [if_pos rfl, bodyTo_zero]
    simp [run_nil]
  · rw [if_neg h0, ← bodyTo_run n (l.drop (k + 1)) [] out (by simp; omega), ← List.take_take, List.take_length]
theorem left_far {g off cap off' : Nat} {l : Bs} {k m : Nat} {v : Value} (hk : k ≤ l.length) (ho : k < l.length → off' = off + k) (h : Left g off' (cap - k) (l.drop k) m v) : Left g off cap l (k + m) v := by
  rcases h with ⟨rfl, h⟩ | ⟨o2, rfl, h⟩
  · left
    rw [List.length_drop] at h
    exact ⟨rfl, by omega⟩
  · right
    rw [List.length_drop] at h ⊢
    refine ⟨o2, ?_, fun h' => ?_⟩
    · congr 1 <;> omega
    · rw [h (by omega), ho (by omega), Nat.add_assoc]
end F
/-- some of the bytes are read -/
def ReadSome (A : Nat → Prop) (R g off cap : Nat) (l : Bs) (x : Rs) (w : World) (e : Ending) (w' : World) : Prop :=
  ∃ k, k ≤ l.length ∧ (l ≠ [] → 0 < k) ∧ ReadOut A R g off cap l k (run x (l.take k)) w e w'
/-- where the loop over a head's bytes stands -/
def HdAt (A : Nat → Prop) (R : Nat) (p l : Bs) (out : List Bs) (k : Nat) (w wr : World) : Prop :=
  Alt A w wr ∧ RdAt wr (Grow A w) R (.head (p ++ l.take k)) out ∧ run (.head p, out) (l.take k) = (.head (p ++ l.take k), out) ∧ (p ++ l.take k).length < 1024

theorem read_end {A : Nat → Prop} {R g off off' cap k n : Nat} {l : Bs} {out : List Bs} {x : Rs} {v' : Value} {w w4 w6 : World} (hlt : k < l.length)
    (hrun : run x (l.take (k + 1 + min (n - ([] : Bs).length) (l.drop (k + 1)).length)) = bodyTo n [] out (l.drop (k + 1))) (hoff : k + 1 < l.length → off' = off + (k + 1))
    (hL : Left g off' (cap - (k + 1)) (l.drop (k + 1)) (min (n - ([] : Bs).length) (l.length - (k + 1))) v') (hA5 : Alt A w w4) (hA6 : Alt (Grow A w) w4.drew w6) (hR6 : RdAt w6 (Grow (Grow A w) w4.drew) R (bodyTo n [] out (l.drop (k + 1))).1 (bodyTo n [] out (l.drop (k + 1))).2) :
    ReadSome A R g off cap l x w (.returned v') w6 := by
  rw [List.length_drop] at hrun
  refine ⟨k + 1 + min (n - ([] : Bs).length) (l.length - (k + 1)), by omega, fun _ => by omega, v', rfl, left_far (by omega) hoff hL, (hA5.then (Alt.drew _ _)).trans hA6, ?_⟩
  rw [hrun]
  refine hR6.imp fun b _ hb => ?_
  rcases hb with hb | hb
  · exact hb
  · exact .inr (Nat.le_trans hA5.size hb)

set_option maxRecDepth 100000 in
set_option maxHeartbeats 2000000 in
theorem readHead_any (hBS : BsOk) (R g off cap : Nat) (p l : Bs) (out : List Bs) (A : Nat → Prop) (w : World) (hR : RdAt w A R (.head p) out) (hp : p.length < 1024) (hl : l.length ≤ cap) (hcap : cap ≤ 9223372036854775807) (hl2 : l.length ≤ 1000000000000)
    (ho : out.length ≤ 1000000000000) (hA8 : At8 w g off l) (hg : ¬ A g) (hE : Env A w) :
    Calls Tryd.prog 42 #[.pointer (some ⟨R, 0, none⟩), .slice (some ⟨g, off, none⟩) l.length cap] w (ReadSome A R g off cap l (.head p, out) w) := by
  obtain ⟨i8, hi8, hz80, hz81, hz82⟩ := info_parts f8
  have HE := Lib.hid hE
  have H0 := Lib.hid (show HdAt A R p l out 0 w w from ⟨Alt.refl _ _, by simp only [List.take_zero, List.append_nil]; exact hR.imp fun b _ h => .inl h, by simp [run_nil], by simpa using hp⟩)
  clear hE hR
  go_enter Tryd.func42, Tryd.ntmps42
  go_wp2_with fail
  go_loopw [9] (fun i wr => ∃ k : Nat, k ≤ l.length ∧ i = .int .i64 k ∧ Hid (HdAt A R p l out k w wr)) (fun i _ => l.length - (RowKit.intOf i).toNat)
  case atStart => exact ⟨0, Nat.zero_le _, rfl, H0⟩
  case round =>
    obtain ⟨k, hk, rfl, HK⟩ := hrel
    by_cases hlt : k < l.length
    · obtain ⟨c, hc⟩ : ∃ c, l[k]? = some c := ⟨_, List.getElem?_eq_getElem hlt⟩
      obtain ⟨hA, hR, hrun, hplen⟩ := HK.out
      have hlne : l ≠ [] := fun e => by subst e; simp at hlt
      have hgl := hA8.lt hlne
      have hcell : wr.cell? ⟨g, off + k, none⟩ = some (.int .u8 (c.toNat : Int)) := (hA8.keep hA (fun _ => hg)) k c hc
      obtain ⟨part, bodies, size, hb, hTp, hTb, hsz, hP⟩ := hR
      obtain ⟨zp, cp, rfl, hp1, hp2, -⟩ := hTp.form
      simp only [St.part, St.err, fnOf, c8_len] at hb hTp hTb hP hp1
      have H1 := Lib.hid (Whole.start hb hTp hTb hP)
      have hAR := hP.1
      have H2 := Lib.hid (H1.out.below ((Below.refl _ _).alloc (Nat.le_refl _) (.cells #[.int .u8 (c.toNat : Int)] 5)))
      obtain ⟨-, -, c2, -, -, -⟩ := H1.out.1.cells
      have hnew := heap_alloc_new wr (.cells #[.int .u8 (c.toNat : Int)] 5)
      have HX := Lib.hid (And.intro hA (And.intro hrun hplen))
      have HH := Lib.hid hnew
      have hk2 : k ≤ 1000000000000 := by omega
      clear hb hTp hTb hP hnew hA hrun H0 HK
      obtain ⟨P, hPd⟩ : ∃ P, P = p ++ l.take k := ⟨_, rfl⟩
      rw [← hPd] at HX H1 H2 c2 hplen hp1
      have HPd := Lib.hid hPd
      clear hPd
      have hlenP : P.length ≤ 1024 := by omega
      have hA1 : ∀ b, Grow (Grow A w) wr b → Grow A w b := fun b hb => by
        rcases hb with hb | hb
        · exact hb
        · exact .inr (Nat.le_trans HX.out.1.size hb)
      go_wp2_with (at_builtin; refine wpList_append_tail _ rfl _ _ 44 rfl 5 i8 _ 1 Tryd.underlying44 hi8 hz80 hz81 hz82 rfl (.slice zp P.length cp) (c8 P) rfl H2.out.2.1 (some ⟨wr.heap.size, 0, none⟩) 1 1 [.int .u8 (c.toNat : Int)] rfl rfl ?n1 ?n2 ?n3 ?n4 ?_)
      case n1 => intro j u hj; exact ⟨_, rfl, World.news_of_block (cs := #[.int .u8 (c.toNat : Int)]) (t := 5) (fr := (0, 0)) HH.out j u hj⟩
      case n2 => intro u hu; rw [List.mem_singleton.1 hu]; rfl
      case n3 => rw [c8_len]; unfold maxLen; omega
      case n4 => rw [c8_len]; omega
      intro z' cap' w1 hT1 hg1 hat1
      rw [c8_len] at hT1 hat1
      rw [show c8 P ++ [Value.int .u8 (c.toNat : Int)] = c8 (P ++ [c]) from (c8_append P [c]).symm] at hT1
      have hrb := H2.out.1.same (hg1.block R H2.out.1.lt (fun e => (H2.out.2.2.2.1.2.1 R e.symm).2.1 rfl))
      have H3 := Lib.hid (H2.out.addPart hAR hg1 hT1 (by rw [World.size_alloc]; exact hat1))
      have hfr := hrb.free 2
      obtain ⟨-, -, d2, -, -, -⟩ := hrb.cells
      clear hT1 hg1 hat1 hrb H1 H2 HH c2
      rw [c8_len]
      go_wp2_with fail
      generalize w1.setCell ⟨R, 2, none⟩ (.slice z' (P.length + 1) cap') = W2 at *
      have hen := isEnded_any (P ++ [c]) (.slice z' (P.length + 1) cap') W2 H3.out.2.1 (by simp; omega)
      clear hfr d2
      have hcv : (P ++ [c]).length = P.length + 1 := by simp
      have HCV := Lib.hid hcv
      clear hcv
      refine hen.mono ?_
      rintro e w3 ⟨rfl, hB3⟩
      have H4 := Lib.hid (H3.out.below hB3)
      clear hB3 H3 hen
      obtain ⟨-, d1, d2, -, -, -⟩ := H4.out.1.cells
      cases hen : ended (P ++ [c])
      · by_cases h24 : P.length + 1 = 1024
        · have e1 : (((P.length + 1 : Nat) : Int) == 1024) = true := by simp; omega
          have e2 : ((P.length : Int) + 1 == 1024) = true := by simp; omega
          have HR := Lib.hid (far_run HX.out.2.1 hc hen h24)
          have hdie := die_any R 50 (.head (P ++ [c])) out (Grow (Grow A w) wr) w3 ⟨_, _, _, H4.out.1, H4.out.2.1, H4.out.2.2.1, hsz, H4.out.2.2.2.1⟩
          clear hen h24 d1
          go_wp2_with fail
          refine hdie.mono ?_
          rintro e w4 ⟨rfl, hA4, hR4⟩
          have HF := Lib.hid (And.intro hA4 hR4)
          clear hA4 hR4 hdie d2
          go_wp2_with fail
          go_ret
          have hdead := dead_all HR.out
          refine ⟨l.length, Nat.le_refl _, fun _ => by omega, _, rfl, .inl ⟨rfl, rfl⟩, ?_, ?_⟩
          · exact HX.out.1.trans (H4.out.2.2.2.2.trans HF.out.1)
          · rw [hdead]
            exact HF.out.2.imp fun b _ hb => hA1 b (by
              rcases hb with hb | hb
              · exact hb
              · exact .inr (Nat.le_trans H4.out.2.2.2.2.size hb))
        · have e1 : (((P.length + 1 : Nat) : Int) == 1024) = false := by simp; omega
          have e2 : ((P.length : Int) + 1 == 1024) = false := by simp; omega
          have HR := Lib.hid (on_run HX.out.2.1 hc hen h24)
          clear hen d1
          go_wp2_with fail
          go_roundw
          case rel =>
            have ht : p ++ l.take (k + 1) = P ++ [c] := by rw [take_one hc, ← List.append_assoc, ← HPd.out]
            exact ⟨k + 1, by omega, by go_num, Lib.hid ⟨HX.out.1.trans H4.out.2.2.2.2, by
              rw [ht]
              exact ⟨_, _, _, H4.out.1, H4.out.2.1, H4.out.2.2.1, hsz, H4.out.2.2.2.1.imp hA1⟩, by rw [ht]; exact HR.out, by rw [ht, HCV.out]; omega⟩⟩
          case measure => simp [RowKit.intOf]; omega
      · have hend := endHead_any hBS R (P ++ [c]) out (Grow (Grow A w) wr) w3 ⟨_, _, _, H4.out.1, H4.out.2.1, H4.out.2.2.1, hsz, H4.out.2.2.2.1⟩ (by rw [HCV.out]; omega) ((HE.out.alt HX.out.1).alt H4.out.2.2.2.2)
        have HR := Lib.hid (end_run HX.out.2.1 hc hen)
        clear hen d1 d2
        go_wp2_with fail
        refine hend.mono ?_
        rintro e w4 ⟨rfl, hA4, hR4⟩
        have HA5 := Lib.hid (show Alt A w w4 from HX.out.1.trans (H4.out.2.2.2.2.trans hA4))
        have HR5 := Lib.hid (show RdAt w4 (Grow A w) R (endSt (P ++ [c])) out from hR4.imp fun b _ hb => hA1 b (by
              rcases hb with hb | hb
              · exact hb
              · exact .inr (Nat.le_trans H4.out.2.2.2.2.size hb)))
        have H85 := Lib.hid (hA8.keep HA5.out (fun _ => hg))
        clear hA4 hR4 hend
        have hbd := bs_bd (P ++ [c])
        unfold endSt at HR5
        generalize (bs (P ++ [c])).1 = n at *
        generalize (bs (P ++ [c])).2 = E at *
        have hs1 : IntKind.i64.wrap ((k : Int) + 1) = ((k + 1 : Nat) : Int) := by rw [IntWalk.i64_in _ (by omega)]; omega
        have hs2 : (k : Int) + 1 ≤ (l.length : Int) := by omega
        have hs3 : k + 1 ≤ cap := by omega
        have hs0 : 0 ≤ (k : Int) + 1 := by omega
        have hs4 : (k : Int) + 1 ≤ (cap : Int) := by omega
        clear hc hcell hgl
        by_cases hE0 : E = 0
        · rw [if_pos hE0] at HR HR5
          obtain ⟨part5, bodies5, size5, hb5, hTp5, hTb5, hsz5, hP5⟩ := HR5.out
          obtain ⟨-, d1, -, -, -, -⟩ := hb5.cells
          clear hb5 hTp5 hTb5 hsz5 hP5
          simp only [fnOf] at d1
          obtain ⟨n', hn'⟩ : ∃ n', n' = l.length - (k + 1) := ⟨_, rfl⟩
          have d1' := show ({ heap := w4.heap, tape := w4.tape, drawn := w4.drawn + 1, os := w4.os, output := w4.output } : World).cell? ⟨R, 1, none⟩ = _ from d1
          have HD := Lib.hid (show RdAt w4.drew (Grow A w) R (.body n []) out from HR5.out)
          have H8D := Lib.hid (show At8 w4.drew g off l from H85.out)
          have hdl : (l.drop (k + 1)).length = l.length - (k + 1) := List.length_drop
          have hrb := fun o2 (h2 : k + 1 < l.length → o2 = off + (k + 1)) => readBody_any R n g o2 (cap - (k + 1)) [] (l.drop (k + 1)) out (Grow A w) w4.drew HD.out (Nat.zero_le _) (by omega) (by rw [hdl]; omega) (by omega) ho
            (by
              by_cases h3 : k + 1 < l.length
              · rw [h2 h3]; exact H8D.out.drop (k + 1)
              · intro j x hj
                rw [List.drop_eq_nil_of_le (by omega)] at hj
                simp at hj)
          rw [hdl] at hrb
          have hrun2 := end_body HR.out
          by_cases hcm : cap = k + 1
          · have hrb := hrb off (fun h => by omega)
            have hcz : cap - (k + 1) = 0 := by omega
            rw [hcz] at hrb
            go_wp2_with fail
            go_still_tail 8, (by kernel_rfl)
            change wpList _ _ _ _ _ w4.drew
            go_wp2_with fail
            refine hrb.mono ?_
            rintro e w6 ⟨v', rfl, hL, hA6, hR6⟩
            have HF := Lib.hid (And.intro hL (And.intro hA6 hR6))
            clear hL hA6 hR6 hrb
            go_wp2_with fail
            go_ret
            refine read_end hlt hrun2 (show k + 1 < l.length → off = off + (k + 1) from fun h => by omega) ?_ HA5.out HF.out.2.1 HF.out.2.2
            rw [hcm, Nat.sub_self]
            exact HF.out.1
          · have hrb := hrb (off + (k + 1)) (fun _ => rfl)
            go_wp2_with fail
            go_still_tail 8, (by kernel_rfl)
            change wpList _ _ _ _ _ w4.drew
            go_wp2_with fail
            refine hrb.mono ?_
            rintro e w6 ⟨v', rfl, hL, hA6, hR6⟩
            have HF := Lib.hid (And.intro hL (And.intro hA6 hR6))
            clear hL hA6 hR6 hrb
            go_wp2_with fail
            go_ret
            exact read_end hlt hrun2 (fun _ => rfl) HF.out.1 HA5.out HF.out.2.1 HF.out.2.2
        · rw [if_neg hE0] at HR HR5
          obtain ⟨part5, bodies5, size5, hb5, hTp5, hTb5, hsz5, hP5⟩ := HR5.out
          obtain ⟨-, d1, -, -, -, -⟩ := hb5.cells
          clear hb5 hTp5 hTb5 hsz5 hP5
          simp only [fnOf] at d1
          have hig := fun v => ignore_any R v w4.drew
          have d1' := show ({ heap := w4.heap, tape := w4.tape, drawn := w4.drawn + 1, os := w4.os, output := w4.output } : World).cell? ⟨R, 1, none⟩ = _ from d1
          by_cases hcm : cap = k + 1
          all_goals
            go_wp2_with fail
            go_still_tail 8, (by kernel_rfl)
            change wpList _ _ _ _ _ w4.drew
            go_wp2_with fail
            refine (hig _).mono ?_
            rintro e w6 ⟨rfl, rfl⟩
            go_wp2_with fail
            go_ret
            have hdead := dead_all HR.out
            refine ⟨l.length, Nat.le_refl _, fun _ => by omega, _, rfl, .inl ⟨rfl, rfl⟩, HA5.out.then (Alt.drew _ _), ?_⟩
            rw [hdead]
            exact HR5.out
    · obtain rfl : k = l.length := by omega
      have hkk : ¬ (l.length : Int) < (l.length : Int) := by omega
      go_wp2_with fail
      go_ret
      obtain ⟨hA, hR, hrun, hplen⟩ := HK.out
      exact ⟨l.length, Nat.le_refl _, fun h => by cases l with | nil => exact absurd rfl h | cons _ _ => exact Nat.succ_pos _, _, rfl, .inl ⟨rfl, rfl⟩, hA, by rw [hrun]; exact hR⟩
end Go.Proofs.YtmaclplhphfkiaaDoor
