/- The program's reader of JSON: a unit is put behind the runes. Conditions: at most 10^12 runes. -/
import Derived.Test.YtbdpghmpdghnbaaDoorMJ10
import Derived.Laws.AppendOwn
import Derived.Maps.AppendAt
namespace Go.Proofs.YtbdpghmpdghnbaaDoor
open Go Go.RowKit Go.Lib
attribute [local go_sem] Oper.semAt_some

theorem info32 : (Tryd.prog.info? 21).map (fun i => (i.zero, i.size, i.bytes)) = some (some (.int .i32 0), 1, 4) := by kernel_rfl
def ru (L : List Nat) : List Value := L.map fun (c : Nat) => Value.int .i32 (c : Int)
def hig (c : Nat) : Prop := 55296 ≤ c ∧ c ≤ 56319
def low (c : Nat) : Prop := 56320 ≤ c ∧ c ≤ 57343
instance (c : Nat) : Decidable (hig c) := by unfold hig; infer_instance
instance (c : Nat) : Decidable (low c) := by unfold low; infer_instance
/-- a unit behind some: two surrogates become one character -/
def joi (L : List Nat) (c : Nat) : List Nat :=
  match L.getLast? with
  | some a => if hig a ∧ low c then L.dropLast ++ [65536 + (a - 55296) * 1024 + (c - 56320)] else L ++ [c]
  | none => L ++ [c]
theorem joi_nil (c : Nat) : joi [] c = [c] := rfl
theorem joi_no {l : List Nat} {a c : Nat} (h : ¬ (hig a ∧ low c)) : joi (l ++ [a]) c = l ++ [a] ++ [c] := by unfold joi; simp [h]
theorem joi_yes {l : List Nat} {a c : Nat} (h : hig a ∧ low c) : joi (l ++ [a]) c = l ++ [65536 + (a - 55296) * 1024 + (c - 56320)] := by unfold joi; simp [h]
/-- the runes, in a row of one's own -/
def Runes (base : Nat) (L : List Nat) (v : Value) (w : World) : Prop := w.ownsRow base 21 1 v L.length (ru L)
def Joined (base : Nat) (v : Value) (L : List Nat) (w : World) (en : Ending) (w' : World) : Prop := ∃ v', en = .returned v' ∧ Runes base L v' w' ∧ w.grownBy w' v.ownBlock
theorem ru_snoc (L : List Nat) (c : Nat) : ru (L ++ [c]) = ru L ++ [.int .i32 c] := by simp [ru]
/-- the last rune is set anew -/
theorem Runes.set {base : Nat} {l : List Nat} {a : Nat} {g n cap : Nat} {w : World} (h : Runes base (l ++ [a]) (.slice (some ⟨g, 0, none⟩) n cap) w) (x : Nat) : Runes base (l ++ [x]) (.slice (some ⟨g, 0, none⟩) n cap) (w.setCell ⟨g, l.length, none⟩ (.int .i32 x)) := by
  obtain ⟨h1, h2⟩ := h
  refine ⟨by simp [ru], ?_⟩
  rcases h2 with ⟨h3, _⟩ | ⟨g', cap', cur, h3, hb, hg, hn, hc, hs, ht⟩
  · cases h3
  · have hh := h3
    cases h3
    have hlen : (l ++ [a]).length = l.length + 1 := by simp
    rw [hlen] at hn ht
    have hl : l.length < cur.size := by omega
    refine .inr ⟨g, cap, cur.setIfInBounds l.length (.int .i32 x), by simp, hb, ?_, by simpa using hn, hc, by simp [hs], ?_⟩
    · obtain ⟨hlt, hk⟩ := Array.getElem?_eq_some_iff.1 hg
      show (w.heap.modify g _)[g]? = _
      rw [Array.getElem?_eq_getElem (by rw [Array.size_modify]; exact hlt), Array.getElem_modify_self, hk]
      rfl
    · have e1 : (l ++ [x]).length * 1 = l.length + 1 := by simp
      rw [e1]
      rw [show (l.length + 1) * 1 = l.length + 1 by omega] at ht
      rw [Array.toList_setIfInBounds]
      have hm : cur.toList.take l.length = ru l := by
        have := congrArg (List.take l.length) ht
        rw [List.take_take, Nat.min_eq_left (by omega), ru_snoc, List.take_left' (by simp [ru])] at this
        exact this
      rw [List.take_succ_eq_append_getElem (by simpa using hl), List.take_set_of_le (Nat.le_refl _), hm, ru_snoc]
      simp

theorem Runes.of {base c : Nat} {L : List Nat} {v : Value} {w : World} (h : w.ownsRow base 21 1 v (L.length + 1) (ru L ++ [.int .i32 c])) : Runes base (L ++ [c]) v w := by
  unfold Runes
  rw [ru_snoc, List.length_append]
  exact h
theorem Runes.parts {base a : Nat} {l : List Nat} {v : Value} {w : World} (h : Runes base (l ++ [a]) v w) : ∃ g cap, v = .slice (some ⟨g, 0, none⟩) (l.length + 1) cap ∧ w.cell? ⟨g, l.length, none⟩ = some (.int .i32 a) ∧ w.frozen? ⟨g, l.length, none⟩ = false ∧ l.length + 1 ≤ cap ∧ cap ≤ maxLen := by
  obtain ⟨h1, ⟨_, h3⟩ | ⟨g, cap, cur, rfl, hb, hg, hn, hcm, hs, ht⟩⟩ := h
  · simp at h3
  · refine ⟨g, cap, by simp, ?_, by simp [World.frozen?, hg], by simpa using hn, hcm⟩
    have hlen : (l ++ [a]).length = l.length + 1 := by simp
    rw [hlen] at ht hn
    have hl : l.length < cur.size := by omega
    rw [cell_of_row w g l.length cur _ (0, 0) hg]
    have := congrArg (fun x => x[l.length]?) ht
    rw [List.getElem?_take_of_lt (by omega), ru_snoc] at this
    rw [← Array.getElem?_toList, this]
    simp [ru]

set_option maxRecDepth 100000 in
set_option maxHeartbeats 1000000 in
theorem join_any (base c : Nat) (L : List Nat) (v : Value) (w : World) (hb : base ≤ w.heap.size) (hlen : Hid (L.length ≤ 1000000000000)) (hc : c < 2097152) (hL : ∀ a ∈ L, a < 2097152) (hown : Runes base L v w) :
    Calls Tryd.prog 36 #[v, .int .i32 c] w (Joined base v (joi L c) w) := by
  obtain ⟨i0, hi, hz0, hz1, hz2⟩ := info_parts info32
  have HO := Lib.hid (show w.ownsRow base 21 1 v L.length (ru L) from hown)
  have hnew := cell_one_new w (.int .i32 c) 21
  have HN := Lib.hid hnew
  clear hnew
  rcases List.eq_nil_or_concat L with rfl | ⟨l, a, rfl⟩
  · have hv : ∃ a cap, v = .slice a 0 cap := by
      obtain ⟨_, ⟨rfl, _⟩ | ⟨g, cap, cur, rfl, _⟩⟩ := hown
      · exact ⟨_, _, rfl⟩
      · exact ⟨_, _, rfl⟩
    obtain ⟨ad, cap, rfl⟩ := hv
    clear hown hL
    go_enter Tryd.func36, Tryd.ntmps36
    go_wp2_with (at_builtin; go_loud (refine wpList_append_own _ rfl (.tmp 24) (.tmp 26) 60 rfl base 21 i0 (.int .i32 0) 1 4 Tryd.underlying60 hi hz0 hz1 hz2 rfl (by decide) _ _ _ rfl (HO.out.alloc _) ⟨w.heap.size, 0, none⟩ 1 1 [.int .i32 c] rfl rfl HN.out (by simp [Value.oneCell']) (by unfold maxLen; have := hlen.out; omega) (by have := hlen.out; omega) (by simp; omega) ?_; intro v' w1 hown' hgrow _))
    have HR := Lib.hid hown'
    have HG := Lib.hid hgrow
    clear hown' hgrow
    go_wp2_with fail
    go_ret
    refine ⟨v', rfl, ?_, (World.grownBy_alloc _ _ _).trans HG.out⟩
    exact joi_nil c ▸ Runes.of (L := []) HR.out
  · rw [List.concat_eq_append] at *
    have ha := hL a (by simp)
    obtain ⟨g, cap, rfl, hcell, hfr, hcap1, hcap2⟩ := hown.parts
    have HW := Lib.hid hown
    have hlen2 : l.length ≤ 1000000000000 := by have := hlen.out; simp at this; omega
    have hwi := fun W => within_any a 55296 56319 W
    have hwc := fun W => within_any c 56320 57343 W
    clear hL hown
    by_cases h1 : hig a
    · rw [show (decide ((55296 : Int) ≤ a) && decide ((a : Int) ≤ 56319)) = true by unfold hig at h1; rw [← Bool.decide_and]; exact decide_eq_true (by omega)] at hwi
      by_cases h2 : low c
      · have HJ := Lib.hid (show joi (l ++ [a]) c = l ++ [65536 + (a - 55296) * 1024 + (c - 56320)] from joi_yes ⟨h1, h2⟩)
        rw [show (decide ((56320 : Int) ≤ c) && decide ((c : Int) ≤ 57343)) = true by unfold low at h2; rw [← Bool.decide_and]; exact decide_eq_true (by omega)] at hwc
        have HS := Lib.hid (HW.out.set (65536 + (a - 55296) * 1024 + (c - 56320)))
        obtain ⟨x, hx⟩ : ∃ x, x = 65536 + (a - 55296) * 1024 + (c - 56320) := ⟨_, rfl⟩
        rw [← hx] at HJ HS
        unfold hig at h1
        unfold low at h2
        have HX := Lib.hid (show ((65536 : Int) + (((a : Int) - 55296) * 1024) + ((c : Int) - 56320)) = x by omega)
        obtain ⟨h1, h3⟩ := h1
        obtain ⟨h2, h4⟩ := h2
        clear hx
        have hf : (Value.slice (some ⟨g, 0, none⟩) (l.length + 1) cap).ownBlock = some g := rfl
        generalize hm : l.length = m at *
        go_enter Tryd.func36, Tryd.ntmps36
        go_wp2_with fail
        refine (hwi _).mono ?_
        rintro en w' ⟨rfl, rfl⟩
        go_wp2_with fail
        refine (hwc _).mono ?_
        rintro en w' ⟨rfl, rfl⟩
        go_wp2_with fail
        go_ret
        rw [HX.out, HJ.out]
        exact ⟨_, rfl, HS.out, grow_set _ _ _ _⟩
      · have HJ := Lib.hid (show joi (l ++ [a]) c = l ++ [a] ++ [c] from joi_no (fun e => h2 e.2))
        rw [show (decide ((56320 : Int) ≤ c) && decide ((c : Int) ≤ 57343)) = false by unfold low at h2; rw [← Bool.decide_and]; exact decide_eq_false (by omega)] at hwc
        clear h1 h2
        generalize l.length = m at *
        go_enter Tryd.func36, Tryd.ntmps36
        go_wp2_with fail
        refine (hwi _).mono ?_
        rintro en w' ⟨rfl, rfl⟩
        go_wp2_with fail
        refine (hwc _).mono ?_
        rintro en w' ⟨rfl, rfl⟩
        go_wp2_with (at_builtin; go_loud (refine wpList_append_own _ rfl (.tmp 24) (.tmp 26) 60 rfl base 21 i0 (.int .i32 0) 1 4 Tryd.underlying60 hi hz0 hz1 hz2 rfl (by decide) _ _ _ rfl (HO.out.alloc _) ⟨w.heap.size, 0, none⟩ 1 1 [.int .i32 c] rfl rfl HN.out (by simp [Value.oneCell']) (by unfold maxLen; have := hlen.out; omega) (by have := hlen.out; omega) (by simp; omega) ?_; intro v' w1 hown' hgrow _))
        have HR := Lib.hid hown'
        have HG := Lib.hid hgrow
        clear hown' hgrow
        go_wp2_with fail
        go_ret
        refine ⟨v', rfl, ?_, (World.grownBy_alloc _ _ _).trans HG.out⟩
        rw [HJ.out]; exact Runes.of HR.out
    · have HJ := Lib.hid (show joi (l ++ [a]) c = l ++ [a] ++ [c] from joi_no (fun e => h1 e.1))
      rw [show (decide ((55296 : Int) ≤ a) && decide ((a : Int) ≤ 56319)) = false by unfold hig at h1; rw [← Bool.decide_and]; exact decide_eq_false (by omega)] at hwi
      clear h1
      generalize l.length = m at *
      go_enter Tryd.func36, Tryd.ntmps36
      go_wp2_with fail
      refine (hwi _).mono ?_
      rintro en w' ⟨rfl, rfl⟩
      go_wp2_with (at_builtin; go_loud (refine wpList_append_own _ rfl (.tmp 24) (.tmp 26) 60 rfl base 21 i0 (.int .i32 0) 1 4 Tryd.underlying60 hi hz0 hz1 hz2 rfl (by decide) _ _ _ rfl (HO.out.alloc _) ⟨w.heap.size, 0, none⟩ 1 1 [.int .i32 c] rfl rfl HN.out (by simp [Value.oneCell']) (by unfold maxLen; have := hlen.out; omega) (by have := hlen.out; omega) (by simp; omega) ?_; intro v' w1 hown' hgrow _))
      have HR := Lib.hid hown'
      have HG := Lib.hid hgrow
      clear hown' hgrow
      go_wp2_with fail
      go_ret
      refine ⟨v', rfl, ?_, (World.grownBy_alloc _ _ _).trans HG.out⟩
      rw [HJ.out]; exact Runes.of HR.out
end Go.Proofs.YtbdpghmpdghnbaaDoor
