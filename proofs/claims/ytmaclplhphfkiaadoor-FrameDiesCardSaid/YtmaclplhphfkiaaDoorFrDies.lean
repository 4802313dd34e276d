/- What comes behind a reader's death is nothing: FrameDies, walked. Conditions: such lengths as memory bears; the library's own variables as its text lays them. -/
import Derived.Test.YtmaclplhphfkiaaDoorFrLawA
namespace Go.Proofs.YtmaclplhphfkiaaDoor
open Go Go.RowKit Go.Lib F

set_option maxRecDepth 100000 in
set_option maxHeartbeats 2000000 in
theorem dies_any (vb vm : Value) (lb lm : Bs) (w : World) (hG : Grd w) (hb : ArgB w vb lb) (hm : ArgB w vm lm) :
    Calls Tryd.prog 9 #[vb, vm] w (SaysYes w) := by
  have haw := awake_any w hG
  obtain ⟨zb, cb, rfl, hb1, hb2, hrb⟩ := hb
  obtain ⟨zm, cm, rfl, hm1, hm2, hrm⟩ := hm
  have HA := Lib.hid (And.intro hrb hrm)
  clear hrb hrm
  by_cases hbig : lb.length + lm.length > 20000
  · have hbg : (lb.length : Int) + (lm.length : Int) > 20000 := by omega
    go_enter Tryd.func9, Tryd.ntmps9
    go_wp2_with fail
    refine haw.mono ?_
    rintro e w1 ⟨rfl, hB1⟩
    go_wp2_with fail
    go_ret
    exact ⟨rfl, hB1⟩
  have hbg : ¬ (lb.length : Int) + (lm.length : Int) > 20000 := by omega
  obtain ⟨i8, hi8, hz80, hz81, hz82⟩ := info_parts f8
  go_enter Tryd.func9, Tryd.ntmps9
  go_wp2_with fail
  refine haw.mono ?_
  rintro e w1 ⟨rfl, hB1⟩
  go_wp2_with fail
  refine (new_any w1).mono ?_
  rintro e w2 ⟨rfl, hX2, hB2, hs2⟩
  go_wp2_with fail
  refine (new_any w2).mono ?_
  rintro e w3 ⟨rfl, hY3, hB3, hs3⟩
  have hX3 := hX2.below hB3
  have hB13 := hB1.trans ((hB2.trans (hB3.mono hB2.size)).mono hB1.size)
  have HS := Lib.hid (And.intro hs2 hs3)
  have hB1s := Lib.hid hB1.size
  have hT0 := tail_empty w3 5
  have hnb := (HA.out.1.below (hB13.trans ((Below.refl w3.heap.size w3).alloc (Nat.le_refl _) (.cells #[] 5) |>.mono hB13.size))).news
  clear hX2 hB1 hB2 hB3 haw hs2 hs3
  go_wp2_with (at_builtin; refine wpList_append_tail _ rfl _ _ 44 rfl 5 i8 _ 1 Tryd.underlying44 hi8 hz80 hz81 hz82 rfl (.slice (some ⟨w3.heap.size, 0, none⟩) 0 0) [] rfl hT0 zb lb.length cb (c8 lb) rfl (c8_len lb) hnb (c8_one lb) ?n3 ?n4 ?_)
  case n3 => simp; unfold maxLen; omega
  case n4 => simp; omega
  intro z4 c4 w4 hT4 hg4 hat4
  have hF4 := fresh_of hT4 hg4 hat4
  have hX4 := hX3.below hF4.below
  have hY4 := hY3.below hF4.below
  have hB14 := hB13.trans (hF4.below.mono hB13.size)
  have hfe := feed_tail w1.heap.size _ (.head []) lb [] _ w4 hX4 (by show (0 : Nat) < 1024; decide) hF4.tail (fun b hb h => by have := hF4.own b hb; have := HS.out; omega) (by omega) (by decide) (env_of hG hB14 (fun b hb => by have := hB1s.out; omega))
  have hok := run_ok (.head [], []) lb (by show (0 : Nat) < 1024; decide)
  have hln := run_len2 (.head []) [] lb
  have hrm := run_more lb lm (.head [], [])
  obtain ⟨t, hkt⟩ := run_keep (run (.head [], []) lb) lm
  rw [← hrm] at hkt
  have hly := run_len2 (.head []) [] (lb ++ lm)
  obtain ⟨lbm, hlbm⟩ : ∃ q, q = lb ++ lm := ⟨_, rfl⟩
  have hlq : lbm.length ≤ 20000 := by rw [hlbm, List.length_append]; omega
  have HQ := Lib.hid (And.intro (show (c8 lb).length + lm.length = lbm.length by rw [hlbm, c8_len, List.length_append]) hlbm)
  rw [← hlbm] at hrm hkt hly
  clear hlbm
  generalize hYd : run (.head [], []) lbm = Y at *
  generalize run (.head [], []) lb = X at *
  obtain ⟨sx, ox⟩ := X
  obtain ⟨sy, oy⟩ := Y
  simp only [List.length_nil, Nat.zero_add] at hln hly
  have HP := Lib.hid (And.intro hok (And.intro hrm (And.intro hkt hYd)))
  clear hT4 hg4 hat4 hT0 hnb hX3 hY3 hX4 hB13 hok hrm hkt hYd
  go_wp2_with fail
  refine hfe.mono ?_
  rintro e w5 ⟨⟨ev, rfl, hev⟩, hA5, hX5⟩
  obtain rfl := hev rfl
  have hB15 := alt_below hB14 hA5 (fun b hb => by have := hB1s.out; omega)
  have hX5' := rd_own hX5 (fun b hb => hb)
  have hY5 := hY4.other hA5 (fun b _ h1 h2 => by have := HS.out; omega)
  have HZ5 := Lib.hid (And.intro hF4.below.size hA5.size)
  clear hF4 hX5 hA5 hY4 hB14 hfe hev
  have hT0 := tail_empty w5 5
  have hBa := hB15.trans ((Below.refl w5.heap.size w5).alloc (Nat.le_refl _) (.cells #[] 5) |>.mono hB15.size)
  have hnb := (HA.out.1.below hBa).news
  go_wp2_with (at_builtin; refine wpList_append_tail _ rfl _ _ 44 rfl 5 i8 _ 1 Tryd.underlying44 hi8 hz80 hz81 hz82 rfl (.slice (some ⟨w5.heap.size, 0, none⟩) 0 0) [] rfl hT0 zb lb.length cb (c8 lb) rfl (c8_len lb) hnb (c8_one lb) ?n3 ?n4 ?_)
  case n3 => simp; unfold maxLen; omega
  case n4 => simp; omega
  intro z6 c6 w6 hT6 hg6 hat6
  have hF6 := fresh_of hT6 hg6 hat6
  have hB16 := hB15.trans (hF6.below.mono hB15.size)
  have hnm := (HA.out.2.below hB16).news
  have hT6' := hF6.tail
  clear hT6 hg6 hat6 hT0 hnb hBa
  go_wp2_with (at_builtin; refine wpList_append_tail _ rfl _ _ 44 rfl 5 i8 _ 1 Tryd.underlying44 hi8 hz80 hz81 hz82 rfl (.slice z6 lb.length c6) (c8 lb) rfl hT6' zm lm.length cm (c8 lm) rfl (c8_len lm) hnm (c8_one lm) ?n3 ?n4 ?_)
  case n3 => rw [c8_len]; unfold maxLen; omega
  case n4 => rw [c8_len]; omega
  intro z7 c7 w7 hT7 hg7 hat7
  have hF7 := fresh_more hF6 hT7 hg7 hat7
  rw [← HQ.out.2] at hF7
  rw [HQ.out.1] at hF7 ⊢
  have hX7 := hX5'.below hF7.below
  have hY7 := hY5.below hF7.below
  have hB17 := hB15.trans (hF7.below.mono hB15.size)
  have hfe := feed_tail w2.heap.size _ (.head []) lbm [] _ w7 hY7 (by show (0 : Nat) < 1024; decide) hF7.tail (fun b hb h => by have := hF7.own b hb; have := HS.out; have := HZ5.out; omega) (by omega) (by decide) (env_of hG hB17 (fun b hb => by have := hB1s.out; have := HS.out; omega))
  rw [HP.out.2.2.2] at hfe
  have hs57 := hF7.below.size
  clear hT7 hg7 hat7 hT6' hF6 hF7 hB16 hnm hX5' hY5 hB15
  go_wp2_with fail
  refine hfe.mono ?_
  rintro e w8 ⟨⟨ev, rfl, hev⟩, hA8, hY8⟩
  clear hev hfe
  have hB18 := alt_below hB17 hA8 (fun b hb => by have := hB1s.out; have := HS.out; omega)
  have hY8' := rd_own hY8 (fun b hb => hb)
  have hX8 := hX7.other hA8 (fun b _ h1 h2 => by
    have := HS.out; have := HZ5.out
    rcases h1 with h1 | h1 <;> omega)
  have hhx := heard_any w1.heap.size sx ox _ w8 hX8 (by omega)
  have hs78 := hA8.size
  clear hY8 hX7 hA8 hB17 hY7
  go_wp2_with fail
  refine hhx.mono ?_
  rintro e w9 ⟨v9, rfl, hr9, hA9, hX9⟩
  have hB19 := alt_below hB18 hA9 (fun b hb => by
    have := hB1s.out; have := HS.out; have := HZ5.out
    rcases hb with hb | hb <;> omega)
  have hY9 := hY8'.other hA9 (fun b _ h1 h2 => by
    have := HS.out; have := HZ5.out
    rcases h1 with h1 | h1 <;> rcases h2 with h2 | h2 <;> omega)
  have hhy := heard_any w2.heap.size sy oy _ w9 hY9 (by omega)
  have hs89 := hA9.size
  clear hA9 hhx hX8 hY8' hB18
  go_wp2_with fail
  refine hhy.mono ?_
  rintro e w10 ⟨v10, rfl, hr10, hA10, hY10⟩
  have hB110 := alt_below hB19 hA10 (fun b hb => by
    have := hB1s.out; have := HS.out; have := HZ5.out
    rcases hb with hb | hb <;> omega)
  have hX10 := hX9.other hA10 (fun b _ h1 h2 => by
    have := HS.out; have := HZ5.out
    rcases h1 with h1 | h1 <;> rcases h2 with h2 | h2 <;> omega)
  have hr9' := row_alt hr9 hA10 (fun b _ hb => by
    have := HS.out; have := HZ5.out
    rcases hb with hb | hb <;> omega)
  obtain ⟨z9, c9, rfl, hc9, hd9⟩ := RdS.of_row hr9'
  obtain ⟨z10, c10, rfl, hc10, hd10⟩ := RdS.of_row hr10
  clear hr9 hr9' hr10 hA10 hhy hX9 hY9 hB19
  obtain ⟨hok, hrm, hkt, hY⟩ := HP.out
  have hHB := Lib.hid hB110
  clear hB110
  generalize hEV : sx.err = EV
  by_cases h0 : EV = 0
  · have t0 : ((EV : Int) == 0) = true := by rw [h0]; rfl
    have hge : ox.length ≤ oy.length := by rw [hkt, List.length_append]; omega
    have hge2 : (ox.length : Int) ≤ (c10 : Int) := by omega
    have hge3 : (oy.length : Int) ≥ (ox.length : Int) := by omega
    have hd := dead_at w1.heap.size _ _ _ w10 hX10
    rw [hEV] at hd
    have hsm := same_any (.slice z10 ox.length c10) (.slice z9 ox.length c9) ox ox w10 ⟨z10, c10, rfl, by omega, fun j x hj => hd10 j x (by rw [hkt, List.getElem?_append_left (List.getElem?_eq_some_iff.1 hj).1]; exact hj)⟩ ⟨z9, c9, rfl, hc9, hd9⟩ (by omega)
    rw [decide_eq_true rfl] at hsm
    clear hrm hkt hY hd9 hd10 hX10 hY10 h0 hEV
    go_wp2_with fail
    refine hd.mono ?_
    rintro e w' ⟨rfl, rfl⟩
    go_wp2_with fail
    refine hsm.mono ?_
    rintro e w' ⟨rfl, q, rfl⟩
    go_wp2_with fail
    go_ret
    exact ⟨rfl, below_drewN hHB.out q⟩
  · have hE : ∃ E, sx = .dead E ∧ (E = 50 ∨ E = 51) := by
      cases sx with
      | head p => exact absurd hEV.symm h0
      | body n p => exact absurd hEV.symm h0
      | dead E => exact ⟨E, rfl, hok⟩
    obtain ⟨E, rfl, hE⟩ := hE
    obtain rfl : E = EV := hEV
    rw [run_dead] at hrm
    obtain ⟨rfl, rfl⟩ := Prod.mk.inj hrm
    have hd1 : Calls Tryd.prog _ _ _ (Stay (.int .i64 (E : Nat)) w10) := dead_at w1.heap.size _ _ _ w10 hX10
    have hd2 : Calls Tryd.prog _ _ _ (Stay (.int .i64 (E : Nat)) w10) := dead_at w2.heap.size _ _ _ w10 hY10
    have hsm := same_any (.slice z9 oy.length c9) (.slice z10 oy.length c10) oy oy w10 ⟨z9, c9, rfl, hc9, hd9⟩ ⟨z10, c10, rfl, hc10, hd10⟩ (by omega)
    rw [decide_eq_true rfl] at hsm
    have hfd := fun q => feed_dead w1.heap.size E (.slice zm lm.length cm) [] _ (w10.drewN q) (hX10.other (B := fun _ => False) (Alt.drewN _ _ q) (fun _ _ _ h => h)) (by omega)
    clear hkt hY hd9 hd10 hX10 hY10 hrm h0 hok
    rcases hE with rfl | rfl
    all_goals
      go_wp2_with fail
      refine hd1.mono ?_
      rintro e w' ⟨rfl, rfl⟩
      go_wp2_with fail
      refine hd2.mono ?_
      rintro e w' ⟨rfl, rfl⟩
      go_wp2_with fail
      refine hsm.mono ?_
      rintro e w' ⟨rfl, q, rfl⟩
      go_wp2_with fail
      refine (hfd q).mono ?_
      rintro e w' ⟨rfl, rfl⟩
      go_wp2_with fail
      go_ret
      exact ⟨rfl, below_drewN hHB.out q⟩
theorem diesLaw_any (vb : Value) (lb : Bs) (vm : Value) (lm : Bs) (w : World) (hb : ArgB w vb lb) (hm : ArgB w vm lm) (hG : Grd w) :
    Calls Tryd.prog 9 #[vb, vm] w (SaysYes w) := dies_any vb vm lb lm w hG hb hm
end Go.Proofs.YtmaclplhphfkiaaDoor
