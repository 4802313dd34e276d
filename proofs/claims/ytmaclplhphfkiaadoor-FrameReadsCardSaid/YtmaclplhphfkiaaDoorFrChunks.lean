/- In whatever pieces bytes come, all is the same: FrameChunks, walked. Conditions: such lengths as memory bears; the library's own variables as its text lays them. -/
import Derived.Test.YtmaclplhphfkiaaDoorFrCutB
namespace Go.Proofs.YtmaclplhphfkiaaDoor
open Go Go.RowKit Go.Lib F

theorem argI_pc {A : Nat → Prop} {w W : World} {v : Value} {ps : List Int} (h : ArgI w v ps) (hB : Below w.heap.size w W) (hA : ∀ b, A b → w.heap.size ≤ b) : PcI A W v ps := by
  obtain ⟨z, cap, rfl, hc, -, hr, -⟩ := h
  refine ⟨z, cap, rfl, hc, fun j p hj => ?_⟩
  obtain ⟨g, off, rfl, hcell⟩ := hr j p hj
  have hlt := World.block_lt_of_cell? w _ hcell
  exact ⟨g, off, rfl, fun ha => by have := hA g ha; have : g < w.heap.size := hlt; omega, cell_block hcell (hB.block _ hlt)⟩
set_option maxRecDepth 100000 in
set_option maxHeartbeats 2000000 in
theorem chunks_any (vb vp : Value) (lb : Bs) (ps : List Int) (w : World) (hG : Grd w) (hb : ArgB w vb lb) (hp : ArgI w vp ps) :
    Calls Tryd.prog 7 #[vb, vp] w (SaysYes w) := by
  have haw := awake_any w hG
  have HP := Lib.hid hp
  obtain ⟨zb, cb, rfl, hb1, hb2, hrb⟩ := hb
  obtain ⟨zp, cp, rfl, hp1, hp2, -, hpb⟩ := hp
  have HA := Lib.hid hrb
  have HPB := Lib.hid hpb
  clear hrb hpb
  by_cases hbig : lb.length > 20000
  · have hbg : (lb.length : Int) > 20000 := by omega
    go_enter Tryd.func7, Tryd.ntmps7
    go_wp2_with fail
    refine haw.mono ?_
    rintro e w1 ⟨rfl, hB1⟩
    go_wp2_with fail
    go_ret
    exact ⟨rfl, hB1⟩
  have hbg : ¬ (lb.length : Int) > 20000 := by omega
  by_cases hbigp : ps.length > 400
  · have hbgp : (ps.length : Int) > 400 := by omega
    go_enter Tryd.func7, Tryd.ntmps7
    go_wp2_with fail
    refine haw.mono ?_
    rintro e w1 ⟨rfl, hB1⟩
    go_wp2_with fail
    go_ret
    exact ⟨rfl, hB1⟩
  have hbgp : ¬ (ps.length : Int) > 400 := by omega
  obtain ⟨i8, hi8, hz80, hz81, hz82⟩ := info_parts f8
  go_enter Tryd.func7, Tryd.ntmps7
  go_wp2_with fail
  refine haw.mono ?_
  rintro e w1 ⟨rfl, hB1⟩
  go_wp2_with fail
  refine (new_any w1).mono ?_
  rintro e w2 ⟨rfl, hX2, hB2, hs2⟩
  have HS2 := Lib.hid hs2
  clear hs2
  go_wp2_with fail
  refine (new_any w2).mono ?_
  rintro e w3 ⟨rfl, hY3, hB3, hs3⟩
  have HS3 := Lib.hid hs3
  clear hs3
  go_wp2_with fail
  refine (new_any w3).mono ?_
  rintro e w4 ⟨rfl, hZ4, hB4, hs4⟩
  have hX4 := (hX2.below hB3).below hB4
  have hY4 := hY3.below hB4
  have hB14 := hB1.trans (((hB2.trans (hB3.mono hB2.size)).trans (hB4.mono (Nat.le_trans hB2.size hB3.size))).mono hB1.size)
  have HS := Lib.hid (And.intro HS2.out (And.intro HS3.out (And.intro hs4 hB1.size)))
  clear hX2 hY3 hB1 hB2 hB3 hB4 haw HS2 HS3 hs4
  have hT0 := tail_empty w4 5
  have hnb := (HA.out.below (hB14.trans ((Below.refl w4.heap.size w4).alloc (Nat.le_refl _) (.cells #[] 5) |>.mono hB14.size))).news
  go_wp2_with (at_builtin; refine wpList_append_tail _ rfl _ _ 44 rfl 5 i8 _ 1 Tryd.underlying44 hi8 hz80 hz81 hz82 rfl (.slice (some ⟨w4.heap.size, 0, none⟩) 0 0) [] rfl hT0 zb lb.length cb (c8 lb) rfl (c8_len lb) hnb (c8_one lb) ?n3 ?n4 ?_)
  case n3 => simp; unfold maxLen; omega
  case n4 => simp; omega
  intro z5 c5 w5 hT5 hg5 hat5
  have hF5 := fresh_of hT5 hg5 hat5
  have hX5 := hX4.below hF5.below
  have hY5 := hY4.below hF5.below
  have hZ5 := hZ4.below hF5.below
  have hB15 := hB14.trans (hF5.below.mono hB14.size)
  have hfe := feed_tail w1.heap.size _ (.head []) lb [] _ w5 hX5 (by show (0 : Nat) < 1024; decide) hF5.tail (fun b hb h => by have := hF5.own b hb; have := HS.out; omega) (by omega) (by decide) (env_of hG hB15 (fun b hb => by have := HS.out; omega))
  have hok := run_ok (.head [], []) lb (by show (0 : Nat) < 1024; decide)
  have hln := run_len2 (.head []) [] lb
  have HX := Lib.hid (rfl : run (.head [], []) lb = run (.head [], []) lb)
  generalize hXd : run (.head [], []) lb = X at hfe hok hln
  clear HX
  obtain ⟨sx, ox⟩ := X
  simp only [List.length_nil, Nat.zero_add] at hln
  have HX := Lib.hid hXd
  clear hT5 hg5 hat5 hT0 hnb hX4 hY4 hZ4 hX5 hB14 hok hXd
  go_wp2_with fail
  refine hfe.mono ?_
  rintro e w6 ⟨⟨ev, rfl, -⟩, hA6, hX6⟩
  have hB16 := alt_below hB15 hA6 (fun b hb => by have := HS.out; omega)
  have hX6' := rd_own hX6 (fun b hb => hb)
  have hY6 := hY5.other hA6 (fun b _ h1 h2 => by have := HS.out; omega)
  have hZ6 := hZ5.other hA6 (fun b _ h1 h2 => by have := HS.out; omega)
  have HZ6 := Lib.hid (And.intro hF5.below.size hA6.size)
  clear hF5 hX6 hA6 hY5 hZ5 hB15 hfe
  have hT0 := tail_empty w6 5
  have hBa := hB16.trans ((Below.refl w6.heap.size w6).alloc (Nat.le_refl _) (.cells #[] 5) |>.mono hB16.size)
  have hnb := (HA.out.below hBa).news
  go_wp2_with (at_builtin; refine wpList_append_tail _ rfl _ _ 44 rfl 5 i8 _ 1 Tryd.underlying44 hi8 hz80 hz81 hz82 rfl (.slice (some ⟨w6.heap.size, 0, none⟩) 0 0) [] rfl hT0 zb lb.length cb (c8 lb) rfl (c8_len lb) hnb (c8_one lb) ?n3 ?n4 ?_)
  case n3 => simp; unfold maxLen; omega
  case n4 => simp; omega
  intro z7 c7 w7 hT7 hg7 hat7
  have hF7 := fresh_of hT7 hg7 hat7
  have hB17 := hB16.trans (hF7.below.mono hB16.size)
  have hX7 := hX6'.below hF7.below
  have hY7 := hY6.below hF7.below
  have hZ7 := hZ6.below hF7.below
  have hcu := cut_tail w2.heap.size _ (.head []) lb [] (.slice zp ps.length cp) ps _ w7 hY7 (by show (0 : Nat) < 1024; decide) hF7.tail (fun b hb h => by have := hF7.own b hb; have := HS.out; have := HZ6.out; omega) (by omega) (by decide) (env_of hG hB17 (fun b hb => by have := HS.out; omega))
    (argI_pc HP.out hB17 (fun b hb => by have := HS.out; omega)) (by omega) (fun p hp => (HPB.out p hp).2)
  rw [HX.out] at hcu
  have hs67 := hF7.below.size
  clear hT7 hg7 hat7 hT0 hnb hBa hF7 hX6' hY6 hZ6 hB16 hY7
  go_wp2_with fail
  refine hcu.mono ?_
  rintro e w8 ⟨rfl, hA8, hY8⟩
  have hB18 := alt_below hB17 hA8 (fun b hb => by have := HS.out; omega)
  have hY8' := rd_own hY8 (fun b hb => hb)
  have hX8 := hX7.other hA8 (fun b _ h1 h2 => by
    have := HS.out; have := HZ6.out
    rcases h1 with h1 | h1 <;> omega)
  have hZ8 := hZ7.other hA8 (fun b _ h1 h2 => by have := HS.out; omega)
  have HZ8 := Lib.hid (And.intro hs67 hA8.size)
  clear hcu hX7 hZ7 hA8 hY8 hB17 hs67
  by_cases h3k : lb.length ≤ 3000
  · have hk3 : (lb.length : Int) ≤ 3000 := by omega
    have hk3' : ¬ (lb.length : Int) > 3000 := by omega
    have H0 := Lib.hid (show FdAt (fun b => b = w3.heap.size) w3.heap.size lb (.head [], []) 0 w8 w8 from ⟨Alt.refl _ _, hZ8.imp fun b _ h => .inl h⟩)
    have HK := Lib.hid (And.intro hX8 (And.intro hY8' hB18))
    clear hX8 hY8' hZ8 hB18
    go_wp2_with fail
    go_loopw [8] (fun i wr => ∃ k : Nat, k ≤ lb.length ∧ i = .int .i64 k ∧ Hid (FdAt (fun b => b = w3.heap.size) w3.heap.size lb (.head [], []) k w8 wr)) (fun i _ => lb.length - (RowKit.intOf i).toNat)
    case atStart => exact ⟨0, Nat.zero_le _, rfl, H0⟩
    case round =>
      obtain ⟨k, hk, rfl, HF⟩ := hrel
      have HBr := Lib.hid (alt_below HK.out.2.2 HF.out.1 (fun b hb => by have := HS.out; omega))
      by_cases hlt : k < lb.length
      · obtain ⟨g, off, rfl, hc0⟩ := HA.out k _ (List.getElem?_eq_getElem hlt)
        have hgw : g < w.heap.size := World.block_lt_of_cell? w _ hc0
        have h8 : At8 wr g off lb := fun j x hj => by
          obtain ⟨g', off', e, hc⟩ := HA.out j x hj
          cases e
          exact cell_block hc (HBr.out.block _ hgw)
        have hok := run_ok (.head [], []) (lb.take k) (by show (0 : Nat) < 1024; decide)
        have hlo := run_len2 (.head []) [] (lb.take k)
        have hlt2 : (lb.take k).length ≤ 20000 := by rw [List.length_take]; omega
        have hle1 : ((lb.drop k).take 1).length = 1 := by rw [List.length_take, List.length_drop]; omega
        have hf := feed_gen w3.heap.size g (off + k) 1 (run (.head [], []) (lb.take k)).1 ((lb.drop k).take 1) (run (.head [], []) (lb.take k)).2 (Grow (fun b => b = w3.heap.size) w8) wr HF.out.2 hok (by omega) (by decide) (by omega) (by simp only [List.length_nil] at hlo; omega) ((h8.drop k).take 1)
          (fun _ h => by have := HS.out; have := HZ6.out; have := HZ8.out; rcases h with h | h <;> omega) (env_of hG HBr.out (fun b hb => by have := HS.out; have := HZ6.out; have := HZ8.out; rcases hb with hb | hb <;> omega))
        rw [hle1] at hf
        have HN := Lib.hid (fun e w1 (h : FedOut (Grow (fun b => b = w3.heap.size) w8) w3.heap.size (run (run (.head [], []) (lb.take k)) ((lb.drop k).take 1)) wr e w1) => cut_next HF.out h)
        have hkc : (k : Int) + 1 ≤ (cb : Int) := by omega
        clear hc0 h8 hok hlo hlt2 hle1
        go_wp2_with fail
        refine hf.mono ?_
        rintro e w1' hr
        obtain ⟨⟨v', rfl⟩, hfd⟩ := HN.out _ _ hr
        have HF2 := Lib.hid hfd
        clear hr hfd hf
        go_wp2_with fail
        go_roundw
        case rel => exact ⟨k + 1, hlt, by go_num, HF2⟩
        case measure => simp [RowKit.intOf]; omega
      · obtain rfl : k = lb.length := by omega
        obtain ⟨hX8, hY8', hB18⟩ := HK.out
        obtain ⟨hAz, hZr⟩ := HF.out
        rw [List.take_length, HX.out] at hZr
        obtain ⟨wz, hwz⟩ : ∃ wz, wz = wr := ⟨_, rfl⟩
        subst hwz
        have hBz := HBr.out
        have hXz := hX8.other hAz (fun b _ h1 h2 => by have := HS.out; have := HZ6.out; rcases h1 with h1 | h1 <;> omega)
        have hYz := hY8'.other hAz (fun b _ h1 h2 => by have := HS.out; have := HZ6.out; have := HZ8.out; rcases h1 with h1 | h1 <;> omega)
        have hZz := rd_own hZr (fun b hb => hb)
        have HZz := Lib.hid hAz.size
        clear hX8 hY8' hB18 hAz hZr HF HBr H0 HK
        have hd := fun W (h : RdAt W (Own3 w1.heap.size w5.heap.size w6.heap.size) w1.heap.size sx []) => dead_at w1.heap.size _ _ _ W h
        have hdy := fun W (h : RdAt W (Own3 w2.heap.size w7.heap.size w8.heap.size) w2.heap.size sx ox) => dead_at w2.heap.size _ _ _ W h
        have hdz := fun W (h : RdAt W (Own3 w3.heap.size w8.heap.size wz.heap.size) w3.heap.size sx ox) => dead_at w3.heap.size _ _ _ W h
        have hee : (((sx.err : Nat) : Int) == ((sx.err : Nat) : Int)) = true := by simp
        generalize sx.err = EV at *
        have hhx := heard_any w1.heap.size sx ox _ wz hXz (by omega)
        go_wp2_with fail
        refine hhx.mono ?_
        rintro e w9 ⟨v9, rfl, hr9, hA9, hX9⟩
        have hs9 := hA9.size
        have hB19 := alt_below hBz hA9 (fun b hb => by
          have := HS.out; have := HZ6.out
          rcases hb with hb | hb <;> omega)
        have hY9 := hYz.other hA9 (fun b _ h1 h2 => by
          have := HS.out; have := HZ6.out; have := HZ8.out
          rcases h1 with h1 | h1 <;> rcases h2 with h2 | h2 <;> omega)
        have hZ9 := hZz.other hA9 (fun b _ h1 h2 => by
          have := HS.out; have := HZ6.out; have := HZ8.out
          rcases h1 with h1 | h1 <;> rcases h2 with h2 | h2 <;> omega)
        have HS9 := Lib.hid hs9
        clear hA9 hhx hXz hYz hZz hBz hs9
        have hd9 := hd w9 (hX9.imp fun b _ h => h)
        have hdy9 := hdy w9 hY9
        have hhy := heard_any w2.heap.size sx ox _ w9 hY9 (by omega)
        obtain ⟨zl, cl, rfl, hcl, -⟩ := RdS.of_row hr9
        go_wp2_with fail
        refine hd9.mono ?_
        rintro e w' ⟨rfl, rfl⟩
        go_wp2_with fail
        refine hdy9.mono ?_
        rintro e w' ⟨rfl, rfl⟩
        clear hd9 hdy9
        go_wp2_with fail
        refine hhy.mono ?_
        rintro e w10 ⟨v10, rfl, hr10, hA10, hY10⟩
        have hs10 := hA10.size
        have hB110 := alt_below hB19 hA10 (fun b hb => by
          have := HS.out; have := HZ6.out; have := HZ8.out
          rcases hb with hb | hb <;> omega)
        have hX10 := hX9.other hA10 (fun b _ h1 h2 => by
          have := HS.out; have := HZ6.out; have := HZ8.out
          rcases h1 with h1 | h1 <;> rcases h2 with h2 | h2 <;> omega)
        have hZ10 := hZ9.other hA10 (fun b _ h1 h2 => by
          have := HS.out; have := HZ6.out; have := HZ8.out
          rcases h1 with h1 | h1 <;> rcases h2 with h2 | h2 <;> omega)
        have hr9' := row_alt hr9 hA10 (fun b _ hb => by
          have := HS.out; have := HZ6.out; have := HZ8.out; have := HZz.out
          rcases hb with hb | hb <;> omega)
        have hrd9 := RdS.of_row hr9'
        have hrd10 := RdS.of_row hr10
        have hsm := same_any _ _ ox ox w10 hrd9 hrd10 (by omega)
        rw [decide_eq_true rfl] at hsm
        obtain ⟨zy, cy, rfl, hcy, -⟩ := RdS.of_row hr10
        have HS10 := Lib.hid hs10
        clear hr9 hr10 hA10 hhy hX9 hY9 hZ9 hB19 hs10 hrd10 hdy hY10
        go_wp2_with fail
        refine hsm.mono ?_
        rintro e w' ⟨rfl, q, rfl⟩
        have hXq := hX10.other (B := fun _ => False) (Alt.drewN _ _ q) (fun _ _ _ h => h)
        have hZq := hZ10.other (B := fun _ => False) (Alt.drewN _ _ q) (fun _ _ _ h => h)
        have hd10 := hd (w10.drewN q) hXq
        have hdz10 := hdz (w10.drewN q) hZq
        have hhz := heard_any w3.heap.size sx ox _ (w10.drewN q) hZq (by omega)
        have hrq : (w10.drewN q).ownsRow wz.heap.size 9 1 (.slice zl ox.length cl) ox.length (strs ox) := hr9'
        clear hX10 hZ10 hsm hr9' hrd9 hd hdz
        go_wp2_with fail
        refine hd10.mono ?_
        rintro e w' ⟨rfl, rfl⟩
        go_wp2_with fail
        refine hdz10.mono ?_
        rintro e w' ⟨rfl, rfl⟩
        clear hd10 hdz10
        go_wp2_with fail
        refine hhz.mono ?_
        rintro e w11 ⟨v11, rfl, hr11, hA11, hZ11⟩
        have hB111 := alt_below (below_drewN hB110 q) hA11 (fun b hb => by
          have := HS.out; have := HZ6.out; have := HZ8.out; have := HZz.out
          rcases hb with hb | hb <;> omega)
        have hrq' := row_alt hrq hA11 (fun b _ hb => by
          have := HS.out; have := HZ6.out; have := HZ8.out; have := HZz.out
          rcases hb with hb | hb <;> omega)
        have hsm := same_any _ _ ox ox w11 (RdS.of_row hrq') (RdS.of_row hr11) (by omega)
        rw [decide_eq_true rfl] at hsm
        obtain ⟨zq, cq, rfl, hcq, -⟩ := RdS.of_row hr11
        have HB := Lib.hid hB111
        clear hr11 hA11 hhz hrq hrq' hB110 hB111 hXq hZq hZ11
        go_wp2_with fail
        refine hsm.mono ?_
        rintro e w' ⟨rfl, q2, rfl⟩
        go_wp2_with fail
        go_ret
        exact ⟨rfl, below_drewN HB.out q2⟩
  · have hne : 0 < lb.length := by omega
    have hk3 : ¬ (lb.length : Int) ≤ 3000 := by omega
    have hk3' : (lb.length : Int) > 3000 := by omega
    have hne' : (0 : Int) < (lb.length : Int) := by omega
    obtain ⟨g, off, rfl, hc0⟩ := HA.out 0 _ (List.getElem?_eq_getElem hne)
    have hgw : g < w.heap.size := World.block_lt_of_cell? w _ hc0
    have h8 : At8 w8 g off lb := fun j x hj => by
      obtain ⟨g', off', e, hc⟩ := HA.out j x hj
      cases e
      exact cell_block hc (hB18.block _ hgw)
    have hf := feed_gen w3.heap.size g off cb (.head []) lb [] (fun b => b = w3.heap.size) w8 hZ8 (by show (0 : Nat) < 1024; decide) hb1 (by omega) (by omega) (by decide) h8
      (fun _ h => by have := HS.out; omega) (env_of hG hB18 (fun b hb => by have := HS.out; omega))
    rw [HX.out] at hf
    have HK := Lib.hid (And.intro hX8 (And.intro hY8' hB18))
    clear hc0 h8 hX8 hY8' hZ8 hB18
    go_wp2_with fail
    go_loopw [8] (fun i wr => i = .int .i64 0 ∧ w8 = wr) (fun _ _ => 0)
    case atStart => exact ⟨rfl, rfl⟩
    case round =>
      obtain ⟨rfl, rfl⟩ := hrel
      go_wp2_with fail
      refine hf.mono ?_
      rintro e wz ⟨⟨v', rfl⟩, hAz, hZr⟩
      obtain ⟨hX8, hY8', hB18⟩ := HK.out
      have hBz := alt_below hB18 hAz (fun b hb => by have := HS.out; omega)
      have hXz := hX8.other hAz (fun b _ h1 h2 => by have := HS.out; have := HZ6.out; rcases h1 with h1 | h1 <;> omega)
      have hYz := hY8'.other hAz (fun b _ h1 h2 => by have := HS.out; have := HZ6.out; have := HZ8.out; rcases h1 with h1 | h1 <;> omega)
      have hZz := rd_own hZr (fun b hb => hb)
      have HZz := Lib.hid hAz.size
      clear hX8 hY8' hB18 hAz hZr HK hf
      have hd := fun W (h : RdAt W (Own3 w1.heap.size w5.heap.size w6.heap.size) w1.heap.size sx []) => dead_at w1.heap.size _ _ _ W h
      have hdy := fun W (h : RdAt W (Own3 w2.heap.size w7.heap.size w8.heap.size) w2.heap.size sx ox) => dead_at w2.heap.size _ _ _ W h
      have hdz := fun W (h : RdAt W (Own3 w3.heap.size w8.heap.size wz.heap.size) w3.heap.size sx ox) => dead_at w3.heap.size _ _ _ W h
      have hee : (((sx.err : Nat) : Int) == ((sx.err : Nat) : Int)) = true := by simp
      generalize sx.err = EV at *
      have hhx := heard_any w1.heap.size sx ox _ wz hXz (by omega)
      go_wp2_with fail
      refine hhx.mono ?_
      rintro e w9 ⟨v9, rfl, hr9, hA9, hX9⟩
      have hs9 := hA9.size
      have hB19 := alt_below hBz hA9 (fun b hb => by
        have := HS.out; have := HZ6.out
        rcases hb with hb | hb <;> omega)
      have hY9 := hYz.other hA9 (fun b _ h1 h2 => by
        have := HS.out; have := HZ6.out; have := HZ8.out
        rcases h1 with h1 | h1 <;> rcases h2 with h2 | h2 <;> omega)
      have hZ9 := hZz.other hA9 (fun b _ h1 h2 => by
        have := HS.out; have := HZ6.out; have := HZ8.out
        rcases h1 with h1 | h1 <;> rcases h2 with h2 | h2 <;> omega)
      have HS9 := Lib.hid hs9
      clear hA9 hhx hXz hYz hZz hBz hs9
      have hd9 := hd w9 (hX9.imp fun b _ h => h)
      have hdy9 := hdy w9 hY9
      have hhy := heard_any w2.heap.size sx ox _ w9 hY9 (by omega)
      obtain ⟨zl, cl, rfl, hcl, -⟩ := RdS.of_row hr9
      go_wp2_with fail
      refine hd9.mono ?_
      rintro e w' ⟨rfl, rfl⟩
      go_wp2_with fail
      refine hdy9.mono ?_
      rintro e w' ⟨rfl, rfl⟩
      clear hd9 hdy9
      go_wp2_with fail
      refine hhy.mono ?_
      rintro e w10 ⟨v10, rfl, hr10, hA10, hY10⟩
      have hs10 := hA10.size
      have hB110 := alt_below hB19 hA10 (fun b hb => by
        have := HS.out; have := HZ6.out; have := HZ8.out
        rcases hb with hb | hb <;> omega)
      have hX10 := hX9.other hA10 (fun b _ h1 h2 => by
        have := HS.out; have := HZ6.out; have := HZ8.out
        rcases h1 with h1 | h1 <;> rcases h2 with h2 | h2 <;> omega)
      have hZ10 := hZ9.other hA10 (fun b _ h1 h2 => by
        have := HS.out; have := HZ6.out; have := HZ8.out
        rcases h1 with h1 | h1 <;> rcases h2 with h2 | h2 <;> omega)
      have hr9' := row_alt hr9 hA10 (fun b _ hb => by
        have := HS.out; have := HZ6.out; have := HZ8.out; have := HZz.out
        rcases hb with hb | hb <;> omega)
      have hrd9 := RdS.of_row hr9'
      have hrd10 := RdS.of_row hr10
      have hsm := same_any _ _ ox ox w10 hrd9 hrd10 (by omega)
      rw [decide_eq_true rfl] at hsm
      obtain ⟨zy, cy, rfl, hcy, -⟩ := RdS.of_row hr10
      have HS10 := Lib.hid hs10
      clear hr9 hr10 hA10 hhy hX9 hY9 hZ9 hB19 hs10 hrd10 hdy hY10
      go_wp2_with fail
      refine hsm.mono ?_
      rintro e w' ⟨rfl, q, rfl⟩
      have hXq := hX10.other (B := fun _ => False) (Alt.drewN _ _ q) (fun _ _ _ h => h)
      have hZq := hZ10.other (B := fun _ => False) (Alt.drewN _ _ q) (fun _ _ _ h => h)
      have hd10 := hd (w10.drewN q) hXq
      have hdz10 := hdz (w10.drewN q) hZq
      have hhz := heard_any w3.heap.size sx ox _ (w10.drewN q) hZq (by omega)
      have hrq : (w10.drewN q).ownsRow wz.heap.size 9 1 (.slice zl ox.length cl) ox.length (strs ox) := hr9'
      clear hX10 hZ10 hsm hr9' hrd9 hd hdz
      go_wp2_with fail
      refine hd10.mono ?_
      rintro e w' ⟨rfl, rfl⟩
      go_wp2_with fail
      refine hdz10.mono ?_
      rintro e w' ⟨rfl, rfl⟩
      clear hd10 hdz10
      go_wp2_with fail
      refine hhz.mono ?_
      rintro e w11 ⟨v11, rfl, hr11, hA11, hZ11⟩
      have hB111 := alt_below (below_drewN hB110 q) hA11 (fun b hb => by
        have := HS.out; have := HZ6.out; have := HZ8.out; have := HZz.out
        rcases hb with hb | hb <;> omega)
      have hrq' := row_alt hrq hA11 (fun b _ hb => by
        have := HS.out; have := HZ6.out; have := HZ8.out; have := HZz.out
        rcases hb with hb | hb <;> omega)
      have hsm := same_any _ _ ox ox w11 (RdS.of_row hrq') (RdS.of_row hr11) (by omega)
      rw [decide_eq_true rfl] at hsm
      obtain ⟨zq, cq, rfl, hcq, -⟩ := RdS.of_row hr11
      have HB := Lib.hid hB111
      clear hr11 hA11 hhz hrq hrq' hB110 hB111 hXq hZq hZ11
      go_wp2_with fail
      refine hsm.mono ?_
      rintro e w' ⟨rfl, q2, rfl⟩
      go_wp2_with fail
      go_ret
      exact ⟨rfl, below_drewN HB.out q2⟩
theorem chunksLaw_any (vb : Value) (lb : Bs) (vp : Value) (ps : List Int) (w : World) (hb : ArgB w vb lb) (hp : ArgI w vp ps) (hG : Grd w) :
    Calls Tryd.prog 7 #[vb, vp] w (SaysYes w) := chunks_any vb vp lb ps w hG hb hp
end Go.Proofs.YtmaclplhphfkiaaDoor
