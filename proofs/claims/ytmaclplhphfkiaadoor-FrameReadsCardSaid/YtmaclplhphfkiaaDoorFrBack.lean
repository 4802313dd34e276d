/- Messages that were written are read just so: FrameBack, walked. Conditions: such lengths as memory bears; the library's own variables as its text lays them. -/
import Derived.Test.YtmaclplhphfkiaaDoorFrCutB
import Derived.Test.YtmaclplhphfkiaaDoorFrHdr
import Derived.Test.YtmaclplhphfkiaaDoorFrChunks
import Derived.Laws.IdiomStrings
namespace Go.Proofs.YtmaclplhphfkiaaDoor
open Go Go.RowKit Go.Lib F

namespace F
def msg (b : Bs) : Bs := (FW.wr (ba b)).data.toList
def msgs (ls : List Bs) : Bs := ls.flatMap msg
/-- the sum of the first lengths -/
def sm (ls : List Bs) (k : Nat) : Nat := ((ls.take k).map fun b => min b.length 262144).sum
theorem take_snoc {ls : List Bs} {k : Nat} (h : k < ls.length) : ls.take (k + 1) = ls.take k ++ [ls[k]] := by
  rw [List.take_add_one, List.getElem?_eq_getElem h]; rfl
theorem sm_succ {ls : List Bs} {k : Nat} (h : k < ls.length) : sm ls (k + 1) = sm ls k + min (ls[k]).length 262144 := by
  unfold sm
  rw [take_snoc h, List.map_append, List.sum_append, List.map_cons, List.map_nil, List.sum_cons, List.sum_nil, Nat.add_zero]
theorem sm_le (ls : List Bs) (k : Nat) : sm ls k ≤ k * 262144 := by
  induction k with
  | zero => simp [sm]
  | succ k ih =>
    by_cases h : k < ls.length
    · rw [sm_succ h, Nat.succ_mul]
      have := Nat.min_le_right (ls[k]).length 262144
      exact Nat.add_le_add ih this
    · have e : sm ls (k + 1) = sm ls k := by unfold sm; rw [List.take_of_length_le (by omega), List.take_of_length_le (by omega)]
      rw [e]; exact Nat.le_trans ih (Nat.mul_le_mul_right _ (Nat.le_succ k))
theorem sm_mem {ls : List Bs} {k : Nat} (h : k < ls.length) : ∀ j, k < j → min (ls[k]).length 262144 ≤ sm ls j := by
  intro j hj
  induction j with
  | zero => omega
  | succ j ih =>
    by_cases hjk : j = k
    · subst hjk; rw [sm_succ h]; exact Nat.le_add_left _ _
    · have := ih (by omega)
      by_cases hl : j < ls.length
      · rw [sm_succ hl]; exact Nat.le_trans this (Nat.le_add_right _ _)
      · have e : sm ls (j + 1) = sm ls j := by unfold sm; rw [List.take_of_length_le (by omega), List.take_of_length_le (by omega)]
        rw [e]; exact this
theorem msgs_snoc {ls : List Bs} {k : Nat} (h : k < ls.length) : msgs (ls.take (k + 1)) = msgs (ls.take k) ++ msg ls[k] := by
  unfold msgs
  rw [take_snoc h, List.flatMap_append, List.flatMap_cons, List.flatMap_nil, List.append_nil]
theorem ba_append (a b : Bs) : ba a ++ ba b = ba (a ++ b) := by
  apply ByteArray.ext
  rw [ByteArray.data_append]
  show a.toArray ++ b.toArray = (a ++ b).toArray
  simp
theorem ba_data (s : ByteArray) : ba s.data.toList = s := by
  apply ByteArray.ext
  show s.data.toList.toArray = s.data
  simp
theorem msg_len (b : Bs) (h : b.length ≤ 262144) : (msg b).length ≤ b.length + 200 := by
  have hi := FW.itoa_len b.length (by omega)
  have hs : (ba b).size = b.length := ba_size b
  unfold msg FW.wr
  rw [hs]
  show (FW.hdr ++ Lib.itoa (b.length : Int) ++ [13, 10, 13, 10] ++ b).length ≤ _
  simp only [List.length_append]
  have h2 : FW.hdr.length = 16 := rfl
  simp only [List.length_cons, List.length_nil]
  omega
theorem msgs_len (ls : List Bs) (n : Nat) (hn : n ≤ 262144) (h : ∀ b ∈ ls, b.length ≤ n) : (msgs ls).length ≤ ls.length * (n + 200) := by
  induction ls with
  | nil => simp [msgs]
  | cons b ls ih =>
    have h1 := ih (fun x hx => h x (List.mem_cons_of_mem _ hx))
    have h2 := h b List.mem_cons_self
    have h3 := msg_len b (by omega)
    unfold msgs at *
    rw [List.flatMap_cons, List.length_append, List.length_cons, Nat.succ_mul]
    omega
theorem run_msgs (ls : List Bs) (h : ∀ b ∈ ls, b.length ≤ 262144) : run (.head [], []) (msgs ls) = (.head [], ls) := by
  have := run_wrs ls h []
  rw [List.nil_append] at this
  exact this
end F
set_option maxRecDepth 100000 in
set_option maxHeartbeats 2000000 in
theorem back_any (vl vp : Value) (ls : List Bs) (ps : List Int) (w : World) (hG : Grd w) (hl : ArgS w vl ls) (hp : ArgI w vp ps) :
    Calls Tryd.prog 8 #[vl, vp] w (SaysYes w) := by
  have haw := awake_any w hG
  have HP := Lib.hid hp
  obtain ⟨zl, cl, rfl, hl1, hl2, hrl, hlm⟩ := hl
  obtain ⟨zp, cp, rfl, hp1, hp2, -, hpb⟩ := hp
  have HA := Lib.hid hrl
  have HPB := Lib.hid (And.intro hpb hlm)
  clear hrl hpb hlm
  go_enter Tryd.func8, Tryd.ntmps8
  go_wp2_with fail
  refine haw.mono ?_
  rintro e w1 ⟨rfl, hB1⟩
  have HB1 := Lib.hid hB1
  clear hB1 haw
  go_wp2_with fail
  go_loopw [5, 7] (fun n i wr => ∃ k : Nat, k ≤ ls.length ∧ k ≤ 41 ∧ i = .int .i64 k ∧ n = .int .i64 (sm ls k : Nat) ∧ w1 = wr) (fun _ i _ => 41 - (RowKit.intOf i).toNat)
  case atStart => exact ⟨0, Nat.zero_le _, Nat.zero_le _, rfl, rfl, rfl⟩
  case round =>
    obtain ⟨k, hk, hk41, rfl, rfl, rfl⟩ := hrel
    have hsm := sm_le ls k
    by_cases hlt : k < ls.length
    · by_cases h40 : k ≤ 40
      · obtain ⟨g, off, rfl, hc⟩ := HA.out k _ (List.getElem?_eq_getElem hlt)
        have hc1 : w1.cell? ⟨g, off + k, none⟩ = _ := cell_block hc (HB1.out.block _ (World.block_lt_of_cell? w _ hc))
        have HS := Lib.hid (sm_succ hlt)
        have hmem : (ls[k]'hlt).length ≤ maxLen := HPB.out.2 _ (List.getElem_mem hlt)
        have hbs := ba_size (ls[k]'hlt)
        generalize ls[k]'hlt = b at *
        unfold maxLen at hmem
        have hk40 : (k : Int) ≤ 40 := by omega
        have hmn : min (b.length : Int) 262144 = ((min b.length 262144 : Nat) : Int) := by omega
        have hml : min b.length 262144 ≤ 262144 := Nat.min_le_right _ _
        generalize min b.length 262144 = mb at *
        generalize sm ls k = s0 at *
        clear hc
        go_wp2_with fail
        go_roundw
        case rel => exact ⟨k + 1, hlt, by omega, by go_num, by rw [HS.out]; go_num, trivial⟩
        case measure => simp [RowKit.intOf]; omega
      · have hk40 : ¬ (k : Int) ≤ 40 := by omega
        have hl40 : (ls.length : Int) > 40 := by omega
        go_wp2_with fail
        go_ret
        exact ⟨rfl, HB1.out⟩
    · obtain rfl : k = ls.length := by omega
      by_cases h41 : ls.length > 40
      · have hk40 : ¬ (ls.length : Int) < (ls.length : Int) := by omega
        have hl40 : (ls.length : Int) > 40 := by omega
        go_wp2_with fail
        go_ret
        exact ⟨rfl, HB1.out⟩
      have hl40 : ¬ (ls.length : Int) > 40 := by omega
      have HSM := Lib.hid (fun (j : Nat) (h : j < ls.length) => sm_mem h ls.length h)
      generalize sm ls ls.length = tot at *
      by_cases hbig : tot > 20000
      · have hb2 : (tot : Int) > 20000 := by omega
        go_wp2_with fail
        go_ret
        exact ⟨rfl, HB1.out⟩
      have hb2 : ¬ (tot : Int) > 20000 := by omega
      by_cases hbp : ps.length > 400
      · have hb3 : (ps.length : Int) > 400 := by omega
        go_wp2_with fail
        go_ret
        exact ⟨rfl, HB1.out⟩
      have hb3 : ¬ (ps.length : Int) > 400 := by omega
      have HM := Lib.hid (show ∀ (j : Nat) (h : j < ls.length), (ls[j]).length ≤ 20000 from fun j h => by have := HSM.out j h; omega)
      clear HSM
      have HML := Lib.hid (fun (k : Nat) (hk : k ≤ ls.length) => show (msgs (ls.take k)).length ≤ 1000000 by
        have h1 := msgs_len (ls.take k) 20000 (by decide) (fun b hb => by
          obtain ⟨j, hj, rfl⟩ := List.mem_iff_getElem.1 (List.mem_of_mem_take hb)
          exact HM.out j hj)
        have h2 : (ls.take k).length ≤ 40 := by rw [List.length_take]; omega
        have h3 := Nat.mul_le_mul_right (20000 + 200) h2
        omega)
      have H0 := Lib.hid (HB1.out)
      go_wp2_with fail
      clear hl40 hb2 hb3 hsm hbig
      go_loopw [6, 8] (fun s i wr => ∃ k : Nat, k ≤ ls.length ∧ i = .int .i64 k ∧ s = .string (ba (msgs (ls.take k))) ∧ Hid (Below w.heap.size w wr)) (fun _ i _ => ls.length - (RowKit.intOf i).toNat)
      case atStart => exact ⟨0, Nat.zero_le _, rfl, rfl, H0⟩
      case round =>
        obtain ⟨k, hk, rfl, rfl, HB⟩ := hrel
        have hml := HML.out k hk
        have hbs1 := ba_size (msgs (ls.take k))
        by_cases hlt : k < ls.length
        · obtain ⟨g, off, rfl, hc⟩ := HA.out k _ (List.getElem?_eq_getElem hlt)
          have hc1 : wr.cell? ⟨g, off + k, none⟩ = _ := cell_block hc (HB.out.block _ (World.block_lt_of_cell? w _ hc))
          have HS := Lib.hid (msgs_snoc hlt)
          have hmb := HM.out k hlt
          have hw := write_any (ba (ls[k]'hlt)) wr (by rw [ba_size]; omega) (hG.below HB.out).2
          rw [show FW.wr (ba (ls[k]'hlt)) = ba (msg (ls[k]'hlt)) from (ba_data _).symm] at hw
          have hbs2 := ba_size (msg (ls[k]'hlt))
          have hbl2 := msg_len (ls[k]'hlt) (by omega)
          have hap := ba_append (msgs (ls.take k)) (msg (ls[k]'hlt))
          rw [← HS.out] at hap
          generalize ls[k]'hlt = b at *
          obtain ⟨M2, hM2⟩ : ∃ M2, msgs (ls.take (k + 1)) = M2 := ⟨_, rfl⟩
          rw [hM2] at hap HS
          have HM2 := Lib.hid hM2
          clear hM2
          generalize msgs (ls.take k) = M1 at *
          generalize msg b = mb at *
          clear hc
          go_wp2_with fail
          refine hw.mono ?_
          rintro e w2 ⟨rfl, hB2⟩
          have HB2 := Lib.hid (HB.out.trans (hB2.mono HB.out.size))
          clear hB2 hw
          go_wp2_with fail
          go_roundw
          case rel => exact ⟨k + 1, hlt, by go_num, by rw [HM2.out], HB2⟩
          case measure => simp [RowKit.intOf]; omega
        · obtain rfl : k = ls.length := by omega
          have hmsg : ∀ b ∈ ls, b.length ≤ 262144 := fun b hb => by
            obtain ⟨j, hj, rfl⟩ := List.mem_iff_getElem.1 hb
            have := HM.out j hj
            omega
          have hrun := run_msgs ls hmsg
          rw [List.take_length] at hml hbs1 ⊢
          generalize msgs ls = M at *
          have HR := Lib.hid hrun
          have hnw := new_any wr
          have hcv := fun (W : World) => run_bytes_of_string (P := Tryd.prog) W 9 44 5 (ba M) Tryd.underlying9 Tryd.underlying44 Tryd.underlying5
          clear hrun hmsg
          go_wp2_with fail
          refine hnw.mono ?_
          rintro e w2 ⟨rfl, hR2, hB2, -⟩
          have hB12 := HB.out.trans (hB2.mono HB.out.size)
          have HS2 := Lib.hid HB.out.size
          clear hnw hB2
          go_wp2_with fail
          have hcm : grownCap w2 M.length 0 5 ≤ maxLen := grownCap_le_maxLen w2 M.length 0 5 (by unfold maxLen; omega)
          have hcg : M.length ≤ grownCap w2 M.length 0 5 := grownCap_ge w2 M.length 0 5
          generalize grownCap w2 M.length 0 5 = C at *
          have hrow := heap_alloc_new w2 (.cells (bytesRow (ba M) C) 5 ((bytesRow (ba M) C).size, (bytesRow (ba M) C).size + 1))
          have hB3 := (Below.refl w2.heap.size w2).alloc (Nat.le_refl _) (.cells (bytesRow (ba M) C) 5 ((bytesRow (ba M) C).size, (bytesRow (ba M) C).size + 1))
          have hs3 : (w2.alloc (.cells (bytesRow (ba M) C) 5 ((bytesRow (ba M) C).size, (bytesRow (ba M) C).size + 1))).heap.size = w2.heap.size + 1 := World.size_alloc _ _
          generalize w2.alloc (.cells (bytesRow (ba M) C) 5 ((bytesRow (ba M) C).size, (bytesRow (ba M) C).size + 1)) = W3 at *
          have h8 : At8 W3.drew w2.heap.size 0 M := fun j x hj => by
            have hjl := (List.getElem?_eq_some_iff.1 hj).1
            have hd : (ba M).data = M.toArray := rfl
            rw [Nat.zero_add, cell_of_row W3.drew w2.heap.size j _ _ _ hrow, bytesRow_at (ba M) C j (by rw [hd, List.size_toArray]; exact hjl)]
            congr 3
            have := (List.getElem?_eq_some_iff.1 hj).2
            simp only [hd, List.getElem_toArray]
            rw [this]
          have hR3 := (hR2.below hB3).other (B := fun _ => False) (Alt.drew _ W3) (fun _ _ _ h => h)
          have hB13 : Below w.heap.size w W3.drew := hB12.trans (below_drewN (hB3.mono hB12.size) 1)
          have hcu := cut_wide wr.heap.size w2.heap.size 0 C (.head []) M [] (.slice zp ps.length cp) ps _ W3.drew hR3 (by show (0 : Nat) < 1024; decide) hcg (by unfold maxLen at hcm; exact hcm) (by omega) (by decide) h8 (fun h => by have := (hR2.imp (B := fun b => b < w2.heap.size) fun b hb _ => hb); have h5 := hR2; obtain ⟨_, _, _, hb, _⟩ := h5; have := hb.lt; omega)
            (env_of hG hB13 (fun b hb => by have := HS2.out; omega)) (argI_pc HP.out hB13 (fun b hb => by have := HS2.out; omega)) (by omega) (fun p hp => (HPB.out.1 p hp).2)
          rw [HR.out] at hcu
          clear h8 hrow hcv hR2
          refine hcu.mono ?_
          rintro e w4 ⟨rfl, hA4, hR4⟩
          have hB14 := alt_below hB13 hA4 (fun b hb => by have := HS2.out; omega)
          have hd := dead_at wr.heap.size _ _ _ w4 hR4
          have hh := heard_any wr.heap.size _ ls _ w4 hR4 (by omega)
          have hHB := Lib.hid hB14
          have hA4s := Lib.hid (fun b (hb : Grow (fun b => b = wr.heap.size) W3.drew b) => show w.heap.size ≤ b from by
            have h1 := HS2.out
            have h2 : w.heap.size ≤ W3.drew.heap.size := hB13.size
            rcases hb with hb | hb <;> omega)
          clear hcu hA4 hR4 hB13 hB12 hB3 hR3 hB14
          change Calls Tryd.prog _ _ _ (Stay (.int .i64 0) w4) at hd
          go_wp2_with fail
          refine hd.mono ?_
          rintro e w' ⟨rfl, rfl⟩
          go_wp2_with fail
          refine hh.mono ?_
          rintro e w5 ⟨v5, rfl, hr5, hA5, hR5⟩
          have hB15 := alt_below hHB.out hA5 hA4s.out
          have hsm := same_any _ (.slice zl ls.length cl) ls ls w5 (RdS.of_row hr5) ⟨zl, cl, rfl, hl1, fun j x hj => by
            obtain ⟨g, off, hz, hc⟩ := HA.out j x hj
            exact ⟨g, off, hz, cell_block hc (hB15.block _ (World.block_lt_of_cell? w _ hc))⟩⟩ (by omega)
          rw [decide_eq_true rfl] at hsm
          obtain ⟨zq, cq, rfl, hcq, -⟩ := RdS.of_row hr5
          have HB5 := Lib.hid hB15
          clear hr5 hA5 hR5 hh hB15
          go_wp2_with fail
          refine hsm.mono ?_
          rintro e w' ⟨rfl, q2, rfl⟩
          go_wp2_with fail
          go_ret
          exact ⟨rfl, below_drewN HB5.out q2⟩
theorem backLaw_any (vl : Value) (ls : List Bs) (vp : Value) (ps : List Int) (w : World) (hl : ArgS w vl ls) (hp : ArgI w vp ps) (hG : Grd w) :
    Calls Tryd.prog 8 #[vl, vp] w (SaysYes w) := back_any vl vp ls ps w hG hl hp
end Go.Proofs.YtmaclplhphfkiaaDoor
