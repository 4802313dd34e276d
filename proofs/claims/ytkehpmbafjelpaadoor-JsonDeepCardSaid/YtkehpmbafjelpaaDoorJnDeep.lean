/- The statement on how deep a text may be, walked: whatever brackets, and how many, it answers true. Conditions: such as Go can hold; the library's tables as its text lays them. -/
import Derived.Test.YtkehpmbafjelpaaDoorJnAwake
namespace Go.Proofs.YtkehpmbafjelpaaDoor
open Go Go.RowKit Go.Lib

/-- a slice of so many bools -/
def Bits (w : World) (p : Option Addr) (len : Nat) (kd : Nat → Bool) : Prop := ∀ i, i < len → ∃ b o, p = some ⟨b, o, none⟩ ∧ w.cell? ⟨b, o + i, none⟩ = some (.bool (kd i))
def kinds (len : Nat) (kd : Nat → Bool) (i : Nat) : Bool := decide (i < len) && kd i

def plc (kd : Nat → Bool) (i : Nat) : Int := if i = 0 then 0 else ((ops kd (i - 1)).size : Int)
def fst (kd : Nat → Bool) (i : Nat) : Int := if i ≤ 64 then -1 else ((ops kd 64).size : Int)
theorem plc_step (kd : Nat → Bool) (i : Nat) : plc kd (i + 1) = ((ops kd i).size : Int) := rfl
theorem fst_yes (kd : Nat → Bool) {i : Nat} (h : i = 64) : fst kd (i + 1) = ((ops kd i).size : Int) := by
  unfold fst
  rw [if_neg (by omega), h]
theorem fst_else (kd : Nat → Bool) {i : Nat} (h : ¬ i = 64) : fst kd (i + 1) = fst kd i := by
  unfold fst
  by_cases e : i ≤ 64
  · rw [if_pos (by omega), if_pos e]
  · rw [if_neg (by omega), if_neg e]
theorem ops_obj {kd : Nat → Bool} {i : Nat} (h : kd i = true) : ops kd i ++ ⟨#[123, 34, 97, 34, 58]⟩ = ops kd (i + 1) ∧ ⟨#[125]⟩ ++ shs kd i = shs kd (i + 1) := by
  show _ = ops kd i ++ opn (kd i) ∧ _ = sht (kd i) ++ shs kd i
  rw [h]
  exact ⟨rfl, rfl⟩
theorem ops_list {kd : Nat → Bool} {i : Nat} (h : kd i = false) : ops kd i ++ ⟨#[91]⟩ = ops kd (i + 1) ∧ ⟨#[93]⟩ ++ shs kd i = shs kd (i + 1) := by
  show _ = ops kd i ++ opn (kd i) ∧ _ = sht (kd i) ++ shs kd i
  rw [h]
  exact ⟨rfl, rfl⟩

/-- a value in a box -/
def VBox (w : World) (vb : Nat) (r : Nat × ByteArray × V.T × V.T) : Prop := ∃ v u, Blk4 w vb 25 (.int .u8 r.1) (.string r.2.1) v u ∧ HS w (fun b => b ≠ vb) 0 v r.2.2.1 ∧ HS w (fun b => b ≠ vb) 1 u r.2.2.2

theorem vbox_next {w : World} {vb : Nat} {k x v u : Value} {k1 : Nat} {x1 : ByteArray} {v1 u1 : Value} {l f : V.T} (hb : Blk4 w vb 25 k x v u) (hl : HS w (fun b => b ≠ vb) 0 v1 l) (hf : HS w (fun b => b ≠ vb) 1 u1 f) :
    VBox ((((w.setCell ⟨vb, 0, none⟩ (.int .u8 k1)).setCell ⟨vb, 1, none⟩ (.string x1)).setCell ⟨vb, 2, none⟩ v1).setCell ⟨vb, 3, none⟩ u1) vb (k1, x1, l, f) :=
  ⟨v1, u1, (hb.all _ _ _ _).1, hl.imp (fun b a _ => a) (fun b a _ => set4_else w vb _ _ _ _ b a), hf.imp (fun b a _ => a) (fun b a _ => set4_else w vb _ _ _ _ b a)⟩
set_option maxHeartbeats 2000000 in
set_option maxRecDepth 100000 in
theorem deepLaw_any (p : Option Addr) (len cap : Nat) (kd : Nat → Bool) (n : Int) (w : World) (hl : len ≤ cap) (hcap : cap ≤ 9223372036854775807) (hc : Bits w p len kd) (hn : -9223372036854775808 ≤ n ∧ n ≤ 9223372036854775807) (hT : Tabs w) :
    Calls Tryd.prog 6 #[.slice p len cap, .int .i64 n] w (SaysTrue w) := by
  have ha := jsonAwake_any w hT
  have HT := Lib.hid hT
  have HC := Lib.hid hc
  clear hT hc
  obtain ⟨N, hN, hN2⟩ : ∃ N : Nat, min (max n 0) 200 = (N : Int) ∧ N ≤ 200 := ⟨(min (max n 0) 200).toNat, by omega, by omega⟩
  go_enter Tryd.func6, Tryd.ntmps6
  go_wp2_with fail
  refine ha.mono ?_
  rintro e w1 ⟨rfl, hB1⟩
  go_wp2_with fail
  go_loopw [5, 6, 7, 8, 9] (fun a b c d e wr => ∃ i : Nat, i ≤ N ∧ a = .string (ops (kinds len kd) i) ∧ b = .string (shs (kinds len kd) i) ∧ c = .int .i64 (plc (kinds len kd) i) ∧ d = .int .i64 (fst (kinds len kd) i) ∧ e = .int .i64 i ∧ Hid (Below w.heap.size w wr)) (fun _ _ _ _ e _ => N - (RowKit.intOf e).toNat)
  case atStart => exact ⟨0, Nat.zero_le _, rfl, rfl, rfl, rfl, rfl, Lib.hid hB1⟩
  case round =>
    obtain ⟨i, hi, rfl, rfl, rfl, rfl, rfl, HB⟩ := hrel
    have hs1 := ops_le (kinds len kd) i
    have hs2 := shs_size (kinds len kd) i
    have HS := Lib.hid (And.intro hs1 hs2)
    by_cases hlt : i < N
    · have HL := Lib.hid hlt
      by_cases h64 : i = 64
      · have hfe := Lib.hid (fst_yes (kinds len kd) h64)
        have ht : ((i : Int) == 64) = true := by simp; omega
        clear h64
        generalize hf0 : fst (kinds len kd) i = f0 at *
        clear hf0
        by_cases hlen : i < len
        · obtain ⟨b, o, rfl, hcell⟩ := HC.out i hlen
          have hcell := (HB.out.cell (p := ⟨b, o + i, none⟩) (World.block_lt_of_cell? w _ hcell)).trans hcell
          cases hk0 : kd i
          · have hk : kinds len kd i = false := by unfold kinds; rw [decide_eq_true hlen, hk0]; rfl
            obtain ⟨g1, g2⟩ := ops_list hk
            rw [hk0] at hcell
            go_wp2_with fail
            exact ⟨⟨i + 1, HL.out, rfl, rfl, rfl, (by rw [hfe.out]), by go_num, HB⟩, by have := HL.out; simp [RowKit.intOf]; omega⟩
          · have hk : kinds len kd i = true := by unfold kinds; rw [decide_eq_true hlen, hk0]; rfl
            obtain ⟨g1, g2⟩ := ops_obj hk
            rw [hk0] at hcell
            go_wp2_with fail
            exact ⟨⟨i + 1, HL.out, rfl, rfl, rfl, (by rw [hfe.out]), by go_num, HB⟩, by have := HL.out; simp [RowKit.intOf]; omega⟩
        · have hk : kinds len kd i = false := by unfold kinds; rw [decide_eq_false hlen]; rfl
          obtain ⟨g1, g2⟩ := ops_list hk
          go_wp2_with fail
          exact ⟨⟨i + 1, HL.out, rfl, rfl, rfl, (by rw [hfe.out]), by go_num, HB⟩, by have := HL.out; simp [RowKit.intOf]; omega⟩
      · have hfe := Lib.hid (fst_else (kinds len kd) h64)
        have ht : ((i : Int) == 64) = false := by simp; omega
        clear h64
        generalize hf0 : fst (kinds len kd) i = f0 at *
        clear hf0
        by_cases hlen : i < len
        · obtain ⟨b, o, rfl, hcell⟩ := HC.out i hlen
          have hcell := (HB.out.cell (p := ⟨b, o + i, none⟩) (World.block_lt_of_cell? w _ hcell)).trans hcell
          cases hk0 : kd i
          · have hk : kinds len kd i = false := by unfold kinds; rw [decide_eq_true hlen, hk0]; rfl
            obtain ⟨g1, g2⟩ := ops_list hk
            rw [hk0] at hcell
            go_wp2_with fail
            exact ⟨⟨i + 1, HL.out, rfl, rfl, rfl, (by rw [hfe.out]), by go_num, HB⟩, by have := HL.out; simp [RowKit.intOf]; omega⟩
          · have hk : kinds len kd i = true := by unfold kinds; rw [decide_eq_true hlen, hk0]; rfl
            obtain ⟨g1, g2⟩ := ops_obj hk
            rw [hk0] at hcell
            go_wp2_with fail
            exact ⟨⟨i + 1, HL.out, rfl, rfl, rfl, (by rw [hfe.out]), by go_num, HB⟩, by have := HL.out; simp [RowKit.intOf]; omega⟩
        · have hk : kinds len kd i = false := by unfold kinds; rw [decide_eq_false hlen]; rfl
          obtain ⟨g1, g2⟩ := ops_list hk
          go_wp2_with fail
          exact ⟨⟨i + 1, HL.out, rfl, rfl, rfl, (by rw [hfe.out]), by go_num, HB⟩, by have := HL.out; simp [RowKit.intOf]; omega⟩
    · obtain rfl : i = N := by omega
      by_cases hbig : 64 < i
      · have hp := Parse_any (nest (kinds len kd) i) wr (by have := nest_small (kinds len kd) hN2; omega) (tabs_below HT.out HB.out)
        rw [deep_no (kinds len kd) hbig hN2] at hp
        obtain ⟨P, hP⟩ : ∃ P, (ops (kinds len kd) 64).size = P := ⟨_, rfl⟩
        obtain ⟨M, hM⟩ : ∃ M, (ops (kinds len kd) (i - 1)).size = M := ⟨_, rfl⟩
        have hPM : P ≤ M := by rw [← hP, ← hM]; exact ops_rise (kinds len kd) (by omega)
        have hM2 : M ≤ 1000 := by have := ops_le (kinds len kd) (i - 1); omega
        rw [show plc (kinds len kd) i = (M : Int) by unfold plc; rw [if_neg (by omega), hM], show fst (kinds len kd) i = (P : Int) by unfold fst; rw [if_neg (by omega), hP]]
        rw [hP] at hp
        unfold ParseIs nest at hp
        clear hP hM
        go_wp2_with fail
        refine hp.mono ?_
        rintro e w2 ⟨v, u, rfl, hl2, hf2, -, hB2⟩
        obtain ⟨p2, c2, rfl, -⟩ := hl2.len
        obtain ⟨p3, c3, rfl, -⟩ := hf2.len
        have hB3 := HB.out.trans (hB2.mono HB.out.size)
        clear hl2 hf2 hp
        go_wp2_with fail
        go_ret
        exact ⟨rfl, hB3.alloc hB3.size _⟩
      · have hp := Parse_any (nest (kinds len kd) i) wr (by have := nest_small (kinds len kd) hN2; omega) (tabs_below HT.out HB.out)
        rw [deep_yes (kinds len kd) (by omega)] at hp
        unfold ParseIs nest at hp
        go_wp2_with fail
        refine hp.mono ?_
        rintro e w2 ⟨v, u, rfl, hl2, hf2, hfit, hB2⟩
        obtain ⟨p2, c2, rfl, -⟩ := hl2.len
        obtain ⟨p3, c3, rfl, -⟩ := hf2.len
        have HL2 := Lib.hid (And.intro hl2 hf2)
        have hB3 := HB.out.trans (hB2.mono HB.out.size)
        clear hl2 hf2 hp
        go_wp2_with fail
        have hvb : w.heap.size ≤ w2.heap.size := hB3.size
        have H0 : Hid (VBox ((w2.alloc (.cells #[.int .u8 (nv (kinds len kd) i 0).1, .string (nv (kinds len kd) i 0).2.1, .slice p2 (nv (kinds len kd) i 0).2.2.1.len c2, .slice p3 (nv (kinds len kd) i 0).2.2.2.len c3] 25))) w2.heap.size (nv (kinds len kd) i 0) ∧ Below w.heap.size w (w2.alloc (.cells #[.int .u8 (nv (kinds len kd) i 0).1, .string (nv (kinds len kd) i 0).2.1, .slice p2 (nv (kinds len kd) i 0).2.2.1.len c2, .slice p3 (nv (kinds len kd) i 0).2.2.2.len c3] 25))) := Lib.hid ⟨⟨_, _, heap_alloc_new _ _, (HL2.out.1.mono (fun b _ hb => by show b ≠ w2.heap.size; omega)).alloc _, (HL2.out.2.mono (fun b _ hb => by show b ≠ w2.heap.size; omega)).alloc _⟩, hB3.alloc hB3.size _⟩
        generalize w2.heap.size = vb at *
        clear HL2 hB3 hB2 hfit
        generalize w2.alloc _ = W2 at *
        go_loopw [13] (fun q wx => ∃ j : Nat, j ≤ i ∧ q = .int .i64 j ∧ Hid (VBox wx vb (nv (kinds len kd) (i - j) j) ∧ Below w.heap.size w wx)) (fun q _ => i - (RowKit.intOf q).toNat)
        case atStart => exact ⟨0, Nat.zero_le _, rfl, H0⟩
        case round =>
          obtain ⟨j, hj, rfl, HV⟩ := hrel
          clear H0
          by_cases hlt : j < i
          · obtain ⟨m, hm⟩ : ∃ m, i - j = m + 1 := ⟨i - j - 1, by omega⟩
            have hm2 : i - (j + 1) = m := by omega
            rw [hm] at HV
            have HM := Lib.hid (And.intro hm2 hlt)
            clear hm hm2
            cases hk : kinds len kd j
            · rw [nv_list hk] at HV
              obtain ⟨⟨v, u, hb, hl, hf⟩, hB⟩ := HV.out
              clear HV
              generalize hnv : nv (kinds len kd) m (j + 1) = r at *
              obtain ⟨k, x, l, f⟩ := r
              dsimp only at hb hl hf
              obtain ⟨q1, d1, rfl, -⟩ := hl.len
              obtain ⟨q2, d2, rfl, -⟩ := hf.len
              obtain ⟨b, o, v1, u1, rfl, E⟩ := hl.elem (i := 0) (Nat.succ_pos _) rfl
              obtain ⟨q3, d3, rfl, -⟩ := E.hl.len
              obtain ⟨q4, d4, rfl, -⟩ := E.hf.len
              have e1 := E.kind
              have e2 := E.text
              have e3 := E.list
              have e4 := E.fields
              simp only [Nat.zero_mul, Nat.add_zero] at e1 e2 e3 e4
              obtain ⟨x0, x1, x2, x3⟩ := hb.box
              have f0 := hb.free 0
              have f1 := hb.free 1
              have f2 := hb.free 2
              have f3 := hb.free 3
              have GG := Lib.hid (vbox_next (k1 := k) (x1 := x) hb E.hl E.hf)
              have HBx := Lib.hid (hB.trans ((hb.all (.int .u8 k) (.string x) (.slice q3 l.len d3) (.slice q4 f.len d4)).2.2 w.heap.size hvb))
              have HN := Lib.hid hnv
              have hlen1 : (V.T.cons ⟨#[]⟩ k x l f V.T.nil).len = 1 := rfl
              simp only [hlen1] at x2
              clear hb hl hf hB hnv E
              go_wp2_with fail
              have hmm := HM.out.1
              exact ⟨⟨j + 1, HM.out.2, by go_num, Lib.hid ⟨by rw [hmm, HN.out]; exact GG.out, HBx.out⟩⟩, by have := HM.out.2; simp [RowKit.intOf]; omega⟩
            · rw [nv_obj hk] at HV
              obtain ⟨⟨v, u, hb, hl, hf⟩, hB⟩ := HV.out
              clear HV
              generalize hnv : nv (kinds len kd) m (j + 1) = r at *
              obtain ⟨k, x, l, f⟩ := r
              dsimp only at hb hl hf
              obtain ⟨q1, d1, rfl, -⟩ := hl.len
              obtain ⟨q2, d2, rfl, -⟩ := hf.len
              obtain ⟨b, o, v1, u1, rfl, E⟩ := hf.elem (i := 0) (Nat.succ_pos _) rfl
              obtain ⟨q3, d3, rfl, -⟩ := E.hl.len
              obtain ⟨q4, d4, rfl, -⟩ := E.hf.len
              have e1 := E.kind
              have e2 := E.text
              have e3 := E.list
              have e4 := E.fields
              simp only [Nat.zero_mul, Nat.add_zero, Nat.add_assoc, Nat.reduceAdd] at e1 e2 e3 e4
              obtain ⟨x0, x1, x2, x3⟩ := hb.box
              have f0 := hb.free 0
              have f1 := hb.free 1
              have f2 := hb.free 2
              have f3 := hb.free 3
              have GG := Lib.hid (vbox_next (k1 := k) (x1 := x) hb E.hl E.hf)
              have HBx := Lib.hid (hB.trans ((hb.all (.int .u8 k) (.string x) (.slice q3 l.len d3) (.slice q4 f.len d4)).2.2 w.heap.size hvb))
              have HN := Lib.hid hnv
              have hlen1 : (V.T.cons ⟨#[97]⟩ k x l f V.T.nil).len = 1 := rfl
              have hlen0 : V.T.nil.len = 0 := rfl
              simp only [hlen0] at x2
              simp only [hlen1] at x3
              clear hb hl hf hB hnv E
              go_wp2_with fail
              have hmm := HM.out.1
              exact ⟨⟨j + 1, HM.out.2, by go_num, Lib.hid ⟨by rw [hmm, HN.out]; exact GG.out, HBx.out⟩⟩, by have := HM.out.2; simp [RowKit.intOf]; omega⟩
          · obtain rfl : j = i := by omega
            rw [Nat.sub_self, show nv (kinds len kd) 0 j = (3, ⟨#[55]⟩, .nil, .nil) from rfl] at HV
            obtain ⟨⟨v, u, hb, -, -⟩, hB⟩ := HV.out
            obtain ⟨x0, x1, x2, x3⟩ := hb.box
            clear hb
            go_wp2_with fail
            go_ret
            exact ⟨rfl, hB⟩
end Go.Proofs.YtkehpmbafjelpaaDoor
