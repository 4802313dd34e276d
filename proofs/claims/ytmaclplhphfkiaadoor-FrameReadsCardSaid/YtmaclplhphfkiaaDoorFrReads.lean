/- Whatever bytes come in whatever pieces: FrameReads, walked. Conditions: such lengths as memory bears; the library's own variable holds a number. -/
import Derived.Test.YtmaclplhphfkiaaDoorFrRefD
import Derived.Test.YtmaclplhphfkiaaDoorFrBack
namespace Go.Proofs.YtmaclplhphfkiaaDoor
open Go Go.RowKit Go.Lib F

namespace F
def sl (ls : List Bs) (k : Nat) : Nat := ((ls.take k).map List.length).sum
theorem sl_succ {ls : List Bs} {k : Nat} (h : k < ls.length) : sl ls (k + 1) = sl ls k + (ls[k]).length := by
  unfold sl
  rw [take_snoc h, List.map_append, List.sum_append, List.map_cons, List.map_nil, List.sum_cons, List.sum_nil, Nat.add_zero]
theorem sl_mono {ls : List Bs} {k : Nat} : ∀ j, k ≤ j → sl ls k ≤ sl ls j := by
  intro j hj
  induction j with
  | zero => rw [show k = 0 by omega]; exact Nat.le_refl _
  | succ j ih =>
    by_cases h : k = j + 1
    · rw [h]; exact Nat.le_refl _
    · have := ih (by omega)
      by_cases hl : j < ls.length
      · rw [sl_succ hl]; omega
      · have e : sl ls (j + 1) = sl ls j := by unfold sl; rw [List.take_of_length_le (by omega), List.take_of_length_le (by omega)]
        rw [e]; exact this
end F
/-- a slice reads as these slices of bytes -/
def ArgL (w : World) (v : Value) (ls : List Bs) : Prop := ∃ z cap, v = .slice z ls.length cap ∧ ls.length ≤ cap ∧ cap ≤ 1000000000000000 ∧ ∀ j x, ls[j]? = some x → ∃ g off, z = some ⟨g, off, none⟩ ∧ ∃ u, w.cell? ⟨g, off + j, none⟩ = some u ∧ ArgB w u x
theorem conv_rdB {w : World} {z : Option Addr} {l : Bs} {cap : Nat} (hc : l.length ≤ cap) (h : RdB w z l) : (convert 44 9 (.slice z l.length cap)).run Tryd.prog w = .ok (.string (ba l)) w := by
  cases z with
  | none =>
    have : l = [] := by
      cases l with
      | nil => rfl
      | cons x r => obtain ⟨g, off, hz, _⟩ := h 0 x rfl; cases hz
    subst this
    exact run_convert_nil_bytes w 44 9 5 cap Tryd.underlying44 Tryd.underlying5 Tryd.underlying9
  | some a =>
    refine run_convert_bytes_back w 44 9 5 a cap l Tryd.underlying44 Tryd.underlying5 Tryd.underlying9 (fun j hj => ?_)
    obtain ⟨g, off, hz, hcell⟩ := h j _ (List.getElem?_eq_getElem hj)
    cases hz
    have e : (⟨g, off, none⟩ : Addr).add j = ⟨g, off + j, none⟩ := by unfold Addr.add; split <;> simp_all
    rw [e]; exact hcell
def GreatOut (ls : List Bs) (w : World) (e : Ending) (w' : World) : Prop := ∃ b, e = .returned (.bool b) ∧ w = w' ∧ (b = false → ls.length ≤ 60 ∧ sl ls ls.length ≤ 20000)
set_option maxRecDepth 100000 in
set_option maxHeartbeats 1000000 in
theorem great_any (v : Value) (ls : List Bs) (w : World) (hv : ArgL w v ls) : Calls Tryd.prog 18 #[v] w (GreatOut ls w) := by
  obtain ⟨z, cap, rfl, hc1, hc2, hr⟩ := hv
  have HR := Lib.hid hr
  clear hr
  go_enter Tryd.func18, Tryd.ntmps18
  go_wp2_with fail
  go_loopw [3, 4] (fun n i wr => ∃ k : Nat, k ≤ ls.length ∧ k ≤ 61 ∧ i = .int .i64 k ∧ n = .int .i64 (sl ls k : Nat) ∧ sl ls k ≤ k * 1000000000000000 ∧ w = wr) (fun _ i _ => 61 - (RowKit.intOf i).toNat)
  case atStart => exact ⟨0, Nat.zero_le _, Nat.zero_le _, rfl, rfl, by simp [sl], rfl⟩
  case round =>
    obtain ⟨k, hk, hk61, rfl, rfl, hs, rfl⟩ := hrel
    by_cases hlt : k < ls.length
    · by_cases h60 : k ≤ 60
      · obtain ⟨g, off, rfl, u, hcu, zu, cu, rfl, hcu1, hcu2, -⟩ := HR.out k _ (List.getElem?_eq_getElem hlt)
        have HS := Lib.hid (sl_succ hlt)
        generalize ls[k]'hlt = x at *
        generalize sl ls k = s0 at *
        have h60I : (k : Int) ≤ 60 := by omega
        go_wp2_with fail
        go_roundw
        case rel => exact ⟨k + 1, hlt, by omega, by go_num, by rw [HS.out]; go_num, by rw [HS.out]; omega, by first | rfl | trivial⟩
        case measure => simp [RowKit.intOf]; omega
      · have h60I : ¬ (k : Int) ≤ 60 := by omega
        have hlI : (ls.length : Int) > 60 := by omega
        go_wp2_with fail
        go_ret
        exact ⟨true, rfl, rfl, fun h => by cases h⟩
    · obtain rfl : k = ls.length := by omega
      by_cases hl60 : ls.length > 60
      · have hlI : (ls.length : Int) > 60 := by omega
        go_wp2_with fail
        go_ret
        exact ⟨true, rfl, rfl, fun h => by cases h⟩
      · have hlI : ¬ (ls.length : Int) > 60 := by omega
        by_cases hbig : sl ls ls.length > 20000
        · have hbI : ((sl ls ls.length : Nat) : Int) > 20000 := by omega
          go_wp2_with fail
          go_ret
          exact ⟨true, rfl, rfl, fun h => by cases h⟩
        · have hbI : ¬ ((sl ls ls.length : Nat) : Int) > 20000 := by omega
          go_wp2_with fail
          go_ret
          exact ⟨false, rfl, rfl, fun _ => ⟨by omega, by omega⟩⟩
theorem envM {w W : World} {A : Nat → Prop} (hE : ∃ m, w.cell? ⟨10, 0, none⟩ = some (.int .i64 m)) (hB : Below w.heap.size w W) (hA : ∀ b, A b → w.heap.size ≤ b) : Env A W := by
  obtain ⟨m, hm⟩ := hE
  have hlt : 10 < w.heap.size := World.block_lt_of_cell? w _ hm
  exact ⟨⟨m, cell_block hm (hB.block _ hlt)⟩, fun ha => by have := hA _ ha; omega⟩
/-- bytes are fed, whatever the reader is at -/
def FedB (A : Nat → Prop) (R : Nat) (st : St) (x : Rs) (w : World) (e : Ending) (w' : World) : Prop :=
  (∃ v, e = .returned (.int .i64 v) ∧ (st.err = 0 → v = (x.1.err : Nat)) ∧ (st.err ≠ 0 → v = 52)) ∧ Alt A w w' ∧ RdAt w' (Grow A w) R x.1 x.2
theorem feed_both (R : Nat) (v : Value) (st : St) (l : Bs) (out : List Bs) (A : Nat → Prop) (w : World) (hR : RdAt w A R st out) (hst : st.ok) (hT : Tail w 5 v (c8 l)) (hg : ∀ b, v.ownBlock = some b → ¬ A b) (hl : l.length ≤ 1000000000)
    (ho : out.length ≤ 100000000000) (hE : Env A w) : Calls Tryd.prog 21 #[.pointer (some ⟨R, 0, none⟩), v] w (FedB A R st (run (st, out) l) w) := by
  by_cases h0 : st.err = 0
  · refine (feed_tail R v st l out A w hR hst hT hg hl ho hE).mono fun e w' h => ?_
    obtain ⟨⟨u, he, hu⟩, h2⟩ := h
    exact ⟨⟨u, he, hu, fun h => absurd h0 h⟩, h2⟩
  · cases st with
    | head p => exact absurd rfl h0
    | body n p => exact absurd rfl h0
    | dead E =>
      refine (feed_dead R E _ out A w hR h0).mono fun e w' h => ?_
      obtain ⟨he, rfl⟩ := h
      refine ⟨⟨_, he, fun h => absurd h h0, fun _ => rfl⟩, Alt.refl _ _, ?_⟩
      rw [run_dead]
      exact hR.imp fun b _ h => .inl h
theorem reads_feed {ALL x : Bs} {st : St} {OUT : List Bs} {T : Nat} (h : run (.head [], []) ALL = (st, OUT)) (hT : T ≤ OUT.length) :
    ∃ st' N, run (.head [], []) (ALL ++ x) = (st', OUT ++ N) ∧ run (st, OUT.drop T) x = (st', (OUT ++ N).drop T) := by
  refine ⟨(run (st, []) x).1, (run (st, []) x).2, ?_, ?_⟩
  · rw [run_append, h, run_out]
  · rw [run_out, List.drop_append_of_le_length hT]
/-- the rows that are the caller's own: whatever else changes -/
def MineAt (g : Option Nat) (W wr : World) (v : Value) : Prop := Alt (fun b => g = some b) W wr ∧ ∀ j, j < slLen v → ∃ a off, v = .slice (some ⟨a, off, none⟩) (slLen v) (match v with | .slice _ _ c => c | _ => 0) ∧ (∃ y, wr.cell? ⟨a, off + j, none⟩ = some y) ∧ wr.frozen? ⟨a, off + j, none⟩ = false
/-- where the loop over the messages stands -/
structure AskAt (n R : Nat) (W wr : World) (st : St) (OUT : List Bs) (T base : Nat) (vw : Value) (S : Nat) : Prop where
  rd : RdAt wr (Btw n S) R st (OUT.drop T)
  row : wr.ownsRow base 9 1 vw OUT.length (strs OUT)
  below : Below n W wr
  size : wr.heap.size = W.heap.size
/-- where the law stands between two pieces -/
structure RdState (w wr : World) (ls : List Bs) (i : Nat) (R : Nat) (ALL : Bs) (st : St) (OUT : List Bs) (T : Nat) : Prop where
  run' : run (.head [], []) ALL = (st, OUT)
  len : ALL.length ≤ sl ls i
  told : T ≤ OUT.length
  rd : RdAt wr (Btw w.heap.size wr.heap.size) R st (OUT.drop T)
  below : Below w.heap.size w wr
set_option maxRecDepth 100000 in
set_option maxHeartbeats 4000000 in
theorem reads_any (vl vp : Value) (ls : List Bs) (ps : List Int) (w : World) (hE : ∃ m, w.cell? ⟨10, 0, none⟩ = some (.int .i64 m)) (hl : ArgL w vl ls) (hp : ArgI w vp ps) :
    Calls Tryd.prog 5 #[vl, vp] w (SaysYes w) := by
  have hgr := great_any vl ls w hl
  obtain ⟨z, cap, rfl, hc1, hc2, hr⟩ := hl
  obtain ⟨zp, cp, rfl, hp1, hp2, hrp, hpb⟩ := hp
  have HR := Lib.hid hr
  have HPS := Lib.hid (And.intro hrp hpb)
  obtain ⟨i8, hi8, hz80, hz81, hz82⟩ := info_parts f8
  clear hr hrp hpb
  go_enter Tryd.func5, Tryd.ntmps5
  go_wp2_with fail
  refine hgr.mono ?_
  rintro e w' ⟨b, rfl, rfl, hbf⟩
  cases b
  case true =>
    go_wp2_with fail
    go_ret
    exact ⟨rfl, Below.refl _ _⟩
  case false =>
    obtain ⟨hl60, hsl⟩ := hbf rfl
    clear hgr hbf
    go_wp2_with fail
    refine (new_any w).mono ?_
    rintro e w1 ⟨rfl, hX1, hB1, hs1⟩
    have hd1 := dead_at w.heap.size _ _ _ w1 hX1
    change Calls Tryd.prog _ _ _ (Stay (.int .i64 0) w1) at hd1
    have H0 := Lib.hid (show RdState w w1 ls 0 w.heap.size [] (.head []) [] 0 from ⟨rfl, Nat.zero_le _, Nat.zero_le _, rd_btw hX1 (fun b _ hb => by omega), hB1⟩)
    clear hX1 hB1 hs1
    go_wp2_with fail
    refine hd1.mono ?_
    rintro e w' ⟨rfl, rfl⟩
    clear hd1
    go_wp2_with fail
    go_loopw [6, 7, 8, 9] (fun a t d i wr => ∃ (i0 T : Nat) (ALL : Bs) (st : St) (OUT : List Bs), i0 ≤ ls.length ∧ i = .int .i64 i0 ∧ a = .string (ba ALL) ∧ t = .int .i64 T ∧ d = .int .i64 (st.err : Nat) ∧ Hid (RdState w wr ls i0 w.heap.size ALL st OUT T)) (fun _ _ _ i _ => ls.length - (RowKit.intOf i).toNat)
    case atStart => exact ⟨0, 0, [], .head [], [], Nat.zero_le _, rfl, rfl, rfl, rfl, H0⟩
    case round =>
      obtain ⟨i, T, ALL, st, OUT, hi, rfl, rfl, rfl, rfl, HS⟩ := hrel
      by_cases hlt : i < ls.length
      · have hlt := hlt
        obtain ⟨wo, rfl⟩ : ∃ wo, wo = wr := ⟨_, rfl⟩
        have hsx := sl_succ hlt
        have hsm := sl_mono (ls := ls) (k := i + 1) ls.length hlt
        obtain ⟨g0, off0, rfl, u, hcu, zu, cu, rfl, hu1, hu2, hrb⟩ := HR.out i _ (List.getElem?_eq_getElem hlt)
        generalize ls[i]'hlt = x at *
        obtain ⟨hrun, hlen, hT, hrd, hB⟩ := HS.out
        have hs0 := hB.size
        have hgw : g0 < w.heap.size := World.block_lt_of_cell? w _ hcu
        have hil : (i : Int) < (ls.length : Int) := by omega
        have c0 : wo.cell? ⟨g0, off0 + i, none⟩ = some (.slice zu x.length cu) := cell_block hcu (hB.block _ hgw)
        have hBa : Below w.heap.size w (wo.alloc (.cells #[] 5)) := hB.trans ((Below.refl wo.heap.size wo).alloc (Nat.le_refl _) (.cells #[] 5) |>.mono hB.size)
        have c0a : (wo.alloc (.cells #[] 5)).cell? ⟨g0, off0 + i, none⟩ = some (.slice zu x.length cu) := cell_block hcu (hBa.block _ hgw)
        have hT0 := tail_empty wo 5
        have hnb := (RdB.below hrb hBa).news
        have HRB := Lib.hid hrb
        have HCU := Lib.hid hcu
        clear hrb hcu hBa
        go_wp2_with (at_builtin; refine wpList_append_tail _ rfl _ _ 44 rfl 5 i8 _ 1 Tryd.underlying44 hi8 hz80 hz81 hz82 rfl (.slice (some ⟨wo.heap.size, 0, none⟩) 0 0) [] rfl hT0 zu x.length cu (c8 x) rfl (c8_len x) hnb (c8_one x) ?n3 ?n4 ?_)
        case n3 => simp; unfold maxLen; omega
        case n4 => simp; omega
        intro z4 c4 w4 hT4 hg4 hat4
        have hF4 := fresh_of hT4 hg4 hat4
        have hrd4 := hrd.below hF4.below
        have hB4 := hB.trans (hF4.below.mono hB.size)
        have hOl0 := run_len2 (.head []) [] ALL
        rw [hrun] at hOl0
        simp only [List.length_nil, Nat.zero_add] at hOl0
        have hok := run_ok (.head [], []) ALL (by show (0 : Nat) < 1024; decide)
        rw [hrun] at hok
        have hfe := feed_both w.heap.size _ st x (OUT.drop T) _ w4 hrd4 hok hF4.tail (fun b hb h => by have := hF4.own b hb; have := h.2; omega) (by omega) (by rw [List.length_drop]; omega) (envM hE hB4 (fun b hb => hb.1))
        have hs4 := hF4.below.size
        have HFR := Lib.hid hF4
        clear hT4 hg4 hat4 hT0 hnb hrd hrd4 c0 c0a hB hF4
        go_wp2_with fail
        refine hfe.mono ?_
        rintro e w5 ⟨⟨ev, rfl, hev0, hev1⟩, hA5, hrd5⟩
        have hB5 := alt_below hB4 hA5 (fun b hb => hb.1)
        have hs5 := hA5.size
        have htl5 : Tail w5 5 (.slice z4 x.length c4) (c8 x) := HFR.out.tail.same (fun b hb => hA5.block b (HFR.out.tail.lt b hb) (fun h => by have := HFR.out.own b hb; have := h.2; omega))
        have hcm := fun q => conv_part (w := w5.drewN q) (htl5.same (fun _ _ => rfl))

        have hcl := fun q => conv_rdB (w := w5.drewN q) (cap := cu) hu1 (RdB.below HRB.out (below_drewN hB5 q))
        have c5 : w5.cell? ⟨g0, off0 + i, none⟩ = some (.slice zu x.length cu) := cell_block HCU.out (hB5.block _ hgw)
        have hbq := ba_beq' x x
        rw [decide_eq_true rfl] at hbq
        clear hfe hB4 hA5
        go_wp2_with fail
        go_quiet (fail)
        go_wp2_with fail
        have hrd6 := hrd5.other (B := fun _ => False) (Alt.drewN _ w5 nq) (fun _ _ _ h => h)
        have hB6 := below_drewN hB5 nq
        have hm6 : Tail (w5.drewN nq) 5 (.slice z4 x.length c4) (c8 x) := htl5
        have hs56 : (w5.drewN nq).heap.size = w5.heap.size := rfl
        have hlt4 : ∀ b, (Value.slice z4 x.length c4).ownBlock = some b → wo.heap.size ≤ b ∧ b < w4.heap.size := fun b hb => ⟨HFR.out.own b hb, HFR.out.tail.lt b hb⟩
        clear htl5 hcm hcl c5 hrd5 hB5
        generalize w5.drewN nq = w6 at *
        have hmi : ∀ g off, z4 = some ⟨g, off, none⟩ → ∃ cur, w6.heap[g]? = some (.cells cur 5 (0, 0)) ∧ off + x.length ≤ cur.size := fun g off hz => by
          rcases hm6 with ⟨h1, _⟩ | ⟨g', off', cap', cur, h1, h2, h3, h4, h5, _⟩
          · rw [hz] at h1; cases h1
          · rw [hz, c8_len] at h1
            cases h1
            rw [c8_len] at h3
            exact ⟨cur, h2, by omega⟩
        have hzs : 0 < x.length → ∃ g off, z4 = some ⟨g, off, none⟩ := fun h0 => by
          rcases hm6 with ⟨h1, h2⟩ | ⟨g', off', cap', cur, h1, _⟩
          · have := congrArg List.length h2; rw [c8_len] at this; simp only [List.length_nil] at this; omega
          · rw [c8_len] at h1; cases h1; exact ⟨g', off', rfl⟩
        have HM0 := Lib.hid (show Alt (fun b => (Value.slice z4 x.length c4).ownBlock = some b) w6 w6 ∧ ∀ g off, z4 = some ⟨g, off, none⟩ → ∃ cur, w6.heap[g]? = some (.cells cur 5 (0, 0)) ∧ off + x.length ≤ cur.size from ⟨Alt.refl _ _, hmi⟩)
        clear hm6 hmi hbq
        go_loopw [12] (fun kk wv => ∃ k : Nat, k ≤ x.length ∧ kk = .int .i64 k ∧ Hid (Alt (fun b => (Value.slice z4 x.length c4).ownBlock = some b) w6 wv ∧ ∀ g off, z4 = some ⟨g, off, none⟩ → ∃ cur, wv.heap[g]? = some (.cells cur 5 (0, 0)) ∧ off + x.length ≤ cur.size)) (fun kk _ => x.length - (RowKit.intOf kk).toNat)
        case atStart => exact ⟨0, Nat.zero_le _, rfl, HM0⟩
        case round =>
          obtain ⟨k, hk, rfl, HM⟩ := hrel
          by_cases hkx : k < x.length
          · obtain ⟨g, off, rfl⟩ := hzs (by omega)
            obtain ⟨cur, hg, hcs⟩ := HM.out.2 g off rfl
            obtain ⟨y, hy⟩ : ∃ y, cur[off + k]? = some y := ⟨_, Array.getElem?_eq_getElem (by omega)⟩
            have cy : wr.cell? ⟨g, off + k, none⟩ = some y := (cell_of_row wr g (off + k) cur _ (0, 0) hg).trans hy
            have fy : wr.frozen? ⟨g, off + k, none⟩ = false := by simp [World.frozen?, hg]
            have hnew : (wr.setCell ⟨g, off + k, none⟩ (.int .u8 120)).heap[g]? = some (.cells (cur.setIfInBounds (off + k) (.int .u8 120)) 5 (0, 0)) := by
              obtain ⟨hlt9, hk9⟩ := Array.getElem?_eq_some_iff.1 hg
              show (wr.heap.modify g _)[g]? = _
              rw [Array.getElem?_eq_getElem (by rw [Array.size_modify]; exact hlt9), Array.getElem_modify_self, hk9]
              rfl
            have HM2 := Lib.hid (show Alt (fun b => (Value.slice (some ⟨g, off, none⟩) x.length c4).ownBlock = some b) w6 (wr.setCell ⟨g, off + k, none⟩ (.int .u8 120)) ∧ ∀ g' off', (some (⟨g, off, none⟩ : Addr)) = some ⟨g', off', none⟩ → ∃ cur, (wr.setCell ⟨g, off + k, none⟩ (.int .u8 120)).heap[g']? = some (.cells cur 5 (0, 0)) ∧ off' + x.length ≤ cur.size from
              ⟨HM.out.1.then (Alt.setCell wr _ rfl), fun g' off' e => by cases e; exact ⟨_, hnew, by rw [Array.size_setIfInBounds]; exact hcs⟩⟩)
            have hkI : (k : Int) < (x.length : Int) := by omega
            clear hnew hg hcs hy
            go_wp2_with fail
            go_roundw
            case rel => exact ⟨k + 1, hkx, by go_num, HM2⟩
            case measure => simp [RowKit.intOf]; omega
          · obtain rfl : k = x.length := by omega
            obtain ⟨w7, rfl⟩ : ∃ w7, w7 = wr := ⟨_, rfl⟩
            have hA7 := HM.out.1
            have hB7 := alt_below hB6 hA7 (fun b hb => by have := (hlt4 b hb).1; omega)
            have hrd7 := hrd6.other hA7 (fun b _ h1 h2 => by
              have := hlt4 b h2
              rcases h1 with h1 | h1
              · have := h1.2; omega
              · omega)
            have hlo7 : ∀ b, b < w7.heap.size → Grow (Btw w.heap.size wo.heap.size) w4 b → w.heap.size ≤ b := fun b _ h => by
              rcases h with h | h
              · exact h.1
              · omega
            have c7 : w7.cell? ⟨g0, off0 + i, none⟩ = some (.slice zu x.length cu) := cell_block HCU.out (hB7.block _ hgw)
            have hcl7 := conv_rdB (w := w7) (cap := cu) hu1 (RdB.below HRB.out hB7)
            clear hA7 HM HM0 hrd6 hB6 hzs HFR
            by_cases h0 : st.err = 0
            · obtain ⟨st2, N, hr1, hr2⟩ := reads_feed (x := x) hrun hT
              rw [hr2] at hrd7
              have hev := hev0 h0
              rw [hr2] at hev
              obtain ⟨ALL2, hALL2⟩ : ∃ q, q = ALL ++ x := ⟨_, rfl⟩
              obtain ⟨OUT2, hOUT2⟩ : ∃ q, q = OUT ++ N := ⟨_, rfl⟩
              rw [← hALL2, ← hOUT2] at hr1
              rw [← hOUT2] at hrd7
              have hrun2 := hr1
              have hap := ba_append ALL x
              rw [← hALL2] at hap
              have hT2 : T ≤ OUT2.length := by rw [hOUT2, List.length_append]; omega
              have hlen2 : ALL2.length ≤ sl ls (i + 1) := by rw [hALL2, List.length_append, hsx]; omega
              have hb1 := ba_size ALL
              have hb2 := ba_size x
              have t8 : (((st.err : Nat) : Int) != 0) = false := by rw [h0]; rfl
              have t8e : (((st.err : Nat) : Int) == 0) = true := by rw [h0]; rfl
              subst hev
              clear hr1 hr2 hALL2 hOUT2 hrun hev0 hev1 h0
              generalize st.err = EV0 at *
              have hof := refOf_any ALL2 w7 (by omega)
              unfold OfOut at hof
              rw [hrun2] at hof
              simp only at hof
              have hOl := run_len2 (.head []) [] ALL2
              rw [hrun2] at hOl
              simp only [List.length_nil, Nat.zero_add] at hOl
              have HRUN := Lib.hid hrun2
              obtain ⟨E2, hE2⟩ : ∃ E2, st2.err = E2 := ⟨_, rfl⟩
              rw [hE2] at hof
              have HEV := Lib.hid hE2
              have hee : ((E2 : Int) != (E2 : Int)) = false := by simp
              have hrd8 := rd_btw (lo := w.heap.size) hrd7 hlo7
              clear hrun2 hrd7
              try rw [hE2]
              go_wp2_with fail
              refine hof.mono ?_
              rintro e w8 ⟨vw, rfl, hrow8, hB8⟩
              have hd8 : Calls Tryd.prog _ _ _ (Stay (.int .i64 (st2.err : Nat)) w8) := dead_at w.heap.size st2 _ _ w8 (hrd8.below hB8)
              rw [hE2] at hd8
              obtain ⟨zq, cq, rfl, hcq1, -⟩ := RdS.of_row hrow8
              have HK0 := Lib.hid (show AskAt w.heap.size w.heap.size w8 w8 st2 OUT2 T w7.heap.size (.slice zq OUT2.length cq) w7.heap.size from ⟨hrd8.below hB8, hrow8, Below.refl _ _, rfl⟩)
              have HBw8 := Lib.hid (hB7.trans (hB8.mono hB7.size))
              clear hof hrow8 hB8 hrd8 hE2
              go_wp2_with fail
              refine hd8.mono ?_
              rintro e w' ⟨rfl, rfl⟩
              clear hd8
              by_cases hip : i < ps.length
              · obtain ⟨gp, op, rfl, hcp⟩ := HPS.out.1 i _ (List.getElem?_eq_getElem hip)
                have hpbd := HPS.out.2 _ (List.getElem_mem hip)
                have hcp8 : w8.cell? ⟨gp, op + i, none⟩ = _ := cell_block hcp (HBw8.out.block _ (World.block_lt_of_cell? w _ hcp))
                generalize ps[i]'hip = nn at *
                have hipI : (i : Int) < (ps.length : Int) := by omega
                clear hcp
                go_wp2_with fail
                go_loopw [7, 16] (fun t k wr => ∃ T2 k0 : Nat, T2 ≤ OUT2.length ∧ t = .int .i64 T2 ∧ k = .int .i64 k0 ∧ k0 ≤ T2 ∧ Hid (AskAt w.heap.size w.heap.size w8 wr st2 OUT2 T2 w7.heap.size (.slice zq OUT2.length cq) w7.heap.size)) (fun t _ _ => OUT2.length + 1 - (RowKit.intOf t).toNat)
                case atStart => exact ⟨T, 0, hT2, rfl, rfl, Nat.zero_le _, HK0⟩
                case round =>
                  obtain ⟨T2, k0, hTl2, rfl, rfl, hk0, HK⟩ := hrel
                  obtain ⟨wi, rfl⟩ : ∃ wi, wi = wr := ⟨_, rfl⟩
                  by_cases hkn : (k0 : Int) < nn
                  · by_cases hTT : T2 < OUT2.length
                    · have hrdn := HK.out.rd
                      rw [List.drop_eq_getElem_cons hTT] at hrdn
                      have hnx := next_some w.heap.size st2 (OUT2[T2]'hTT) (OUT2.drop (T2 + 1)) _ wi hrdn (by rw [List.length_drop]; omega)
                      have hTI : (T2 : Int) < (OUT2.length : Int) := by omega
                      have HMM := Lib.hid (fun w9 (hA9 : Alt (Btw w.heap.size w7.heap.size) wi w9) (hr9 : RdAt w9 (Btw w.heap.size w7.heap.size) w.heap.size st2 (OUT2.drop (T2 + 1))) (hs9 : w9.heap.size = wi.heap.size) => show AskAt w.heap.size w.heap.size w8 w9 st2 OUT2 (T2 + 1) w7.heap.size (.slice zq OUT2.length cq) w7.heap.size from
                        ⟨hr9, row_alt HK.out.row hA9 (fun b _ h => h.2), HK.out.below.trans (hA9.below (fun b h _ => h.1) (by have := HBw8.out.size; have := HK.out.below.size; omega)), hs9.trans HK.out.size⟩)
                      obtain ⟨zz, cc, hzz, hcc, hdd⟩ := RdS.of_row HK.out.row
                      cases hzz
                      obtain ⟨gq, oq, hzq, hcq⟩ := hdd T2 _ (List.getElem?_eq_getElem hTT)
                      have hbb := ba_beq' (OUT2[T2]'hTT) (OUT2[T2]'hTT)
                      rw [decide_eq_true rfl] at hbb
                      subst hzq
                      generalize OUT2[T2]'hTT = bd at *
                      have HCQ := Lib.hid (And.intro hcq (HK.out.row))
                      clear hrdn hdd hcq
                      go_wp2_with fail
                      refine hnx.mono ?_
                      rintro e w9 ⟨rfl, hA9, hr9, hs9⟩
                      have hc9 : w9.cell? ⟨gq, oq + T2, none⟩ = some (.string (ba bd)) := cell_block HCQ.out.1 (hA9.block gq (World.block_lt_of_cell? wi _ HCQ.out.1) (fun h => by have h2 := h.2; have := (HCQ.out.2.lt gq rfl).1; omega))
                      have HK2 := Lib.hid (HMM.out w9 hA9 hr9 hs9)
                      clear hnx hA9 hr9 hs9
                      go_wp2_with fail
                      go_roundw
                      case rel => exact ⟨T2 + 1, k0 + 1, hTT, by go_num, by go_num, by omega, HK2⟩
                      case measure => simp [RowKit.intOf]; omega
                    · have hTe : T2 = OUT2.length := by omega
                      have hrdn := HK.out.rd
                      rw [hTe, List.drop_length] at hrdn
                      have hnx := next_none w.heap.size st2 _ wi hrdn
                      have hTI : ¬ (T2 : Int) < (OUT2.length : Int) := by omega
                      clear hrdn hTe
                      go_wp2_with fail
                      refine hnx.mono ?_
                      rintro e w9 ⟨rfl, rfl⟩
                      clear hnx
                      go_wp2_with fail
                      go_roundw
                      case rel => exact ⟨i + 1, T2, ALL2, st2, OUT2, hlt, by go_num, rfl, rfl, by rw [HEV.out], Lib.hid ⟨HRUN.out, hlen2, hTl2, HK.out.rd.imp (fun b hb h => ⟨h.1, hb⟩), HBw8.out.trans HK.out.below⟩⟩
                      case measure => simp [RowKit.intOf]; omega
                  · go_wp2_with fail
                    go_roundw
                    case rel => exact ⟨i + 1, T2, ALL2, st2, OUT2, hlt, by go_num, rfl, rfl, by rw [HEV.out], Lib.hid ⟨HRUN.out, hlen2, hTl2, HK.out.rd.imp (fun b hb h => ⟨h.1, hb⟩), HBw8.out.trans HK.out.below⟩⟩
                    case measure => simp [RowKit.intOf]; omega
              · have hipI : ¬ (i : Int) < (ps.length : Int) := by omega
                go_wp2_with fail
                go_loopw [7, 16] (fun t k wr => ∃ T2 k0 : Nat, T2 ≤ OUT2.length ∧ t = .int .i64 T2 ∧ k = .int .i64 k0 ∧ k0 ≤ T2 ∧ Hid (AskAt w.heap.size w.heap.size w8 wr st2 OUT2 T2 w7.heap.size (.slice zq OUT2.length cq) w7.heap.size)) (fun t _ _ => OUT2.length + 1 - (RowKit.intOf t).toNat)
                case atStart => exact ⟨T, 0, hT2, rfl, rfl, Nat.zero_le _, HK0⟩
                case round =>
                  obtain ⟨T2, k0, hTl2, rfl, rfl, hk0, HK⟩ := hrel
                  obtain ⟨wi, rfl⟩ : ∃ wi, wi = wr := ⟨_, rfl⟩
                  by_cases hkn : (k0 : Int) < 1000
                  · by_cases hTT : T2 < OUT2.length
                    · have hrdn := HK.out.rd
                      rw [List.drop_eq_getElem_cons hTT] at hrdn
                      have hnx := next_some w.heap.size st2 (OUT2[T2]'hTT) (OUT2.drop (T2 + 1)) _ wi hrdn (by rw [List.length_drop]; omega)
                      have hTI : (T2 : Int) < (OUT2.length : Int) := by omega
                      have HMM := Lib.hid (fun w9 (hA9 : Alt (Btw w.heap.size w7.heap.size) wi w9) (hr9 : RdAt w9 (Btw w.heap.size w7.heap.size) w.heap.size st2 (OUT2.drop (T2 + 1))) (hs9 : w9.heap.size = wi.heap.size) => show AskAt w.heap.size w.heap.size w8 w9 st2 OUT2 (T2 + 1) w7.heap.size (.slice zq OUT2.length cq) w7.heap.size from
                        ⟨hr9, row_alt HK.out.row hA9 (fun b _ h => h.2), HK.out.below.trans (hA9.below (fun b h _ => h.1) (by have := HBw8.out.size; have := HK.out.below.size; omega)), hs9.trans HK.out.size⟩)
                      obtain ⟨zz, cc, hzz, hcc, hdd⟩ := RdS.of_row HK.out.row
                      cases hzz
                      obtain ⟨gq, oq, hzq, hcq⟩ := hdd T2 _ (List.getElem?_eq_getElem hTT)
                      have hbb := ba_beq' (OUT2[T2]'hTT) (OUT2[T2]'hTT)
                      rw [decide_eq_true rfl] at hbb
                      subst hzq
                      generalize OUT2[T2]'hTT = bd at *
                      have HCQ := Lib.hid (And.intro hcq (HK.out.row))
                      clear hrdn hdd hcq
                      go_wp2_with fail
                      refine hnx.mono ?_
                      rintro e w9 ⟨rfl, hA9, hr9, hs9⟩
                      have hc9 : w9.cell? ⟨gq, oq + T2, none⟩ = some (.string (ba bd)) := cell_block HCQ.out.1 (hA9.block gq (World.block_lt_of_cell? wi _ HCQ.out.1) (fun h => by have h2 := h.2; have := (HCQ.out.2.lt gq rfl).1; omega))
                      have HK2 := Lib.hid (HMM.out w9 hA9 hr9 hs9)
                      clear hnx hA9 hr9 hs9
                      go_wp2_with fail
                      go_roundw
                      case rel => exact ⟨T2 + 1, k0 + 1, hTT, by go_num, by go_num, by omega, HK2⟩
                      case measure => simp [RowKit.intOf]; omega
                    · have hTe : T2 = OUT2.length := by omega
                      have hrdn := HK.out.rd
                      rw [hTe, List.drop_length] at hrdn
                      have hnx := next_none w.heap.size st2 _ wi hrdn
                      have hTI : ¬ (T2 : Int) < (OUT2.length : Int) := by omega
                      clear hrdn hTe
                      go_wp2_with fail
                      refine hnx.mono ?_
                      rintro e w9 ⟨rfl, rfl⟩
                      clear hnx
                      go_wp2_with fail
                      go_roundw
                      case rel => exact ⟨i + 1, T2, ALL2, st2, OUT2, hlt, by go_num, rfl, rfl, by rw [HEV.out], Lib.hid ⟨HRUN.out, hlen2, hTl2, HK.out.rd.imp (fun b hb h => ⟨h.1, hb⟩), HBw8.out.trans HK.out.below⟩⟩
                      case measure => simp [RowKit.intOf]; omega
                  · go_wp2_with fail
                    go_roundw
                    case rel => exact ⟨i + 1, T2, ALL2, st2, OUT2, hlt, by go_num, rfl, rfl, by rw [HEV.out], Lib.hid ⟨HRUN.out, hlen2, hTl2, HK.out.rd.imp (fun b hb h => ⟨h.1, hb⟩), HBw8.out.trans HK.out.below⟩⟩
                    case measure => simp [RowKit.intOf]; omega
            · obtain ⟨st2, hst2⟩ : ∃ q, q = st := ⟨_, rfl⟩
              have hev := hev1 h0
              subst hev
              obtain ⟨E, rfl⟩ : ∃ E, st = .dead E := by
                cases st with
                | head p => exact absurd rfl h0
                | body a b => exact absurd rfl h0
                | dead E => exact ⟨E, rfl⟩
              rw [run_dead] at hrd7
              rw [← hst2] at hrd7 hrun
              have t8 : ((((St.dead E).err : Nat) : Int) != 0) = true := by simp; exact h0
              have t8e : ((((St.dead E).err : Nat) : Int) == 0) = false := by simp; exact h0
              rw [← hst2] at t8 t8e ⊢
              obtain ⟨ALL2, hALL2⟩ : ∃ q, q = ALL := ⟨_, rfl⟩
              obtain ⟨OUT2, hOUT2⟩ : ∃ q, q = OUT := ⟨_, rfl⟩
              rw [← hALL2, ← hOUT2] at hrun
              rw [← hOUT2] at hrd7
              have hrun2 := hrun
              have hT2 : T ≤ OUT2.length := by rw [hOUT2]; exact hT
              have hlen2 : ALL2.length ≤ sl ls (i + 1) := by rw [hALL2, hsx]; omega
              rw [← hALL2]
              clear hrun hev0 hev1 h0 hALL2 hOUT2 hst2
              have hof := refOf_any ALL2 w7 (by omega)
              unfold OfOut at hof
              rw [hrun2] at hof
              simp only at hof
              have hOl := run_len2 (.head []) [] ALL2
              rw [hrun2] at hOl
              simp only [List.length_nil, Nat.zero_add] at hOl
              have HRUN := Lib.hid hrun2
              obtain ⟨E2, hE2⟩ : ∃ E2, st2.err = E2 := ⟨_, rfl⟩
              rw [hE2] at hof
              have HEV := Lib.hid hE2
              have hee : ((E2 : Int) != (E2 : Int)) = false := by simp
              have hrd8 := rd_btw (lo := w.heap.size) hrd7 hlo7
              clear hrun2 hrd7
              rw [hE2] at t8 t8e ⊢
              go_wp2_with fail
              refine hof.mono ?_
              rintro e w8 ⟨vw, rfl, hrow8, hB8⟩
              have hd8 : Calls Tryd.prog _ _ _ (Stay (.int .i64 (st2.err : Nat)) w8) := dead_at w.heap.size st2 _ _ w8 (hrd8.below hB8)
              rw [hE2] at hd8
              obtain ⟨zq, cq, rfl, hcq1, -⟩ := RdS.of_row hrow8
              have HK0 := Lib.hid (show AskAt w.heap.size w.heap.size w8 w8 st2 OUT2 T w7.heap.size (.slice zq OUT2.length cq) w7.heap.size from ⟨hrd8.below hB8, hrow8, Below.refl _ _, rfl⟩)
              have HBw8 := Lib.hid (hB7.trans (hB8.mono hB7.size))
              clear hof hrow8 hB8 hrd8 hE2
              go_wp2_with fail
              refine hd8.mono ?_
              rintro e w' ⟨rfl, rfl⟩
              clear hd8
              by_cases hip : i < ps.length
              · obtain ⟨gp, op, rfl, hcp⟩ := HPS.out.1 i _ (List.getElem?_eq_getElem hip)
                have hpbd := HPS.out.2 _ (List.getElem_mem hip)
                have hcp8 : w8.cell? ⟨gp, op + i, none⟩ = _ := cell_block hcp (HBw8.out.block _ (World.block_lt_of_cell? w _ hcp))
                generalize ps[i]'hip = nn at *
                have hipI : (i : Int) < (ps.length : Int) := by omega
                clear hcp
                go_wp2_with fail
                go_loopw [7, 16] (fun t k wr => ∃ T2 k0 : Nat, T2 ≤ OUT2.length ∧ t = .int .i64 T2 ∧ k = .int .i64 k0 ∧ k0 ≤ T2 ∧ Hid (AskAt w.heap.size w.heap.size w8 wr st2 OUT2 T2 w7.heap.size (.slice zq OUT2.length cq) w7.heap.size)) (fun t _ _ => OUT2.length + 1 - (RowKit.intOf t).toNat)
                case atStart => exact ⟨T, 0, hT2, rfl, rfl, Nat.zero_le _, HK0⟩
                case round =>
                  obtain ⟨T2, k0, hTl2, rfl, rfl, hk0, HK⟩ := hrel
                  obtain ⟨wi, rfl⟩ : ∃ wi, wi = wr := ⟨_, rfl⟩
                  by_cases hkn : (k0 : Int) < nn
                  · by_cases hTT : T2 < OUT2.length
                    · have hrdn := HK.out.rd
                      rw [List.drop_eq_getElem_cons hTT] at hrdn
                      have hnx := next_some w.heap.size st2 (OUT2[T2]'hTT) (OUT2.drop (T2 + 1)) _ wi hrdn (by rw [List.length_drop]; omega)
                      have hTI : (T2 : Int) < (OUT2.length : Int) := by omega
                      have HMM := Lib.hid (fun w9 (hA9 : Alt (Btw w.heap.size w7.heap.size) wi w9) (hr9 : RdAt w9 (Btw w.heap.size w7.heap.size) w.heap.size st2 (OUT2.drop (T2 + 1))) (hs9 : w9.heap.size = wi.heap.size) => show AskAt w.heap.size w.heap.size w8 w9 st2 OUT2 (T2 + 1) w7.heap.size (.slice zq OUT2.length cq) w7.heap.size from
                        ⟨hr9, row_alt HK.out.row hA9 (fun b _ h => h.2), HK.out.below.trans (hA9.below (fun b h _ => h.1) (by have := HBw8.out.size; have := HK.out.below.size; omega)), hs9.trans HK.out.size⟩)
                      obtain ⟨zz, cc, hzz, hcc, hdd⟩ := RdS.of_row HK.out.row
                      cases hzz
                      obtain ⟨gq, oq, hzq, hcq⟩ := hdd T2 _ (List.getElem?_eq_getElem hTT)
                      have hbb := ba_beq' (OUT2[T2]'hTT) (OUT2[T2]'hTT)
                      rw [decide_eq_true rfl] at hbb
                      subst hzq
                      generalize OUT2[T2]'hTT = bd at *
                      have HCQ := Lib.hid (And.intro hcq (HK.out.row))
                      clear hrdn hdd hcq
                      go_wp2_with fail
                      refine hnx.mono ?_
                      rintro e w9 ⟨rfl, hA9, hr9, hs9⟩
                      have hc9 : w9.cell? ⟨gq, oq + T2, none⟩ = some (.string (ba bd)) := cell_block HCQ.out.1 (hA9.block gq (World.block_lt_of_cell? wi _ HCQ.out.1) (fun h => by have h2 := h.2; have := (HCQ.out.2.lt gq rfl).1; omega))
                      have HK2 := Lib.hid (HMM.out w9 hA9 hr9 hs9)
                      clear hnx hA9 hr9 hs9
                      go_wp2_with fail
                      go_roundw
                      case rel => exact ⟨T2 + 1, k0 + 1, hTT, by go_num, by go_num, by omega, HK2⟩
                      case measure => simp [RowKit.intOf]; omega
                    · have hTe : T2 = OUT2.length := by omega
                      have hrdn := HK.out.rd
                      rw [hTe, List.drop_length] at hrdn
                      have hnx := next_none w.heap.size st2 _ wi hrdn
                      have hTI : ¬ (T2 : Int) < (OUT2.length : Int) := by omega
                      clear hrdn hTe
                      go_wp2_with fail
                      refine hnx.mono ?_
                      rintro e w9 ⟨rfl, rfl⟩
                      clear hnx
                      go_wp2_with fail
                      go_roundw
                      case rel => exact ⟨i + 1, T2, ALL2, st2, OUT2, hlt, by go_num, rfl, rfl, by rw [HEV.out], Lib.hid ⟨HRUN.out, hlen2, hTl2, HK.out.rd.imp (fun b hb h => ⟨h.1, hb⟩), HBw8.out.trans HK.out.below⟩⟩
                      case measure => simp [RowKit.intOf]; omega
                  · go_wp2_with fail
                    go_roundw
                    case rel => exact ⟨i + 1, T2, ALL2, st2, OUT2, hlt, by go_num, rfl, rfl, by rw [HEV.out], Lib.hid ⟨HRUN.out, hlen2, hTl2, HK.out.rd.imp (fun b hb h => ⟨h.1, hb⟩), HBw8.out.trans HK.out.below⟩⟩
                    case measure => simp [RowKit.intOf]; omega
              · have hipI : ¬ (i : Int) < (ps.length : Int) := by omega
                go_wp2_with fail
                go_loopw [7, 16] (fun t k wr => ∃ T2 k0 : Nat, T2 ≤ OUT2.length ∧ t = .int .i64 T2 ∧ k = .int .i64 k0 ∧ k0 ≤ T2 ∧ Hid (AskAt w.heap.size w.heap.size w8 wr st2 OUT2 T2 w7.heap.size (.slice zq OUT2.length cq) w7.heap.size)) (fun t _ _ => OUT2.length + 1 - (RowKit.intOf t).toNat)
                case atStart => exact ⟨T, 0, hT2, rfl, rfl, Nat.zero_le _, HK0⟩
                case round =>
                  obtain ⟨T2, k0, hTl2, rfl, rfl, hk0, HK⟩ := hrel
                  obtain ⟨wi, rfl⟩ : ∃ wi, wi = wr := ⟨_, rfl⟩
                  by_cases hkn : (k0 : Int) < 1000
                  · by_cases hTT : T2 < OUT2.length
                    · have hrdn := HK.out.rd
                      rw [List.drop_eq_getElem_cons hTT] at hrdn
                      have hnx := next_some w.heap.size st2 (OUT2[T2]'hTT) (OUT2.drop (T2 + 1)) _ wi hrdn (by rw [List.length_drop]; omega)
                      have hTI : (T2 : Int) < (OUT2.length : Int) := by omega
                      have HMM := Lib.hid (fun w9 (hA9 : Alt (Btw w.heap.size w7.heap.size) wi w9) (hr9 : RdAt w9 (Btw w.heap.size w7.heap.size) w.heap.size st2 (OUT2.drop (T2 + 1))) (hs9 : w9.heap.size = wi.heap.size) => show AskAt w.heap.size w.heap.size w8 w9 st2 OUT2 (T2 + 1) w7.heap.size (.slice zq OUT2.length cq) w7.heap.size from
                        ⟨hr9, row_alt HK.out.row hA9 (fun b _ h => h.2), HK.out.below.trans (hA9.below (fun b h _ => h.1) (by have := HBw8.out.size; have := HK.out.below.size; omega)), hs9.trans HK.out.size⟩)
                      obtain ⟨zz, cc, hzz, hcc, hdd⟩ := RdS.of_row HK.out.row
                      cases hzz
                      obtain ⟨gq, oq, hzq, hcq⟩ := hdd T2 _ (List.getElem?_eq_getElem hTT)
                      have hbb := ba_beq' (OUT2[T2]'hTT) (OUT2[T2]'hTT)
                      rw [decide_eq_true rfl] at hbb
                      subst hzq
                      generalize OUT2[T2]'hTT = bd at *
                      have HCQ := Lib.hid (And.intro hcq (HK.out.row))
                      clear hrdn hdd hcq
                      go_wp2_with fail
                      refine hnx.mono ?_
                      rintro e w9 ⟨rfl, hA9, hr9, hs9⟩
                      have hc9 : w9.cell? ⟨gq, oq + T2, none⟩ = some (.string (ba bd)) := cell_block HCQ.out.1 (hA9.block gq (World.block_lt_of_cell? wi _ HCQ.out.1) (fun h => by have h2 := h.2; have := (HCQ.out.2.lt gq rfl).1; omega))
                      have HK2 := Lib.hid (HMM.out w9 hA9 hr9 hs9)
                      clear hnx hA9 hr9 hs9
                      go_wp2_with fail
                      go_roundw
                      case rel => exact ⟨T2 + 1, k0 + 1, hTT, by go_num, by go_num, by omega, HK2⟩
                      case measure => simp [RowKit.intOf]; omega
                    · have hTe : T2 = OUT2.length := by omega
                      have hrdn := HK.out.rd
                      rw [hTe, List.drop_length] at hrdn
                      have hnx := next_none w.heap.size st2 _ wi hrdn
                      have hTI : ¬ (T2 : Int) < (OUT2.length : Int) := by omega
                      clear hrdn hTe
                      go_wp2_with fail
                      refine hnx.mono ?_
                      rintro e w9 ⟨rfl, rfl⟩
                      clear hnx
                      go_wp2_with fail
                      go_roundw
                      case rel => exact ⟨i + 1, T2, ALL2, st2, OUT2, hlt, by go_num, rfl, rfl, by rw [HEV.out], Lib.hid ⟨HRUN.out, hlen2, hTl2, HK.out.rd.imp (fun b hb h => ⟨h.1, hb⟩), HBw8.out.trans HK.out.below⟩⟩
                      case measure => simp [RowKit.intOf]; omega
                  · go_wp2_with fail
                    go_roundw
                    case rel => exact ⟨i + 1, T2, ALL2, st2, OUT2, hlt, by go_num, rfl, rfl, by rw [HEV.out], Lib.hid ⟨HRUN.out, hlen2, hTl2, HK.out.rd.imp (fun b hb h => ⟨h.1, hb⟩), HBw8.out.trans HK.out.below⟩⟩
                    case measure => simp [RowKit.intOf]; omega
      · obtain rfl : i = ls.length := by omega
        go_wp2_with fail
        go_ret
        exact ⟨rfl, HS.out.below⟩
end Go.Proofs.YtmaclplhphfkiaaDoor
