/- The chapter's examples, asked of the program. Conditions: the library's own variable holds a number; the library's table of powers as its text lays it. -/
import Derived.Test.YtmaclplhphfkiaaDoorFrCut
import Derived.Test.YtmaclplhphfkiaaDoorFrWrite
namespace Go.Proofs.YtmaclplhphfkiaaDoor
open Go Go.RowKit Go.Lib F

/-- what the library's own variables hold -/
def Grd (w : World) : Prop := (∃ m, w.cell? ⟨10, 0, none⟩ = some (.int .i64 m)) ∧ FW.PowTab w
theorem Grd.lt {w : World} (h : Grd w) : 10 < w.heap.size := by obtain ⟨⟨m, hm⟩, _⟩ := h; exact World.block_lt_of_cell? w _ hm
theorem Grd.below {w w' : World} (h : Grd w) (hB : Below w.heap.size w w') : Grd w' := by
  obtain ⟨⟨m, hm⟩, hp⟩ := h
  exact ⟨⟨m, cell_block hm (hB.block _ (World.block_lt_of_cell? w _ hm))⟩, Lib.tabBelow_of_tabIs hp w' hB⟩
/-- blocks between two marks -/
def Btw (lo hi : Nat) (b : Nat) : Prop := lo ≤ b ∧ b < hi
theorem rd_btw {w : World} {A : Nat → Prop} {R lo : Nat} {st : St} {out : List Bs} (h : RdAt w A R st out) (hA : ∀ b, b < w.heap.size → A b → lo ≤ b) : RdAt w (Btw lo w.heap.size) R st out := h.imp fun b hb ha => ⟨hA b hb ha, hb⟩
theorem env_of {w W : World} {A : Nat → Prop} (h : Grd w) (hB : Below w.heap.size w W) (hA : ∀ b, A b → w.heap.size ≤ b) : Env A W :=
  ⟨(h.below hB).1, fun ha => by have := hA _ ha; have := h.lt; omega⟩
/-- bytes that were laid just now are fed -/
def LitOut (n R : Nat) (st : St) (x : Rs) (W : World) (e : Ending) (w' : World) : Prop :=
  (∃ v, e = .returned (.int .i64 v) ∧ (st.err = 0 → v = (x.1.err : Nat)) ∧ (st.err ≠ 0 → v = 52)) ∧ Below n W w' ∧ RdAt w' (Btw n w'.heap.size) R x.1 x.2
theorem feed_lit (w W : World) (hG : Grd w) (hB : Below w.heap.size w W) (R : Nat) (st : St) (l : Bs) (out : List Bs) (hR : RdAt W (Btw w.heap.size W.heap.size) R st out) (hst : st.ok) (hl : l.length ≤ 1000000) (ho : out.length ≤ 100000000) (fz : Nat × Nat) :
    Calls Tryd.prog 21 #[.pointer (some ⟨R, 0, none⟩), .slice (some ⟨W.heap.size, 0, none⟩) l.length l.length] (W.alloc (.cells (c8 l).toArray 5 fz)) (LitOut w.heap.size R st (run (st, out) l) W) := by
  have hBa : Below w.heap.size W (W.alloc (.cells (c8 l).toArray 5 fz)) := (Below.refl _ W).alloc hB.size _
  have hA8 : At8 (W.alloc (.cells (c8 l).toArray 5 fz)) W.heap.size 0 l := fun j x hj => by
    rw [Nat.zero_add, cell_of_row _ _ j _ _ fz (heap_alloc_new W _)]
    rw [List.getElem?_toArray]
    exact c8_at hj
  have hR1 := hR.other (B := fun _ => False) (Alt.alloc _ W (.cells (c8 l).toArray 5 fz)) (fun _ _ _ h => h)
  have hE : Env (Btw w.heap.size W.heap.size) (W.alloc (.cells (c8 l).toArray 5 fz)) := env_of hG (hB.trans hBa) (fun b hb => hb.1)
  have fin : ∀ w', Alt (Btw w.heap.size W.heap.size) (W.alloc (.cells (c8 l).toArray 5 fz)) w' → RdAt w' (Grow (Btw w.heap.size W.heap.size) (W.alloc (.cells (c8 l).toArray 5 fz))) R (run (st, out) l).1 (run (st, out) l).2 →
      Below w.heap.size W w' ∧ RdAt w' (Btw w.heap.size w'.heap.size) R (run (st, out) l).1 (run (st, out) l).2 := fun w' hA hR' => by
    refine ⟨hBa.trans (hA.below (fun b hb _ => hb.1) (by rw [World.size_alloc]; have := hB.size; omega)), rd_btw hR' fun b _ hb => ?_⟩
    rcases hb with hb | hb
    · exact hb.1
    · rw [World.size_alloc] at hb; have := hB.size; omega
  by_cases h0 : st.err = 0
  · refine (feed_any bsOk R W.heap.size 0 l.length st l out _ _ hR1 hst h0 (Nat.le_refl _) (by omega) (by omega) (by omega) hA8 (fun _ h => by have := h.2; omega) hE).mono fun e w' h => ?_
    exact ⟨⟨_, h.1, fun _ => rfl, fun h => absurd h0 h⟩, fin w' h.2.1 h.2.2⟩
  · cases st with
    | head p => exact absurd rfl h0
    | body n p => exact absurd rfl h0
    | dead E =>
      refine (feed_dead R E _ out _ _ hR1 h0).mono fun e w' h => ?_
      obtain ⟨he, rfl⟩ := h
      refine ⟨⟨_, he, fun h => absurd h h0, fun _ => rfl⟩, fin _ (Alt.refl _ _) ?_⟩
      rw [run_dead]
      exact hR1.imp fun b _ h => .inl h
def aw1 : Bs := [67, 111, 110, 116, 101, 110, 116, 45, 76, 101, 110, 103, 116, 104, 58, 32, 50, 13, 10, 13]
def aw2 : Bs := [10, 123, 125, 88, 58, 13, 10, 99, 111, 110, 116, 101, 110, 116, 45, 108, 101, 110, 103, 116, 104, 58, 9, 48, 51, 32, 13, 10, 13, 10, 97, 98, 99]
theorem run1 : run (.head [], []) aw1 = (.head aw1, []) := by decide +kernel
theorem run2 : run (.head aw1, []) aw2 = (.head [], [[123, 125], [97, 98, 99]]) := by decide +kernel
theorem run3 : run (.head [], []) [13, 10] = (.dead 50, []) := by decide +kernel
theorem run4 : run (.dead 50, []) [97] = (.dead 50, []) := by decide +kernel
set_option maxRecDepth 100000 in
set_option maxHeartbeats 1000000 in
theorem awake_any (w : World) (hG : Grd w) : Calls Tryd.prog 26 #[] w (BoolBelow0 true w) := by
  have hnew := new_any w
  have hF := fun W hB st l out hR hst hl ho fz => feed_lit w W hG hB w.heap.size st l out hR hst hl ho fz
  have kc := fun (w : World) (C : Array Value) (n c : Nat) => Lib.run_convert_bytes_const (P := Tryd.prog) w 44 5 C n c Tryd.underlying44 Tryd.underlying5
  go_enter Tryd.func26, Tryd.ntmps26
  go_wp2_with fail
  refine hnew.mono ?_
  rintro e w1 ⟨rfl, hR1, hB1, -⟩
  have h1 := hF w1 hB1 (.head []) aw1 [] (rd_btw hR1 fun b _ hb => by omega) (by show (0 : Nat) < 1024; decide) (by decide) (by decide) (20, 21)
  rw [run1] at h1
  change Calls Tryd.prog 21 #[.pointer (some ⟨w.heap.size, 0, none⟩), .slice (some ⟨w1.heap.size, 0, none⟩) 20 20]
    (w1.alloc (.cells #[.int .u8 67, .int .u8 111, .int .u8 110, .int .u8 116, .int .u8 101, .int .u8 110, .int .u8 116, .int .u8 45, .int .u8 76, .int .u8 101, .int .u8 110, .int .u8 103, .int .u8 116, .int .u8 104, .int .u8 58, .int .u8 32, .int .u8 50, .int .u8 13, .int .u8 10, .int .u8 13] 5 (20, 21))) (LitOut w.heap.size w.heap.size (.head []) (.head aw1, []) w1) at h1
  go_wp2_with fail
  refine h1.mono ?_
  rintro e w2 ⟨⟨v2, rfl, hv2, -⟩, hB2, hR2⟩
  obtain rfl := hv2 rfl
  clear hv2 h1 hR1
  have hn := next_none w.heap.size _ _ w2 hR2
  go_wp2_with fail
  refine hn.mono ?_
  rintro e w' ⟨rfl, rfl⟩
  have hB12 := hB1.trans hB2
  clear hB1 hB2 hn
  have h1 := hF w2 hB12 (.head aw1) aw2 [] hR2 (by show (20 : Nat) < 1024; decide) (by decide) (by decide) (33, 34)
  rw [run2] at h1
  change Calls Tryd.prog 21 #[.pointer (some ⟨w.heap.size, 0, none⟩), .slice (some ⟨w2.heap.size, 0, none⟩) 33 33]
    (w2.alloc (.cells #[.int .u8 10, .int .u8 123, .int .u8 125, .int .u8 88, .int .u8 58, .int .u8 13, .int .u8 10, .int .u8 99, .int .u8 111, .int .u8 110, .int .u8 116, .int .u8 101, .int .u8 110, .int .u8 116, .int .u8 45, .int .u8 108, .int .u8 101, .int .u8 110, .int .u8 103, .int .u8 116, .int .u8 104, .int .u8 58, .int .u8 9, .int .u8 48, .int .u8 51, .int .u8 32, .int .u8 13, .int .u8 10, .int .u8 13, .int .u8 10, .int .u8 97, .int .u8 98, .int .u8 99] 5 (33, 34)))
    (LitOut w.heap.size w.heap.size (.head aw1) (.head [], [[123, 125], [97, 98, 99]]) w2) at h1
  go_wp2_with fail
  refine h1.mono ?_
  rintro e w3 ⟨⟨v3, rfl, hv3, -⟩, hB3, hR3⟩
  obtain rfl := hv3 rfl
  have hB13 := hB12.trans hB3
  clear hv3 h1 hR2 hB12 hB3
  have hn := next_some w.heap.size _ _ _ _ w3 hR3 (by decide)
  go_wp2_with fail
  refine hn.mono ?_
  rintro e w4 ⟨rfl, hA4, hR4, hs4⟩
  have hB14 := hB13.trans (hA4.below (fun b hb _ => hb.1) hB13.size)
  clear hn hR3 hA4 hB13
  have hn := next_some w.heap.size _ _ _ _ w4 hR4 (by decide)
  go_wp2_with fail
  refine hn.mono ?_
  rintro e w5 ⟨rfl, hA5, hR5, hs5⟩
  have hB15 := hB14.trans (hA5.below (fun b hb _ => hb.1) hB14.size)
  clear hn hR4 hA5 hB14
  have hR5' := rd_btw (lo := w.heap.size) hR5 (fun b _ hb => hb.1)
  clear hR5 hs4 hs5
  have h1 := hF w5 hB15 (.head []) [13, 10] [] hR5' (by show (0 : Nat) < 1024; decide) (by decide) (by decide) (2, 3)
  rw [run3] at h1
  change Calls Tryd.prog 21 #[.pointer (some ⟨w.heap.size, 0, none⟩), .slice (some ⟨w5.heap.size, 0, none⟩) 2 2]
    (w5.alloc (.cells #[.int .u8 13, .int .u8 10] 5 (2, 3))) (LitOut w.heap.size w.heap.size (.head []) (.dead 50, []) w5) at h1
  go_wp2_with fail
  refine h1.mono ?_
  rintro e w6 ⟨⟨v6, rfl, hv6, -⟩, hB6, hR6⟩
  obtain rfl : v6 = 50 := hv6 rfl
  have hB16 := hB15.trans hB6
  clear hv6 h1 hR5' hB15 hB6
  have h1 := hF w6 hB16 (.dead 50) [97] [] hR6 (.inl rfl) (by decide) (by decide) (1, 2)
  rw [run4] at h1
  change Calls Tryd.prog 21 #[.pointer (some ⟨w.heap.size, 0, none⟩), .slice (some ⟨w6.heap.size, 0, none⟩) 1 1]
    (w6.alloc (.cells #[.int .u8 97] 5 (1, 2))) (LitOut w.heap.size w.heap.size (.dead 50) (.dead 50, []) w6) at h1
  go_wp2_with fail
  refine h1.mono ?_
  rintro e w7 ⟨⟨v7, rfl, -, hv7⟩, hB7, hR7⟩
  obtain rfl := hv7 (by decide)
  have hB17 := hB16.trans hB7
  clear hv7 h1 hR6 hB16 hB7
  have hd := dead_at w.heap.size _ _ _ w7 hR7
  have hw := write_any ⟨#[195, 169]⟩ w7 (by decide) (hG.below hB17).2
  have q1 : (ba [123, 125]).toList = [123, 125] := by decide +kernel
  have q2 : (ba [97, 98, 99]).toList = [97, 98, 99] := by decide +kernel
  have q3 : ((FW.wr ⟨#[195, 169]⟩).toList == [67, 111, 110, 116, 101, 110, 116, 45, 76, 101, 110, 103, 116, 104, 58, 32, 50, 13, 10, 13, 10, 195, 169]) = true := by decide +kernel
  go_wp2_with fail
  refine hd.mono ?_
  rintro e w' ⟨rfl, rfl⟩
  go_wp2_with fail
  refine hw.mono ?_
  rintro e w8 ⟨rfl, hB8⟩
  have HB := Lib.hid (hB17.trans (hB8.mono hB17.size))
  clear hB8 hw hd hR7
  generalize FW.wr ⟨#[195, 169]⟩ = X at *
  have HQ := Lib.hid q3
  clear q3
  go_wp2_with fail
  go_ret
  exact ⟨congrArg (fun b => Ending.returned (.bool b)) HQ.out, HB.out⟩
end Go.Proofs.YtmaclplhphfkiaaDoor
