/- The statement that the lines with their ends are all of a string, walked: whatever the string, it answers true. Conditions: such as Go can hold; the library's two tables as its text lays them. -/
import Derived.Test.YtdhdemndeiipcaaDoorLinAwake
import Derived.Test.YtdhdemndeiipcaaDoorLinMathB
import Derived.Deep.QuietTactic
import Derived.BigQuiet
namespace Go.Proofs.YtdhdemndeiipcaaDoor
open Go Go.RowKit Go.Shelf Go.Lib

theorem eq_of_get {x y : ByteArray} (h : x.size = y.size) (hg : ∀ i, i < x.size → x.get! i = y.get! i) : x = y := by
  apply ByteArray.ext
  apply Array.ext h
  intro i h1 h2
  have := hg i h1
  rw [L.at_get (s := x) h1, L.at_get (s := y) h2] at this
  exact this
theorem ext_none (s : ByteArray) (e : Nat) : s.extract e e = ⟨#[]⟩ :=
  eq_of_get (by rw [ByteArray.size_extract]; show min e s.size - e = 0; omega) (fun i hi => by rw [ByteArray.size_extract] at hi; omega)
theorem ext_one (s : ByteArray) (t : Nat) (b : UInt8) (h : t < s.size) (hb : (s.get! t).toNat = b.toNat) : s.extract t (t + 1) = ⟨#[b]⟩ := by
  have hz := U.ext2_len s t (t + 1) (by omega)
  refine eq_of_get (by rw [hz]; show t + 1 - t = 1; omega) (fun i hi => ?_)
  obtain rfl : i = 0 := by omega
  rw [U.ext2_get s t (t + 1) 0 (by omega), Nat.add_zero]
  exact UInt8.toNat_inj.1 hb
theorem ext_two (s : ByteArray) (t : Nat) (b c : UInt8) (h : t + 1 < s.size) (hb : (s.get! t).toNat = b.toNat) (hc : (s.get! (t + 1)).toNat = c.toNat) : s.extract t (t + 2) = ⟨#[b, c]⟩ := by
  have hz := U.ext2_len s t (t + 2) (by omega)
  refine eq_of_get (by rw [hz]; show t + 2 - t = 2; omega) (fun i hi => ?_)
  have : i = 0 ∨ i = 1 := by omega
  rcases this with rfl | rfl
  · rw [U.ext2_get s t (t + 2) 0 (by omega), Nat.add_zero]
    exact UInt8.toNat_inj.1 hb
  · rw [U.ext2_get s t (t + 2) 1 (by omega)]
    exact UInt8.toNat_inj.1 hc

set_option maxHeartbeats 400000 in
set_option maxRecDepth 100000 in
theorem wholeLaw_long (s : ByteArray) (w : World) (_hs : s.size ≤ 9223372036854775807) (hT : Tabs w) (hl : (20000 : Int) < (s.size : Int)) :
    Calls Tryd.prog 5 #[.string s] w (SaysTrue w) := by
  have hw := linAwake_any w hT
  go_enter Tryd.func5, Tryd.ntmps5
  go_wp2_with fail
  refine hw.mono ?_
  rintro e w0 ⟨rfl, b0⟩
  go_wp2_with fail
  go_ret
  exact ⟨rfl, b0⟩

set_option maxRecDepth 100000 in
set_option maxHeartbeats 2000000 in
theorem wholeLaw_short (s : ByteArray) (w : World) (hs : s.size ≤ 20000) (hT : Tabs w) :
    Calls Tryd.prog 5 #[.string s] w (SaysTrue w) := by
  have hw := linAwake_any w hT
  have hst := fun W => starts_any s W (by omega)
  have hmy := fun W => many_any s W (by omega)
  have hm1 := L.mny_pos s
  have hm2 := L.mny_le s
  have d0 : decide ((20000 : Int) < (s.size : Int)) = false := decide_eq_false (by omega)
  have hm0 : 0 < L.mny s := by omega
  have dm : ((L.mny s : Int) == 0) = false := by simp; omega
  go_enter Tryd.func5, Tryd.ntmps5
  go_wp2_with fail
  refine hw.mono ?_
  rintro e w0 ⟨rfl, b0⟩
  go_wp2_with fail
  refine (hst _).mono ?_
  rintro e w1 ⟨g, cap, rfl, hown, b1⟩
  have hc0 : w1.cell? ⟨g, 0, none⟩ = some (.int .i64 0) := offs_cell hown hm0
  have HO := Lib.hid hown
  clear hown
  have hB1 := b0.trans (b1.mono b0.size)
  clear b0 b1
  go_wp2_with fail
  refine (hmy _).mono ?_
  rintro e w2 ⟨rfl, b2⟩
  have HO2 := Lib.hid (ownsRow_below HO.out b2)
  have hB2 := hB1.trans (b2.mono hB1.size)
  clear hB1 b2 HO hc0
  go_wp2_with fail
  go_loopw [4] (fun i wr => ∃ j : Nat, i = .int .i64 j ∧ j ≤ L.mny s ∧ Hid (wr.ownsRow w0.heap.size 3 1 (.slice (some ⟨g, 0, none⟩) (L.mny s) cap) (L.mny s) (offs s (List.range (L.mny s))) ∧ Below w.heap.size w wr)) (fun i _ => L.mny s - (RowKit.intOf i).toNat)
  case atStart => exact ⟨0, rfl, by omega, Lib.hid ⟨HO2.out, hB2⟩⟩
  case round =>
    obtain ⟨j, rfl, hj, HW⟩ := hrel
    clear HO2 hB2
    by_cases hlt : j < L.mny s
    · by_cases h300 : (j : Int) < 300
      · have hfr := L.fr_le hlt
        have hge := L.to_ge hlt
        have hto := L.to_le hlt
        have hline := fun W => (line_is s (j : Nat) W (by omega)).mono fun e w' h => line_yes hlt h
        unfold LineYes at hline
        have HN : Hid (∀ k, L.fr s j ≤ k → k < L.to s j → L.brk s k = false) := Lib.hid (fun k h1 h2 => L.ce_none hfr h1 h2)
        have HF : Hid (∀ (W : World) (n₀ g cap : Nat), W.ownsRow n₀ 3 1 (.slice (some ⟨g, 0, none⟩) (L.mny s) cap) (L.mny s) (offs s (List.range (L.mny s))) → W.cell? ⟨g, j, none⟩ = some (.int .i64 (L.fr s j))) := Lib.hid (fun W n₀ g cap h => offs_cell h hlt)
        generalize hf : L.fr s j = f at *
        generalize ht : L.to s j = t at *
        have hfr' : L.fr s j ≤ s.size := by rw [hf]; exact hfr
        have HR' := Lib.hid hfr'
        clear hfr'
        have Hf := Lib.hid hf
        have Ht := Lib.hid ht
        clear hf ht
        go_wp2_with fail
        refine (hline _).mono ?_
        rintro e w3 ⟨rfl, b3⟩
        have HO3 := Lib.hid ((ownsRow_below HW.out.1 b3).alloc (.cells #[.int .i64 f, .int .i64 t] 29))
        have hB3 := Lib.hid ((HW.out.2.trans (b3.mono HW.out.2.size)).alloc (HW.out.2.trans (b3.mono HW.out.2.size)).size (.cells #[.int .i64 f, .int .i64 t] 29))
        have bx := Boxed2.new w3 29 (.int .i64 f) (.int .i64 t)
        have x0 := bx.cell0
        have x1 := bx.cell1
        have kj := HF.out _ _ _ _ HO3.out
        clear b3 bx
        go_wp2_with fail
        go_quiet (fail)
        have hD := below_drewN (Below.refl (w3.alloc (.cells #[.int .i64 f, .int .i64 t] 29)).heap.size (w3.alloc (.cells #[.int .i64 f, .int .i64 t] 29))) nq
        have HO4 := Lib.hid (ownsRow_below HO3.out hD)
        have hB4 := Lib.hid (below_drewN hB3.out nq)
        have x0' := (hD.cell (p := ⟨w3.heap.size, 0, none⟩) (by simp)).trans x0
        have x1' := (hD.cell (p := ⟨w3.heap.size, 1, none⟩) (by simp)).trans x1
        have hlt4 : w3.heap.size < ((w3.alloc (.cells #[.int .i64 f, .int .i64 t] 29)).drewN nq).heap.size := by have := hD.size; rw [World.size_alloc] at this; exact this
        clear x0 x1 kj HO3 hB3 hD
        generalize (w3.alloc (.cells #[.int .i64 f, .int .i64 t] 29)).drewN nq = w4 at *
        go_wp2_with fail
        go_loop [7] (fun p => ∃ k : Nat, p = .int .i64 k ∧ f ≤ k ∧ k ≤ t) (fun p => t - (RowKit.intOf p).toNat)
        case atStart => exact ⟨f, rfl, Nat.le_refl _, hge⟩
        case round =>
          obtain ⟨k, rfl, hk1, hk2⟩ := hrel
          by_cases hkt : k < t
          · have hks : k < s.size := by omega
            have hnb := L.of_nbrk (HN.out k hk1 hkt)
            rw [← at_byte hks] at hnb
            have e1 : ((s[k].toNat : Int) == 10) = false := by simp; omega
            have e2 : ((s[k].toNat : Int) == 13) = false := by simp; omega
            clear hnb
            go_wp2_with fail
            go_round
            case rel => exact ⟨k + 1, by go_num, by omega, by omega⟩
            case measure => simp [RowKit.intOf]; omega
          · obtain rfl : k = t := by omega
            by_cases hlast : j + 1 < L.mny s
            · have hks : k < s.size := by have := L.to_lt hlast; rw [Ht.out] at this; exact this
              have hbr := L.of_brk (L.ce_is HR'.out (show L.ce s (L.fr s j) < s.size by change L.to s j < s.size; rw [Ht.out]; exact hks))
              change (s.get! (L.to s j)).toNat = 10 ∨ (s.get! (L.to s j)).toNat = 13 at hbr
              rw [Ht.out] at hbr
              have hf1 : L.fr s (j + 1) = L.nx s k := by rw [L.fr_succ, Ht.out]
              have kj1 : w4.cell? ⟨g, j + 1, none⟩ = some (.int .i64 (L.fr s (j + 1))) := offs_cell HO4.out hlast
              rw [hf1] at kj1
              clear hf1
              have hnx := L.nx_facts hks
              have hjn : ¬ j + 1 = L.mny s := by omega
              cases hp : L.pair s k
              · have hnp := L.of_npair hp
                have hn1 := L.nx_one hp
                have hl4 := hlt4
                rcases hbr with hbr | hbr
                · have hE : s.extract k (L.nx s k) = ⟨#[10]⟩ := by rw [hn1]; exact ext_one s k 10 hks hbr
                  generalize L.nx s k = F2 at *
                  clear hp hnp hn1 hbr
                  go_wp2_with fail
                  go_quiet (fail)
                  have hD5 := below_drewN (Below.refl w4.heap.size w4) nq
                  have HO5 := Lib.hid (ownsRow_below HO4.out hD5)
                  have hB5 := Lib.hid (below_drewN hB4.out nq)
                  have x0'' := (hD5.cell (p := ⟨w3.heap.size, 0, none⟩) hl4).trans x0'
                  have x1'' := (hD5.cell (p := ⟨w3.heap.size, 1, none⟩) hl4).trans x1'
                  clear x0' x1' kj1 HO4 hB4 hD5
                  generalize w4.drewN nq = w5 at *
                  go_wp2_with fail
                  go_roundw
                  case rel => exact ⟨j + 1, by go_num, by omega, Lib.hid ⟨HO5.out, hB5.out⟩⟩
                  case measure => simp [RowKit.intOf]; omega
                · have hE : s.extract k (L.nx s k) = ⟨#[13]⟩ := by rw [hn1]; exact ext_one s k 13 hks hbr
                  by_cases hk1s : k + 1 < s.size
                  · have hy : ¬ s[k + 1].toNat = 10 := fun h => hnp ⟨hbr, hk1s, by rw [← at_byte hk1s]; exact h⟩
                    have e3 : ((s[k + 1].toNat : Int) == 10) = false := by simp; omega
                    generalize L.nx s k = F2 at *
                    clear hp hnp hn1 hbr hy
                    go_wp2_with fail
                    go_quiet (fail)
                    have hD5 := below_drewN (Below.refl w4.heap.size w4) nq
                    have HO5 := Lib.hid (ownsRow_below HO4.out hD5)
                    have hB5 := Lib.hid (below_drewN hB4.out nq)
                    have x0'' := (hD5.cell (p := ⟨w3.heap.size, 0, none⟩) hl4).trans x0'
                    have x1'' := (hD5.cell (p := ⟨w3.heap.size, 1, none⟩) hl4).trans x1'
                    clear x0' x1' kj1 HO4 hB4 hD5
                    generalize w4.drewN nq = w5 at *
                    go_wp2_with fail
                    go_roundw
                    case rel => exact ⟨j + 1, by go_num, by omega, Lib.hid ⟨HO5.out, hB5.out⟩⟩
                    case measure => simp [RowKit.intOf]; omega
                  · have e3 : ¬ (k : Int) + 1 < (s.size : Int) := by omega
                    generalize L.nx s k = F2 at *
                    clear hp hnp hn1 hbr
                    go_wp2_with fail
                    go_quiet (fail)
                    have hD5 := below_drewN (Below.refl w4.heap.size w4) nq
                    have HO5 := Lib.hid (ownsRow_below HO4.out hD5)
                    have hB5 := Lib.hid (below_drewN hB4.out nq)
                    have x0'' := (hD5.cell (p := ⟨w3.heap.size, 0, none⟩) hl4).trans x0'
                    have x1'' := (hD5.cell (p := ⟨w3.heap.size, 1, none⟩) hl4).trans x1'
                    clear x0' x1' kj1 HO4 hB4 hD5
                    generalize w4.drewN nq = w5 at *
                    go_wp2_with fail
                    go_roundw
                    case rel => exact ⟨j + 1, by go_num, by omega, Lib.hid ⟨HO5.out, hB5.out⟩⟩
                    case measure => simp [RowKit.intOf]; omega
              · obtain ⟨p1, p2, p3⟩ := L.of_pair hp
                have hn1 := L.nx_pair hp
                have hl4 := hlt4
                have hE : s.extract k (L.nx s k) = ⟨#[13, 10]⟩ := by rw [hn1]; exact ext_two s k 13 10 p2 p1 p3
                generalize L.nx s k = F2 at *
                clear hp hn1 hbr p1 p3
                go_wp2_with fail
                go_quiet (fail)
                have hD5 := below_drewN (Below.refl w4.heap.size w4) nq
                have HO5 := Lib.hid (ownsRow_below HO4.out hD5)
                have hB5 := Lib.hid (below_drewN hB4.out nq)
                have x0'' := (hD5.cell (p := ⟨w3.heap.size, 0, none⟩) hl4).trans x0'
                have x1'' := (hD5.cell (p := ⟨w3.heap.size, 1, none⟩) hl4).trans x1'
                clear x0' x1' kj1 HO4 hB4 hD5
                generalize w4.drewN nq = w5 at *
                go_wp2_with fail
                go_roundw
                case rel => exact ⟨j + 1, by go_num, by omega, Lib.hid ⟨HO5.out, hB5.out⟩⟩
                case measure => simp [RowKit.intOf]; omega
            · have hE : s.extract k s.size = ⟨#[]⟩ := by
                have := L.to_end hlt hlast
                rw [Ht.out] at this
                rw [this]; exact ext_none s s.size
              go_wp2_with fail
              exact ⟨⟨L.mny s, rfl, Nat.le_refl _, Lib.hid ⟨HO4.out, hB4.out⟩⟩, by simp [RowKit.intOf]; omega⟩
      · go_wp2_with fail
        go_ret
        exact ⟨rfl, HW.out.2⟩
    · obtain rfl : j = L.mny s := by omega
      go_wp2_with fail
      go_ret
      exact ⟨rfl, HW.out.2⟩

theorem wholeLaw_any (s : ByteArray) (w : World) (hs : s.size ≤ 9223372036854775807) (hT : Tabs w) :
    Calls Tryd.prog 5 #[.string s] w (SaysTrue w) := by
  by_cases h : s.size ≤ 20000
  · exact wholeLaw_short s w h hT
  · exact wholeLaw_long s w hs hT (by omega)
end Go.Proofs.YtdhdemndeiipcaaDoor
