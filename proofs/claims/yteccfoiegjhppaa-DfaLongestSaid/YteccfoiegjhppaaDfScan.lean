/- Scan, the program's own. Conditions: a string of at most 10^15 bytes. -/
import Derived.Test.YteccfoiegjhppaaDfWord
namespace Go.Proofs
open Go Go.RowKit Go.Lib
namespace Yteccfoiegjhppaa
set_option maxHeartbeats 1000000 in
set_option maxRecDepth 100000 in
theorem scan_out (s : ByteArray) (p : Int) (h : p < 0 ∨ (s.size : Int) ≤ p) (hs : s.size ≤ 1000000000000000) (w : World) : Calls Try.prog 5 #[.string s, .int .i64 p] w (TokB false ⟨0, 0, 0⟩ w) := by
  have h0 : TokRow (w.alloc (.cells #[.int .u8 0, .int .i64 0, .int .i64 0] 24)) w.heap.size 0 0 0 := heap_alloc_new w _
  have hb := (Below.refl w.heap.size w).alloc (Nat.le_refl _) (.cells #[.int .u8 0, .int .i64 0, .int .i64 0] 24)
  have H := Lib.hid (And.intro h0 hb)
  clear h0 hb
  rcases h with h | h
  all_goals
    go_enter Try.func5, Try.ntmps5
    go_upto_region 1 with fail
    generalize w.alloc _ = W0 at *
    have r0 := H.out.1
    go_wp2_with (refine wpList_store_row rfl 24 _ _ rfl w.heap.size #[.int .u8 0, .int .i64 0, .int .i64 0] (by rfl) (by rfl) 24 _ r0 info_tok rfl (one_tok _ _ _) ?_)
    exact bodyPost_ret (results_tok Try.results5 _ _ w.heap.size _ _ (by rfl) (r0.set 0 0 0) info_tok) rfl ⟨rfl, below_setRow H.out.2 (Nat.le_refl _) _⟩
set_option maxHeartbeats 4000000 in
set_option maxRecDepth 100000 in
theorem scan_any (s : ByteArray) (p : Nat) (h : p < s.size) (hs : s.size ≤ 1000000000000000) (w : World) : Calls Try.prog 5 #[.string s, .int .i64 p] w (TokB true (D.tok (s.extract p s.size)) w) := by
  have h0 : TokRow (w.alloc (.cells #[.int .u8 0, .int .i64 0, .int .i64 0] 24)) w.heap.size 0 0 0 := heap_alloc_new w _
  have hb := (Below.refl w.heap.size w).alloc (Nat.le_refl _) (.cells #[.int .u8 0, .int .i64 0, .int .i64 0] 24)
  have hz : (w.alloc (.cells #[.int .u8 0, .int .i64 0, .int .i64 0] 24)).heap.size = w.heap.size + 1 := by rw [World.size_alloc]
  have H := Lib.hid (And.intro h0 (And.intro hb hz))
  have hrs : (s.extract p s.size).size = s.size - p := by rw [ByteArray.size_extract]; omega
  have hin := D.run_fits (s.extract p s.size)
  have HR := Lib.hid (fun W => run_any (s.extract p s.size) (by omega) W)
  have HK := Lib.hid (fun W => kind_any (D.run (s.extract p s.size)).1 hin.1 W)
  have HL := Lib.hid (fun W => look_any (s.extract p s.size) (D.run (s.extract p s.size)).1 (D.run (s.extract p s.size)).2 hin.1 ⟨(hin.2.2 (by omega)).2, hin.2.1⟩ (by omega) W)
  have HW := Lib.hid (fun W => word_same ((s.extract p s.size).extract 0 (D.run (s.extract p s.size)).2) W)
  unfold D.tok
  have i1 : (p : Int) < (s.size : Int) := by omega
  have i2 : p ≤ s.size := by omega
  clear h0 hb hz
  generalize D.run (s.extract p s.size) = R at *
  obtain ⟨q, n⟩ := R
  have i0 : ¬ ((p : Int) < 0) := by omega
  dsimp only at HK HL HW hin ⊢
  generalize hkk : (if q = 7 then D.wrd ((s.extract p s.size).extract 0 n) else D.kd q) = kk
  have HKK := Lib.hid hkk
  clear hkk
  have j1 : n ≤ (s.extract p s.size).size := hin.2.1
  have j2 : (s.extract p s.size).size ≤ 1000000000000000 := by omega
  clear hin h
  have HS := Lib.hid (fun (P : ByteArray → Prop) (hp : P (s.extract p s.size)) => hp)
  go_enter Try.func5, Try.ntmps5
  go_upto_region 1 with fail
  generalize w.alloc _ = W0 at *
  go_upto_region 4 with fail
  generalize s.extract p s.size = r at *
  go_wp2_with fail
  refine (HR.out _).mono ?_
  rintro e w1 ⟨rfl, hb1⟩
  go_wp2_with fail
  refine (HK.out _).mono ?_
  rintro e w2 ⟨rfl, hb2⟩
  go_wp2_with fail
  refine (HL.out _).mono ?_
  rintro e w3 ⟨rfl, hb3⟩
  have hb := (hb1.trans (hb2.mono hb1.size)).trans (hb3.mono (Nat.le_trans hb1.size hb2.size))
  have r0 := H.out.1.below hb
  have hbw := H.out.2.1.trans (hb.mono H.out.2.1.size)
  have hsz : w.heap.size + 1 ≤ w3.heap.size := by have := hb.size; have := H.out.2.2; omega
  clear hb1 hb2 hb3 hb H HR HK HL
  generalize D.lk r q n = ll at *
  generalize D.kd q = kq at *
  by_cases h7 : q = 7
  · subst h7
    have hk2 : D.wrd (r.extract 0 n) = kk := by rw [← HKK.out, if_pos rfl]
    have hw2 := fun W => (by have := HW.out W; rw [hk2] at this; exact this : Calls Try.prog 12 #[.string (r.extract 0 n)] W (fun e w' => e = .returned (.int .u8 (kk : Int)) ∧ W = w'))
    clear HKK HW hk2
    go_wp2_with fail
    refine (hw2 _).mono ?_
    rintro e w' ⟨rfl, rfl⟩
    go_upto_region 8 with fail
    generalize hW : w3.alloc _ = W5
    have r5 : TokRow W5 w.heap.size 0 0 0 := by rw [← hW]; exact (Below.heap_alloc w3 _ _ (by omega)).trans r0
    have r6 : TokRow W5 w3.heap.size kk n ll := by rw [← hW]; exact heap_alloc_new w3 _
    have hb5 : Below w.heap.size w W5 := by rw [← hW]; exact hbw.alloc (by omega) _
    clear hW r0 hbw
    go_wp2_with (first
      | (refine wpList_load_row rfl 24 _ rfl w3.heap.size (by rfl) 24 _ (0, 0) _ r6 Try.underlying24 rfl info_tok ?_)
      | (refine wpList_store_row rfl 24 _ _ rfl w.heap.size #[.int .u8 kk, .int .i64 n, .int .i64 ll] (by rfl) (by rfl) 24 _ r5 info_tok rfl (one_tok _ _ _) ?_))
    exact bodyPost_ret (results_tok Try.results5 _ _ w.heap.size _ _ (by rfl) (r5.set kk n ll) info_tok) rfl ⟨rfl, below_setRow hb5 (Nat.le_refl _) _⟩
  · have e7 : ((q : Int) == 7) = false := by simp; omega
    rw [if_neg h7] at HKK
    have hk3 := HKK.out
    subst hk3
    go_upto_region 8 with fail
    generalize hW : w3.alloc _ = W5
    have r5 : TokRow W5 w.heap.size 0 0 0 := by rw [← hW]; exact (Below.heap_alloc w3 _ _ (by omega)).trans r0
    have r6 : TokRow W5 w3.heap.size kq n ll := by rw [← hW]; exact heap_alloc_new w3 _
    have hb5 : Below w.heap.size w W5 := by rw [← hW]; exact hbw.alloc (by omega) _
    clear hW r0 hbw
    go_wp2_with (first
      | (refine wpList_load_row rfl 24 _ rfl w3.heap.size (by rfl) 24 _ (0, 0) _ r6 Try.underlying24 rfl info_tok ?_)
      | (refine wpList_store_row rfl 24 _ _ rfl w.heap.size #[.int .u8 kq, .int .i64 n, .int .i64 ll] (by rfl) (by rfl) 24 _ r5 info_tok rfl (one_tok _ _ _) ?_))
    exact bodyPost_ret (results_tok Try.results5 _ _ w.heap.size _ _ (by rfl) (r5.set kq n ll) info_tok) rfl ⟨rfl, below_setRow hb5 (Nat.le_refl _) _⟩
end Yteccfoiegjhppaa
end Go.Proofs
