/- The program's Next: what each answers, by the scan. Conditions: a string of at most 10^12 bytes; the library's two tables as its text lays them. -/
import Derived.Test.YtagafedkfkmkbaaGreatDoorMO07
import Derived.Laws.Cover4
namespace Go.Proofs.YtagafedkfkmkbaaGreatDoor
open Go Go.RowKit Go.Shelf Go.Lib

theorem tabs_below {w w' : World} (hT : Tabs w) (h : Below w.heap.size w w') : Tabs w' := Utf8Tabs_below hT h

/-! ### Next -/
set_option maxHeartbeats 400000 in
set_option maxRecDepth 100000 in
theorem utfNext_out (s : ByteArray) (i : Int) (w : World) (hs : s.size ≤ 1000000000000) (hi : i < 0 ∨ (s.size : Int) ≤ i) :
    Calls Tryz.prog 284 #[.string s, .int .i64 i] w (NextIs 0 0 false w) := by
  rcases hi with hi | hi
  all_goals
    go_enter Tryz.func284, Tryz.ntmps284
    go_wp2_with fail
    go_ret3
    exact ⟨rfl, Below.refl _ _⟩
set_option maxHeartbeats 400000 in
set_option maxRecDepth 100000 in
theorem utfNext_bad (s : ByteArray) (i : Nat) (w : World) (hi : i < s.size) (_hs : s.size ≤ 1000000000000) (hT : Tabs w) (h : U.bad s i = true) :
    Calls Tryz.prog 284 #[.string s, .int .i64 i] w (NextIs 0 0 false w) := by
  have hc := decode_any s i w hi hT
  obtain ⟨h1, h2⟩ := (U.bad_iff s i).1 h
  rw [h1, h2] at hc
  have i1 : ¬ ((i : Int) < 0) := by omega
  have i2 : (i : Int) < (s.size : Int) := by omega
  clear h h1 h2
  go_enter Tryz.func284, Tryz.ntmps284
  go_wp2_with fail
  refine hc.mono ?_
  rintro e w' ⟨rfl, hb⟩
  go_wp2_with fail
  go_ret3
  exact ⟨rfl, hb⟩
set_option maxHeartbeats 400000 in
set_option maxRecDepth 100000 in
theorem utfNext_good (s : ByteArray) (i : Nat) (w : World) (hi : i < s.size) (_hs : s.size ≤ 1000000000000) (hT : Tabs w) (h : U.bad s i = false) :
    Calls Tryz.prog 284 #[.string s, .int .i64 i] w (NextIs (U.ch s i) (U.wd s i) true w) := by
  have hc := decode_any s i w hi hT
  have hn : ¬ (U.ch s i = 65533 ∧ U.wd s i = 1) := fun hx => by rw [(U.bad_iff s i).2 hx] at h; cases h
  have i1 : ¬ ((i : Int) < 0) := by omega
  have i2 : (i : Int) < (s.size : Int) := by omega
  clear h
  generalize U.ch s i = c at *
  generalize U.wd s i = d at *
  by_cases hq : c = 65533
  · have e1 : ((c : Int) == 65533) = true := by rw [beq_iff_eq]; omega
    have e2 : ((d : Int) == 1) = false := by rw [beq_eq_false_iff_ne]; omega
    clear hn hq
    go_enter Tryz.func284, Tryz.ntmps284
    go_wp2_with fail
    refine hc.mono ?_
    rintro e w' ⟨rfl, hb⟩
    go_wp2_with fail
    go_ret3
    exact ⟨rfl, hb⟩
  · have e1 : ((c : Int) == 65533) = false := by rw [beq_eq_false_iff_ne]; omega
    clear hn hq
    go_enter Tryz.func284, Tryz.ntmps284
    go_wp2_with fail
    refine hc.mono ?_
    rintro e w' ⟨rfl, hb⟩
    go_wp2_with fail
    go_ret3
    exact ⟨rfl, hb⟩
theorem utfNext_any (s : ByteArray) (i : Nat) (w : World) (hi : i < s.size) (hs : s.size ≤ 1000000000000) (hT : Tabs w) :
    Calls Tryz.prog 284 #[.string s, .int .i64 i] w (NextIs (U.nr s i) (U.nk s i) (U.nb s i) w) := by
  cases h : U.bad s i
  · rw [U.nr_good h, U.nk_good h, U.nb_good h]; exact utfNext_good s i w hi hs hT h
  · rw [U.nr_bad h, U.nk_bad h, U.nb_bad h]; exact utfNext_bad s i w hi hs hT h
end Go.Proofs.YtagafedkfkmkbaaGreatDoor

namespace Go.Proofs.YtagafedkfkmkbaaGreatDoor
open Go Go.RowKit Go.Lib

/-- the library's tables lie below -/
def TB (B : Nat) (w : World) : Prop := ∃ w0, Tabs w0 ∧ Below w0.heap.size w0 w ∧ w0.heap.size ≤ B
theorem TB.tabs {B : Nat} {w : World} (h : TB B w) : Tabs w := by obtain ⟨w0, h1, h2, _⟩ := h; exact tabs_below h1 h2
theorem TB.grow {B : Nat} {w w' : World} (h : TB B w) (g : w.grownBy w' (some B)) : TB B w' := by
  obtain ⟨w0, h1, h2, h3⟩ := h
  exact ⟨w0, h1, h2.trans (below_grow g h3 h2.size), h3⟩
theorem TB.below {B : Nat} {w w' : World} (h : TB B w) (hB : Below w.heap.size w w') : TB B w' := h.grow (grow_below hB _)

/-- the character or the unit that stands there, the place behind it, what is wrong -/
def cr (s : ByteArray) (q : Nat) : Nat × Nat × Nat :=
  if J.is s q 0 92 = true then J.es s (q + 1)
  else if q < s.size ∧ U.bad s q = false ∧ 32 ≤ U.ch s q then (U.ch s q, q + U.wd s q, 0) else (0, q, 30)
theorem out_died {v : Value} {s : ByteArray} {x : Nat × Nat} {d B : Nat} {w : World} {en : Ending} {w' : World} (h0 : ¬ x.2 = 0) (h : Died x.2 s x.1 B w en w') : Out v s x d B w en w' := by unfold Out; rw [if_neg h0]; exact h
/-- a number comes of reading, or an error -/
def OutN (s : ByteArray) (x : Nat × Nat × Nat) (d B : Nat) (w : World) (en : Ending) (w' : World) : Prop := Out (.int .i32 (x.1 : Nat)) s x.2 d B w en w'
theorem cr_le {s : ByteArray} {q : Nat} (h : q ≤ s.size) : q ≤ (cr s q).2.1 ∧ (cr s q).2.1 ≤ s.size := by
  unfold cr
  split
  · rename_i hi
    have h1 := (J.of_is hi).2.1
    have := J.es_le (s := s) (p := q + 1) h1
    omega
  · split
    · rename_i h1
      have := U.facts s q h1.1
      simp only []; omega
    · exact ⟨Nat.le_refl _, h⟩
theorem es_go {s : ByteArray} {p : Nat} (h : (J.es s p).2.2 = 0) : p < (J.es s p).2.1 := by
  unfold J.es at *
  split
  · exact Nat.lt_succ_self _
  · split
    · rename_i hi
      have h1 := (J.of_is hi).2.1
      have := (J.hxF_le (s := s) 4 (p + 1) 0 h1).1
      omega
    · rename_i h0 hi
      rw [h0] at h
      simp only [if_neg hi] at h
      cases h
theorem cr_go {s : ByteArray} {q : Nat} (h : (cr s q).2.2 = 0) : q < (cr s q).2.1 := by
  unfold cr at *
  split at h
  · rename_i hi
    rw [if_pos hi]
    have := es_go h
    omega
  · rename_i hi
    rw [if_neg hi]
    split at h
    · rename_i h1
      rw [if_pos h1]
      have := U.facts s q h1.1
      simp only []; omega
    · cases h
theorem cr_lt (s : ByteArray) (q : Nat) : (cr s q).1 < 2097152 := by
  unfold cr
  split
  · exact Nat.lt_of_lt_of_le J.es_num (by decide)
  · split
    · rename_i h1
      have := U.facts s q h1.1
      simp only []; omega
    · exact (by decide : (0 : Nat) < 2097152)
theorem am92 (c : Nat) : J.am ⟨#[92]⟩ c = decide (c = 92) := J.am_one 92 c (by decide)

set_option maxRecDepth 100000 in
set_option maxHeartbeats 1000000 in
theorem character_any (s : ByteArray) (q d B : Nat) (w : World) (hs : s.size ≤ 1000000000000) (hq : q ≤ s.size) (hT : Hid (TB B w)) (h : Rd s q d B w) :
    Calls Tryz.prog 272 #[.pointer (some ⟨B, 0, none⟩)] w (OutN s (cr s q) d B w) := by
  have hsk := J.sk_is (s := s) q (by decide) am92
  cases hb : J.is s q 0 92
  · have hk := skip_no s ⟨#[92]⟩ q d B w hs hq h (by rw [hsk, hb])
    by_cases hg : q < s.size ∧ U.bad s q = false
    · have hn := fun W hW => utfNext_good s q W hg.1 hs hW hg.2
      have hf := U.facts s q hg.1
      by_cases h32 : 32 ≤ U.ch s q
      · have HC := Lib.hid (show cr s q = (U.ch s q, q + U.wd s q, 0) by unfold cr; rw [if_neg (by rw [hb]; decide), if_pos ⟨hg.1, hg.2, h32⟩])
        have hlt := hg.1
        clear hsk hb hg
        generalize U.ch s q = c at *
        generalize U.wd s q = k at *
        go_enter Tryz.func272, Tryz.ntmps272
        go_wp2_with fail
        refine hk.mono ?_
        rintro en w1 ⟨rfl, h1, g1⟩
        have c0 := h1.c0
        have c1 := h1.c1
        have f1 := h1.f1
        have KEEP := Lib.hid (show ∀ w', Below w1.heap.size w1 w' → w'.cell? ⟨B, 0, none⟩ = some (.string s) ∧ w'.cell? ⟨B, 1, none⟩ = some (.int .i64 q) ∧ Tabs w' from fun w' hB => ⟨bcellv hB c0, bcellv hB c1, ((hT.out.grow g1).below hB).tabs⟩)
        go_wp2_with fail
        go_region_held3 (fun w' => w'.cell? ⟨B, 0, none⟩ = some (.string s) ∧ w'.cell? ⟨B, 1, none⟩ = some (.int .i64 q) ∧ Tabs w')
          (first | exact KEEP.out _ hB2.out | exact KEEP.out _ (Below.refl _ _).drew | exact KEEP.out _ (Below.refl _ _))
          (first | (go_at_call 284; (with_reducible refine (hn _ (KEEP.out _ (Below.refl _ _).drew).2.2).mono ?_); rintro e w8 ⟨rfl, hB1⟩; have hB2 := Lib.hid ((Below.refl w1.heap.size w1).drew.trans hB1); clear hB1))
        have h8 := h1.below hB2.out
        have f8 := h8.f1
        have HF := Lib.hid (h8.set1 (q + k))
        rw [Int.natCast_add] at HF
        have HG := Lib.hid (grow_trans g1 (grow_below hB2.out (some B)))
        clear h8
        go_wp2_with fail
        go_ret
        unfold OutN
        rw [HC.out]
        exact out_ok ⟨rfl, HF.out, grow_trans HG.out (grow_set _ _ _ _)⟩
      · have HC := Lib.hid (show cr s q = (0, q, 30) by unfold cr; rw [if_neg (by rw [hb]; decide), if_neg (fun e => h32 e.2.2)])
        have hlt := hg.1
        clear hsk hb hg
        generalize U.ch s q = c at *
        generalize U.wd s q = k at *
        go_enter Tryz.func272, Tryz.ntmps272
        go_wp2_with fail
        refine hk.mono ?_
        rintro en w1 ⟨rfl, h1, g1⟩
        have c0 := h1.c0
        have c1 := h1.c1
        have f1 := h1.f1
        have KEEP := Lib.hid (show ∀ w', Below w1.heap.size w1 w' → w'.cell? ⟨B, 0, none⟩ = some (.string s) ∧ w'.cell? ⟨B, 1, none⟩ = some (.int .i64 q) ∧ Tabs w' from fun w' hB => ⟨bcellv hB c0, bcellv hB c1, ((hT.out.grow g1).below hB).tabs⟩)
        go_wp2_with fail
        go_region_held3 (fun w' => w'.cell? ⟨B, 0, none⟩ = some (.string s) ∧ w'.cell? ⟨B, 1, none⟩ = some (.int .i64 q) ∧ Tabs w')
          (first | exact KEEP.out _ hB2.out | exact KEEP.out _ (Below.refl _ _).drew | exact KEEP.out _ (Below.refl _ _))
          (first | (go_at_call 284; (with_reducible refine (hn _ (KEEP.out _ (Below.refl _ _).drew).2.2).mono ?_); rintro e w8 ⟨rfl, hB1⟩; have hB2 := Lib.hid ((Below.refl w1.heap.size w1).drew.trans hB1); clear hB1))
        have h8 := h1.below hB2.out
        have HG := Lib.hid (grow_trans g1 (grow_below hB2.out (some B)))
        go_wp2_with fail
        unfold OutN
        rw [HC.out]
        exact ⟨rfl, out_no ⟨rfl, ⟨_, h8⟩, HG.out⟩⟩
    · have HC := Lib.hid (show cr s q = (0, q, 30) by unfold cr; rw [if_neg (by rw [hb]; decide), if_neg (fun e => hg ⟨e.1, e.2.1⟩)])
      have hn : ∀ W, Tabs W → Calls Tryz.prog 284 #[.string s, .int .i64 q] W (NextIs 0 0 false W) := by
        intro W hW
        by_cases hlt : q < s.size
        · refine utfNext_bad s q W hlt hs hW ?_
          cases hx : U.bad s q
          · exact absurd ⟨hlt, hx⟩ hg
          · rfl
        · exact utfNext_out s q W hs (Or.inr (by omega))
      clear hsk hb hg
      go_enter Tryz.func272, Tryz.ntmps272
      go_wp2_with fail
      refine hk.mono ?_
      rintro en w1 ⟨rfl, h1, g1⟩
      have c0 := h1.c0
      have c1 := h1.c1
      have f1 := h1.f1
      have KEEP := Lib.hid (show ∀ w', Below w1.heap.size w1 w' → w'.cell? ⟨B, 0, none⟩ = some (.string s) ∧ w'.cell? ⟨B, 1, none⟩ = some (.int .i64 q) ∧ Tabs w' from fun w' hB => ⟨bcellv hB c0, bcellv hB c1, ((hT.out.grow g1).below hB).tabs⟩)
      go_wp2_with fail
      go_region_held3 (fun w' => w'.cell? ⟨B, 0, none⟩ = some (.string s) ∧ w'.cell? ⟨B, 1, none⟩ = some (.int .i64 q) ∧ Tabs w')
        (first | exact KEEP.out _ hB2.out | exact KEEP.out _ (Below.refl _ _).drew | exact KEEP.out _ (Below.refl _ _))
        (first | (go_at_call 284; (with_reducible refine (hn _ (KEEP.out _ (Below.refl _ _).drew).2.2).mono ?_); rintro e w8 ⟨rfl, hB1⟩; have hB2 := Lib.hid ((Below.refl w1.heap.size w1).drew.trans hB1); clear hB1))
      have h8 := h1.below hB2.out
      have HG := Lib.hid (grow_trans g1 (grow_below hB2.out (some B)))
      go_wp2_with fail
      unfold OutN
      rw [HC.out]
      exact ⟨rfl, out_no ⟨rfl, ⟨_, h8⟩, HG.out⟩⟩
  · have hk := skip_yes s ⟨#[92]⟩ q d B w hs hq h (by rw [hsk, hb])
    have hlt := (J.of_is hb).2.1
    have hes := fun W hW => escape_any s (q + 1) d B W hs hlt hW
    rw [show cr s q = J.es s (q + 1) by unfold cr; rw [if_pos hb]]
    unfold OutN
    clear hsk hb
    generalize J.es s (q + 1) = x at *
    obtain ⟨n, p2, e⟩ := x
    go_enter Tryz.func272, Tryz.ntmps272
    go_wp2_with fail
    refine hk.mono ?_
    rintro en w1 ⟨rfl, h1, g1⟩
    have hes := hes w1 h1
    have HG := Lib.hid g1
    clear h1 g1
    go_wp2_with fail
    refine hes.mono ?_
    rintro en w2 ho
    unfold Out at ho
    split at ho
    · rename_i h0
      obtain ⟨rfl, h2, g2⟩ := ho
      obtain rfl : e = 0 := h0
      have HF := Lib.hid (And.intro h2 (grow_trans HG.out g2))
      clear h2 g2
      go_wp2_with fail
      go_ret
      exact out_ok ⟨rfl, HF.out⟩
    · rename_i h0
      obtain ⟨rfl, h2, g2⟩ := ho
      exact ⟨rfl, out_died h0 ⟨rfl, h2, grow_trans HG.out g2⟩⟩
end Go.Proofs.YtagafedkfkmkbaaGreatDoor

namespace Go.Proofs.YtagafedkfkmkbaaGreatDoor
open Go Go.RowKit Go.Lib

def enc (L : List Nat) : ByteArray := runesBytes (L.map fun (c : Nat) => (c : Int))
/-- a string's runes, behind its first sign: they, the place behind, what is wrong -/
def ptx (s : ByteArray) : Nat → Nat → List Nat → List Nat × Nat × Nat
  | 0, q, _ => ([], q, 30)
  | f + 1, q, L => if J.is s q 0 34 = true then (L, q + 1, 0) else if (cr s q).2.2 = 0 then ptx s f (cr s q).2.1 (joi L (cr s q).1) else ([], (cr s q).2)
def ptw (s : ByteArray) (p : Nat) : List Nat × Nat × Nat := if J.is s p 0 34 = true then ptx s (s.size - p) (p + 1) [] else ([], p, 30)
theorem am34 (c : Nat) : J.am ⟨#[34]⟩ c = decide (c = 34) := J.am_one 34 c (by decide)
theorem joi_len (L : List Nat) (c : Nat) : (joi L c).length ≤ L.length + 1 := by
  rcases List.eq_nil_or_concat L with rfl | ⟨l, a, rfl⟩
  · simp [joi_nil]
  · rw [List.concat_eq_append]
    by_cases h : hig a ∧ low c
    · rw [joi_yes h]; simp
    · rw [joi_no h]; simp
theorem joi_lt {L : List Nat} {c : Nat} (hL : ∀ a ∈ L, a < 2097152) (hc : c < 2097152) : ∀ a ∈ joi L c, a < 2097152 := by
  rcases List.eq_nil_or_concat L with rfl | ⟨l, a, rfl⟩
  · rw [joi_nil]; intro a ha; rw [List.mem_singleton.1 ha]; exact hc
  · rw [List.concat_eq_append] at *
    by_cases h : hig a ∧ low c
    · rw [joi_yes h]
      intro b hb
      rcases List.mem_append.1 hb with hb | hb
      · exact hL b (List.mem_append_left _ hb)
      · rw [List.mem_singleton.1 hb]
        unfold hig low at h
        omega
    · rw [joi_no h]
      intro b hb
      rcases List.mem_append.1 hb with hb | hb
      · exact hL b hb
      · rw [List.mem_singleton.1 hb]; exact hc
theorem Runes.keep {base B : Nat} {L : List Nat} {v : Value} {w w' : World} (h : Runes base L v w) (hB : B < base) (g : w.grownBy w' (some B)) : Runes base L v w' := by
  obtain ⟨h1, h2⟩ := h
  refine ⟨h1, ?_⟩
  rcases h2 with h2 | ⟨k, cap, cur, h3, hb, hg, h4⟩
  · exact .inl h2
  · exact .inr ⟨k, cap, cur, h3, hb, (g.block k (Array.getElem?_eq_some_iff.1 hg).1 (fun e => by cases e; omega)).trans hg, h4⟩
theorem Runes.above {base b : Nat} {L : List Nat} {v : Value} {w : World} (h : Runes base L v w) (hv : v.ownBlock = some b) : base ≤ b := by
  obtain ⟨h1, ⟨rfl, _⟩ | ⟨k, cap, cur, rfl, hb, hg, h4⟩⟩ := h
  · cases hv
  · cases hv; exact hb
theorem grow_own {w w1 w2 : World} {B : Nat} {v : Value} (g : w.grownBy w1 (some B)) (h : w1.grownBy w2 v.ownBlock) (hv : ∀ b, v.ownBlock = some b → w.heap.size ≤ b) : w.grownBy w2 (some B) :=
  ⟨h.os.trans g.os, h.tape.trans g.tape, h.output.trans g.output, Nat.le_trans g.size h.size, fun k hk hne => (h.block k (Nat.lt_of_lt_of_le hk g.size) (fun e => by have := hv k e.symm; omega)).trans (g.block k hk hne)⟩
theorem Rd.own {s : ByteArray} {p d B : Nat} {w w' : World} {v : Value} (h : Rd s p d B w) (g : w.grownBy w' v.ownBlock) (hv : ∀ b, v.ownBlock = some b → B < b) : Rd s p d B w' :=
  h.same (g.block B h.lt (fun e => by have := hv B e.symm; omega))
theorem convRunes {base : Nat} {L : List Nat} {v : Value} {w : World} (h : Runes base L v w) : (convert 315 9 v).run Tryz.prog w = .ok (.string (enc L)) w := by
  obtain ⟨h1, ⟨rfl, h2⟩ | ⟨k, cap, cur, rfl, hb, hg, h3, h4, h5, h6⟩⟩ := h
  · obtain rfl : L = [] := List.length_eq_zero_iff.1 h2
    exact run_convert_runes_nil w _ _ 21 _ _ (by kernel_rfl) (by kernel_rfl) (by kernel_rfl)
  · have := run_convert_runes (P := Tryz.prog) w 315 9 21 ⟨k, 0, none⟩ L.length cap (L.map fun (c : Nat) => (c : Int)) (by simp) (by kernel_rfl) (by kernel_rfl) (by kernel_rfl) (fun j hj => by
      rw [List.length_map] at hj
      have e : w.cell? ⟨k, j, none⟩ = cur[j]? := cell_of_row w k j cur _ (0, 0) hg
      have e2 := congrArg (fun x => x[j]?) h6
      rw [List.getElem?_take_of_lt (by omega)] at e2
      show w.cell? ((⟨k, 0, none⟩ : Addr).add j) = _
      have e3 : (⟨k, 0, none⟩ : Addr).add j = ⟨k, j, none⟩ := by cases j <;> simp [Addr.add]
      rw [e3, e, ← Array.getElem?_toList, e2]
      simp [ru, List.getD, hj])
    rw [List.take_of_length_le (by simp)] at this
    exact this

/-- where the loop stands -/
def TxAt (s : ByteArray) (p d B : Nat) (w : World) (v : Value) (wr : World) : Prop :=
  ∃ (L : List Nat) (q f : Nat), q ≤ s.size ∧ Rd s q d B wr ∧ w.grownBy wr (some B) ∧ Runes w.heap.size L v wr ∧ L.length ≤ q ∧ (∀ a ∈ L, a < 2097152) ∧ s.size + 1 ≤ q + f ∧ ptw s p = ptx s f q L

set_option maxRecDepth 100000 in
set_option maxHeartbeats 1000000 in
theorem text_any (s : ByteArray) (p d B : Nat) (w : World) (hs : s.size ≤ 100000000000) (hp : p ≤ s.size) (hT : Hid (TB B w)) (h : Rd s p d B w) :
    Calls Tryz.prog 257 #[.pointer (some ⟨B, 0, none⟩)] w (Out (.string (enc (ptw s p).1)) s (ptw s p).2 d B w) := by
  have hs2 : s.size ≤ 1000000000000 := by omega
  have hB := h.lt
  have hsk := fun q => J.sk_is (s := s) q (by decide) am34
  cases hb : J.is s p 0 34
  · have hk := take_no s ⟨#[34]⟩ p d B w hs2 hp h (by rw [hsk, hb])
    rw [show ptw s p = ([], p, 30) by unfold ptw; rw [if_neg (by rw [hb]; decide)]]
    clear hsk hb
    go_enter Tryz.func257, Tryz.ntmps257
    go_wp2_with fail
    refine hk.mono ?_
    rintro en w1 ⟨rfl, h1, g1⟩
    exact ⟨rfl, out_no ⟨rfl, h1, g1⟩⟩
  · have hk := take_yes s ⟨#[34]⟩ p d B w hs2 hp h (by rw [hsk, hb])
    have hlt := (J.of_is hb).2.1
    have H0 := Lib.hid (show ptw s p = ptx s (s.size - p) (p + 1) [] by unfold ptw; rw [if_pos hb])
    clear hb
    generalize J.pk s p = c at *
    go_enter Tryz.func257, Tryz.ntmps257
    go_wp2_with fail
    refine hk.mono ?_
    rintro en w1 ⟨rfl, h1, g1⟩
    have HA := Lib.hid (show TxAt s p d B w (.slice none 0 0) w1 from ⟨[], p + 1, s.size - p, hlt, h1, g1, World.ownsRow_nil _ _ _ _, Nat.zero_le _, (fun a ha => absurd ha (List.not_mem_nil)), by omega, H0.out⟩)
    clear h1 g1 H0
    go_wp2_with fail
    go_loopw [3] (fun v wr => Hid (TxAt s p d B w v wr)) (fun _ wr => s.size - stand B wr)
    case atStart => exact HA
    case round =>
      obtain ⟨L, q, f, hq, h1, g1, r1, l1, b1, f1, e1⟩ := hrel.out
      obtain ⟨f, rfl⟩ : ∃ f', f = f' + 1 := ⟨f - 1, by omega⟩
      cases hb : J.is s q 0 34
      · have hk := skip_no s ⟨#[34]⟩ q d B wr hs2 hq h1 (by rw [hsk, hb])
        have hcl := cr_lt s q
        have hcg := cr_go (s := s) (q := q)
        have hcle := cr_le hq
        have hstep : ptx s (f + 1) q L = if (cr s q).2.2 = 0 then ptx s f (cr s q).2.1 (joi L (cr s q).1) else ([], (cr s q).2) := by
          show (if _ then _ else _) = _
          rw [if_neg (by rw [hb]; decide)]
        clear hb hsk
        have hch := fun W hT hW => character_any s q d B W hs2 hq hT hW
        generalize cr s q = x at *
        obtain ⟨n, q2, e⟩ := x
        have HL := Lib.hid (And.intro e1 (And.intro hstep (And.intro hcg (And.intro hcle f1))))
        have HT := Lib.hid (hT.out.grow g1)
        have HQ := Lib.hid (stand_eq h1)
        clear hstep hcg hcle e1 f1
        go_wp2_with fail
        refine hk.mono ?_
        rintro en w2 ⟨rfl, h2, g2⟩
        have hch := hch w2 (Lib.hid (HT.out.grow g2)) h2
        have r2 := r1.keep hB g2
        have HG := Lib.hid (grow_trans g1 g2)
        clear h2 g2 h1 g1 r1
        go_wp2_with fail
        refine hch.mono ?_
        rintro en w3 ho
        unfold OutN Out at ho
        split at ho
        · rename_i h0
          obtain ⟨rfl, h3, g3⟩ := ho
          obtain rfl : e = 0 := h0
          have r3 := r2.keep hB g3
          have hj := join_any w.heap.size n L u3 w3 (Nat.le_trans HG.out.size g3.size) (Lib.hid (by omega)) hcl b1 r3
          have HF := Lib.hid (And.intro h3 (And.intro (grow_trans HG.out g3) r3))
          clear h3 g3 r3 r2
          go_wp2_with fail
          refine hj.mono ?_
          rintro en w4 ⟨v4, rfl, r4, g4⟩
          have HN := Lib.hid (show TxAt s p d B w v4 w4 from by
            obtain ⟨e1, hstep, hcg, hcle, f1⟩ := HL.out
            have hcg := hcg trivial
            have hjl := joi_len L n
            exact ⟨joi L n, q2, f, hcle.2, HF.out.1.own g4 (fun b hb => Nat.lt_of_lt_of_le hB (HF.out.2.2.above hb)), grow_own HF.out.2.1 g4 (fun b hb => HF.out.2.2.above hb), r4, by omega, joi_lt b1 hcl, by omega, e1.trans (hstep.trans (if_pos trivial))⟩)
          have HM := Lib.hid (show s.size - stand B w4 < s.size - stand B wr from by
            rw [HQ.out, stand_eq (HF.out.1.own g4 (fun b hb => Nat.lt_of_lt_of_le hB (HF.out.2.2.above hb)))]
            have hcg := HL.out.2.2.1 trivial
            have hcle := HL.out.2.2.2.1
            omega)
          clear r4 g4 hj
          go_wp2_with fail
          go_roundw
          case rel => exact HN
          case measure => exact HM.out
        · rename_i h0
          obtain ⟨rfl, h3, g3⟩ := ho
          have HF := Lib.hid (And.intro h3 (grow_trans HG.out g3))
          clear h3 g3 r2
          go_wp2_with fail
          have e2 := HL.out.1.trans (HL.out.2.1.trans (if_neg h0))
          rw [e2]
          exact ⟨rfl, out_died h0 ⟨rfl, HF.out⟩⟩
      · have hk := skip_yes s ⟨#[34]⟩ q d B wr hs2 hq h1 (by rw [hsk, hb])
        have HE := Lib.hid (show ptw s p = (L, q + 1, 0) from e1.trans (by show (if _ then _ else _) = _; rw [if_pos hb]))
        clear hb hsk e1
        go_wp2_with fail
        refine hk.mono ?_
        rintro en w2 ⟨rfl, h2, g2⟩
        have hcv := convRunes (r1.keep hB g2)
        have HF := Lib.hid (And.intro h2 (grow_trans g1 g2))
        clear h2 g2 g1 h1 r1
        go_wp2_with fail
        go_ret
        rw [HE.out]
        exact out_ok ⟨rfl, HF.out⟩
end Go.Proofs.YtagafedkfkmkbaaGreatDoor
