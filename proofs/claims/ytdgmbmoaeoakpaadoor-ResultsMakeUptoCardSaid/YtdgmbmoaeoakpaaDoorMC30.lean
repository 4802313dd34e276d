/- A list of numbers, the document's way. Conditions: at most 10^6 numbers. -/
import Derived.Test.YtdgmbmoaeoakpaaDoorMC23
import Derived.Test.YtdgmbmoaeoakpaaDoorMC26
import Derived.Test.YtdgmbmoaeoakpaaDoorMC25
namespace Go.Proofs.YtdgmbmoaeoakpaaDoor
open Go Go.RowKit Go.Lib

def I6 (n : Int) : Prop := -9223372036854775808 ≤ n ∧ n ≤ 9223372036854775807
def ncells : List Int → List Value
  | [] => []
  | s :: r => .int .u8 3 :: .string ⟨(Lib.itoa s).toArray⟩ :: .slice none 0 0 :: .slice none 0 0 :: ncells r
theorem ncells_len (l : List Int) : (ncells l).length = l.length * 4 := by
  induction l with
  | nil => rfl
  | cons s r ih => simp [ncells, ih]; omega
theorem ncells_app (a b : List Int) : ncells (a ++ b) = ncells a ++ ncells b := by
  induction a with
  | nil => rfl
  | cons s r ih => simp [ncells, ih]
theorem num_hr {w : World} {A : Nat → Prop} {b : Nat} (hA : A b) : ∀ (l : List Int) (o : Nat), (∀ s ∈ l, I6 s) → (∀ j u, (ncells l)[j]? = some u → w.cell? ⟨b, o + j, none⟩ = some u) → HR w A 0 b o (nmT l)
  | [], _, _, _ => trivial
  | s :: r, o, hz, h => by
    refine ⟨hA, fun _ => rfl, (fun e => by cases e), h 0 _ rfl, h 1 _ rfl, ⟨_, h 2 _ rfl, .inl ⟨rfl, rfl⟩⟩, ⟨_, h 3 _ rfl, .inl ⟨rfl, rfl⟩⟩, num_fit s (Nat.zero_le _) (hz s (List.mem_cons_self ..)), ?_⟩
    exact num_hr hA r (o + 4) (fun s hs => hz s (List.mem_cons_of_mem _ hs)) (fun j u hu => by
      have := h (j + 4) u hu
      rw [show o + (j + 4) = o + 4 + j by omega] at this
      exact this)
theorem num_hs {w : World} {base : Nat} {v : Value} {l : List Int} (h : w.ownsRow base 25 4 v l.length (ncells l)) (hz : ∀ s ∈ l, I6 s) (hn : l.length ≤ 1000000) : HS w (Fre base w) 0 v (nmT l) := by
  rcases h.2 with ⟨e, h3⟩ | ⟨g, cap, cur, e, h3, h4, h5, h6, h7, h8⟩
  · obtain rfl : l = [] := by
      cases l with
      | nil => rfl
      | cons x r => cases h3
    rw [e]
    exact HS.nil _ _ _
  · subst e
    refine .inr (.inr ⟨g, 0, cap, by rw [nmT_len], by rw [nmT_len]; exact h5, ⟨h6, by rw [nmT_len]; omega⟩, num_hr ⟨h3, fun j => h.frozenAt j⟩ l 0 hz (fun j u hu => ?_)⟩)
    have hj := (List.getElem?_eq_some_iff.1 hu).1
    rw [ncells_len] at hj
    rw [Nat.zero_add, h.cellAt j hj]
    exact hu
def FNx (w : World) (b o na c : Nat) (v : Value) (i : Nat) (s : Int) : Nat → Value → World → Prop
  | 0, y, _ => y = .pointer (some ⟨w.heap.size + 1, 2, none⟩)
  | 1, y, _ => y = v
  | 2, y, _ => y = .slice (some ⟨b, o, none⟩) na c
  | 3, y, _ => y = .int .i64 i
  | 4, y, _ => y = .pointer (some ⟨b, o + i, none⟩)
  | 5, y, _ => y = .int .i64 s
  | 6, y, _ => y = .agg #[.int .u8 3, .string ⟨(Lib.itoa s).toArray⟩, .slice none 0 0, .slice none 0 0]
  | 7, y, W => ∃ b', y = .slice (some ⟨b', 0, none⟩) 1 1 ∧ ∀ j z, (ncells [s])[j]? = some z → W.cell? ((⟨b', 0, none⟩ : Addr).add j) = some z
  | _, _, _ => True
set_option maxHeartbeats 4000000 in
set_option maxRecDepth 100000 in
theorem numsR_some (b o c : Nat) (l : List Int) (w : World) (hc : l.length ≤ c ∧ c ≤ 9223372036854775807) (hn : l.length ≤ 1000000) (hb : b < w.heap.size) (hS : ∀ (j : Nat) (n : Int), l[j]? = some n → w.cell? ⟨b, o + j, none⟩ = some (.int .i64 n)) (hz : ∀ s ∈ l, I6 s) :
    Calls Tryd.prog 56 #[.slice (some ⟨b, o, none⟩) l.length c] w (RetV w.heap.size 5 ⟨#[]⟩ (nmT l) .nil w) := by
  obtain ⟨i0, hi0, hz0, hz1, hz2⟩ := info_parts infoValue
  have HTx := Lib.hid (fun W (s : Int) (hs : I6 s) => refNumber_any s hs.1 hs.2 W)
  have HEl := Lib.hid (fun i (hi : i < l.length) => (show ∃ s : Int, I6 s ∧ (∀ W, Below w.heap.size w W → W.cell? ⟨b, o + i, none⟩ = some (.int .i64 s)) ∧ ncells (l.take (i + 1)) = ncells (l.take i) ++ ncells [s] from
    ⟨l[i], hz l[i] (List.getElem_mem hi), fun W hB => (hB.cell (p := ⟨b, o + i, none⟩) hb).trans (hS i _ (List.getElem?_eq_getElem hi)), by rw [List.take_succ_eq_append_getElem hi, ncells_app]⟩))
  have HFin := Lib.hid (fun (W : World) (v : Value) (h : W.ownsRow (w.heap.size + 2) 25 4 v l.length (ncells (l.take l.length))) => num_hs (by rw [List.take_length] at h; exact h) hz hn)
  generalize en : l.length = na at *
  clear hS hz en
  have h2n := two_new w (.cells #[.int .u8 0, .string ⟨#[]⟩, .slice none 0 0, .slice none 0 0] 25) (.cells #[.int .u8 5, .string ⟨#[]⟩, .slice none 0 0, .slice none 0 0] 25)
  have h2b := two_below w (.cells #[.int .u8 0, .string ⟨#[]⟩, .slice none 0 0, .slice none 0 0] 25) (.cells #[.int .u8 5, .string ⟨#[]⟩, .slice none 0 0, .slice none 0 0] 25)
  have h2s := two_size w (.cells #[.int .u8 0, .string ⟨#[]⟩, .slice none 0 0, .slice none 0 0] 25) (.cells #[.int .u8 5, .string ⟨#[]⟩, .slice none 0 0, .slice none 0 0] 25)
  have HG0 := Lib.hid (show TxG w (.slice none 0 0) (ncells (l.take 0)) 0 ((w.alloc (.cells #[.int .u8 0, .string ⟨#[]⟩, .slice none 0 0, .slice none 0 0] 25)).alloc (.cells #[.int .u8 5, .string ⟨#[]⟩, .slice none 0 0, .slice none 0 0] 25)) from
    ⟨h2b, by rw [h2s]; omega, h2n.1, h2n.2, by rw [List.take_zero]; exact World.ownsRow_nil _ _ _ _⟩)
  clear h2n h2b h2s
  go_enter Tryd.func56, Tryd.ntmps56
  go_upto_region 2 with fail
  generalize (w.alloc (.cells #[.int .u8 0, .string ⟨#[]⟩, .slice none 0 0, .slice none 0 0] 25)).alloc (.cells #[.int .u8 5, .string ⟨#[]⟩, .slice none 0 0, .slice none 0 0] 25) = W0 at *
  go_wp2_with fail
  go_loopw [4] (fun p wr => ∃ (i : Nat) (v : Value), p = .int .i64 i ∧ i ≤ na ∧ Hid (TxG w v (ncells (l.take i)) i wr)) (fun p _ => na - (RowKit.intOf p).toNat)
  case atStart => exact ⟨0, _, rfl, Nat.zero_le _, HG0⟩
  case round =>
    obtain ⟨i, v, rfl, hi, HR⟩ := hrel
    by_cases hlt : i < na
    · obtain ⟨s, z1, es, ht⟩ := HEl.out i hlt
      have HEs := Lib.hid es
      have Z1 := Lib.hid z1
      have HT := Lib.hid ht
      have HL := Lib.hid (And.intro hlt hn)
      generalize ncells (l.take i) = xs at *
      clear es z1 ht
      go_upto_region 5 with fail
      have HGd := HR.out.on (Below.refl wr.heap.size wr).drew
      refine wp_region_stepsZ [8, 9, 10] [some 12, some 13, some 14, some 15, some 16, some 17, some 18, some 19, some 20, some 21, none] _ _ (G := TxG w v xs i) (F := FNx w b o na c v i s) (by kernel_rfl) rfl (by decide +kernel) rfl (by decide +kernel) (by decide +kernel) ⟨8, by decide, by decide⟩ (by decide +kernel) (fun W W' h hB => h.on hB) ?_ ?_ ?_ HGd
      · intro i' y W W' h hB
        unfold FNx at h ⊢
        split at h
        · exact h
        · exact h
        · exact h
        · exact h
        · exact h
        · exact h
        · exact h
        · obtain ⟨b, h1, h3⟩ := h
          exact ⟨b, h1, fun j z hz => bcellv hB (h3 j z hz)⟩
        · trivial
      · intro i' o ho hz a W hg hd hold K' hK
        have HG := Lib.hid hg
        have hlt' : i' < 11 := (Array.getElem?_eq_some_iff.1 ho).1
        clear hg HGd
        obtain rfl | rfl | rfl | rfl | rfl | rfl | rfl | rfl | rfl | rfl | rfl : i' = 0 ∨ i' = 1 ∨ i' = 2 ∨ i' = 3 ∨ i' = 4 ∨ i' = 5 ∨ i' = 6 ∨ i' = 7 ∨ i' = 8 ∨ i' = 9 ∨ i' = 10 := by omega
        · obtain rfl := Option.some.inj ho
          have o3 : a.tmps[3]? = _ := (hold 3 rfl).trans rfl
          clear hd hold
          go_simp
          exact hK.out _ _ (by rfl) (Below.refl _ _)
        · obtain rfl := Option.some.inj ho
          obtain ⟨y0, e0, h0⟩ := hd 0 12 rfl (by decide +kernel) (by decide)
          have h0 : y0 = _ := h0
          subst h0
          obtain ⟨s0, s1, s2, s3⟩ := HG.out.b1.box
          clear hd hold
          go_simp
          exact hK.out _ _ (by rfl) (Below.refl _ _)
        · obtain rfl := Option.some.inj ho
          have o0 : a.tmps[0]? = _ := (hold 0 rfl).trans rfl
          clear hd hold
          go_simp
          exact hK.out _ _ (by rfl) (Below.refl _ _)
        · obtain rfl := Option.some.inj ho
          have o4 : a.tmps[4]? = _ := (hold 4 rfl).trans rfl
          clear hd hold
          go_simp
          exact hK.out _ _ (by rfl) (Below.refl _ _)
        · obtain rfl := Option.some.inj ho
          obtain ⟨y2, e2, h2⟩ := hd 2 14 rfl (by decide +kernel) (by decide)
          have h2 : y2 = _ := h2
          subst h2
          obtain ⟨y3, e3, h3⟩ := hd 3 15 rfl (by decide +kernel) (by decide)
          have h3 : y3 = _ := h3
          subst h3
          have hi1 := HL.out.1
          have hi2 : (0 : Int) ≤ (i : Int) := Int.natCast_nonneg i
          have hi3 : (i : Int) < (na : Int) := by omega
          clear hd hold
          go_simp
          exact hK.out _ _ (by rfl) (Below.refl _ _)
        · obtain rfl := Option.some.inj ho
          obtain ⟨y4, e4, h4⟩ := hd 4 16 rfl (by decide +kernel) (by decide)
          have h4 : y4 = _ := h4
          subst h4
          have hc := HEs.out W HG.out.below
          clear hd hold
          go_simp
          exact hK.out _ _ (by rfl) (Below.refl _ _)
        · obtain rfl := Option.some.inj ho
          obtain ⟨y5, e5, h5⟩ := hd 5 17 rfl (by decide +kernel) (by decide)
          have h5 : y5 = _ := h5
          subst h5
          clear hd hold
          go_simp
          go_at_call 45
          (with_reducible refine (HTx.out W s Z1.out).mono ?_)
          rintro e W1 ⟨rfl, hB⟩
          exact hK.out _ _ (by rfl) hB
        · obtain rfl := Option.some.inj ho
          obtain ⟨y6, e6, h6⟩ := hd 6 18 rfl (by decide +kernel) (by decide)
          have h6 : y6 = _ := h6
          subst h6
          have hB := (Below.refl W.heap.size W).alloc (Nat.le_refl _) (.cells #[.int .u8 3, .string ⟨(Lib.itoa s).toArray⟩, .slice none 0 0, .slice none 0 0] 25)
          have hnew : FNx w b o na c v i s 7 (.slice (some ⟨W.heap.size, 0, none⟩) 1 1) (W.alloc (.cells #[.int .u8 3, .string ⟨(Lib.itoa s).toArray⟩, .slice none 0 0, .slice none 0 0] 25)) :=
            ⟨_, rfl, fun j z hz => by
              have hadd : (⟨W.heap.size, 0, none⟩ : Addr).add j = ⟨W.heap.size, j, none⟩ := by unfold Addr.add; split <;> simp_all
              rw [hadd, cell_of_row _ _ j _ _ (0, 0) (heap_alloc_new _ _)]
              have hz' : ([.int .u8 3, .string ⟨(Lib.itoa s).toArray⟩, .slice none 0 0, .slice none 0 0] : List Value)[j]? = some z := hz
              simpa using hz'⟩
          have HQ := Lib.hid (And.intro hnew hB)
          clear hd hold hB hnew
          go_simp
          exact hK.out _ _ HQ.out.1 HQ.out.2
        · cases hz
        · cases hz
        · cases hz
      · intro rr W hg hf
        have e1 : rr 1 = v := hf 1 (by decide) (by decide)
        obtain ⟨b', e7, hnews⟩ : FNx w b o na c v i s 7 (rr 7) W := hf 7 (by decide) (by decide)
        have HG := Lib.hid hg
        clear hg hf HGd
        simp only [putL, Act.put, List.setIfInBounds_toArray, List.set_cons_zero, List.set_cons_succ, e1, e7]
        refine wpAnyL_op 8 (by kernel_rfl) rfl (fun K hK => ?_)
        refine step_append_lies W rfl (.tmp 13) (.tmp 19) 22 rfl (w.heap.size + 2) 25 i0 _ 4 72 Tryd.underlying22 hi0 hz0 hz1 hz2 rfl (by decide) v i xs rfl HG.out.own ⟨b', 0, none⟩ 1 1 (ncells [s]) rfl rfl hnews (fun u hu => by
          simp only [ncells, List.mem_cons, List.not_mem_nil, or_false] at hu
          rcases hu with rfl | rfl | rfl | rfl <;> rfl) (by decide) (by unfold maxLen; have := HL.out; omega) (by have := HL.out; omega) HG.out.lt _ rfl (fun g cap w3 own3 hg3 _ _ => ?_)
        refine hK.out _ _ (fun _ => trivial) ?_
        simp only [Act.put, List.setIfInBounds_toArray, List.set_cons_zero, List.set_cons_succ]
        have hB3 : Below (w.heap.size + 2) W w3 := (Below.refl (w.heap.size + 2) W).grown hg3 HG.out.lt (fun k hk => (HG.out.own.lt k hk).1)
        have b0 := HG.out.b0.same (hB3.block _ (by omega))
        have b1 := HG.out.b1.same (hB3.block _ (by omega))
        have hbb : Below w.heap.size w w3 := HG.out.below.trans (hB3.mono (by omega))
        have H3 := Lib.hid (And.intro own3 (And.intro b0 (And.intro b1 (And.intro hbb (Nat.le_trans HG.out.lt hB3.size)))))
        obtain ⟨s0, s1, s2, s3⟩ := b1.box
        have f0 := b1.free 0
        have f1 := b1.free 1
        have f2 := b1.free 2
        have f3 := b1.free 3
        clear hK K own3 hg3 hB3 b0 b1 hbb hnews e1 e7
        refine wpAnyL_op 9 (by kernel_rfl) rfl (fun K hK => ?_)
        go_simp
        refine hK.out _ _ (fun _ => trivial) ?_
        try simp only [Act.put, List.setIfInBounds_toArray, List.set_cons_zero, List.set_cons_succ]
        clear hK K
        refine wpAnyL_op 10 (by kernel_rfl) rfl (fun K hK => ?_)
        go_simp
        refine hK.out _ _ (fun _ => trivial) ?_
        clear hK K
        refine wpAnyL_end (by kernel_rfl) ?_
        have H5 := Lib.hid (show TxG w (.slice (some ⟨g, 0, none⟩) (i + 1) cap) (ncells (l.take (i + 1))) (i + 1) (w3.setCell ⟨w.heap.size + 1, 2, none⟩ (.slice (some ⟨g, 0, none⟩) (i + 1) cap)) from
          have hg : w.heap.size + 2 ≤ g := (H3.out.1.lt g rfl).1
          ⟨H3.out.2.2.2.1.setCell (by show w.heap.size ≤ w.heap.size + 1; omega) _, by simpa using H3.out.2.2.2.2, H3.out.2.1.else (by omega), H3.out.2.2.1.set2 _, by
            rw [HT.out]
            exact own_else H3.out.1 (by show some g ≠ some (w.heap.size + 1); intro e; cases e; omega)⟩)
        clear s0 s1 s2 s3 f0 f1 f2 f3 H3
        generalize w3.setCell ⟨w.heap.size + 1, 2, none⟩ (.slice (some ⟨g, 0, none⟩) (i + 1) cap) = w5 at *
        go_wp2_with fail
        go_roundw
        case rel => exact ⟨i + 1, _, by go_num, HL.out.1, H5⟩
        case measure => have := HL.out; simp [RowKit.intOf]; omega
    · obtain rfl : i = na := by omega
      have hh := HFin.out wr v HR.out.own
      have HF := Lib.hid (And.intro hh HR.out)
      obtain ⟨p, c', rfl, -⟩ := hh.len
      obtain ⟨s0, s1, s2, s3⟩ := HR.out.b1.box
      obtain ⟨x0, x1, x2, x3⟩ := HR.out.b0.box
      have f0 := HR.out.b0.free 0
      have f1 := HR.out.b0.free 1
      have f2 := HR.out.b0.free 2
      have f3 := HR.out.b0.free 3
      clear hh HR
      generalize (nmT l).len = nt at *
      go_wp2_with fail
      obtain ⟨g1, g2, g3⟩ := HF.out.2.b0.all (.int .u8 5) (.string ⟨#[]⟩) (.slice p nt c') (.slice none 0 0)
      have hw3 := set4_else wr w.heap.size (.int .u8 5) (.string ⟨#[]⟩) (.slice p nt c') (.slice none 0 0)
      have g3' := g3 w.heap.size (Nat.le_refl _)
      clear s0 s1 s2 s3 x0 x1 x2 x3 f0 f1 f2 f3
      generalize (((wr.setCell ⟨w.heap.size, 0, none⟩ (.int .u8 5)).setCell ⟨w.heap.size, 1, none⟩ (.string ⟨#[]⟩)).setCell ⟨w.heap.size, 2, none⟩ (.slice p nt c')).setCell ⟨w.heap.size, 3, none⟩ (.slice none 0 0) = w3 at *
      obtain ⟨x0, x1, x2, x3⟩ := g1.box
      refine bodyPost_ret (v := .agg #[.int .u8 5, .string ⟨#[]⟩, .slice p nt c', .slice none 0 0]) (by simp [results, Tryd.results56, go_sem, x0, x1, x2, x3]) rfl ?_
      exact ⟨_, rfl, VF.mk (HF.out.1.fre (fun b hb => by omega) (fun b hb _ => hw3 b (by omega))) (HS.nil _ _ _), HF.out.2.below.trans g3'⟩
end Go.Proofs.YtdgmbmoaeoakpaaDoor
