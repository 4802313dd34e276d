/- Of relex: rescan. Conditions: two texts, equal ahead of and behind an edit. -/
import Derived.Test.YtglanajglhneeaaMX36
import Derived.Laws.AppendOwn
import Derived.Deep.LoopGhost
import Derived.WalkMore
namespace Go.Proofs
open Go Go.RowKit Go.Lib
namespace Ytglanajglhneeaa
namespace D
/-- under way: no token so far begins where one of the old text's does; all of the old text's ahead of the n-th begin ahead of the place -/
def Rn (S T : List Tk) (a oT nT j n : Nat) : Prop := a + j ≤ T.length ∧ a ≤ n ∧ n ≤ S.length ∧ (∀ i, a ≤ i → i < a + j → ∀ k, ¬ Mt S T oT nT i k) ∧ (n = a ∨ (nT ≤ bg T (a + j) ∧ bg S (n - 1) + nT < bg T (a + j) + oT))
theorem Rn.no_eq {s t : ByteArray} {oF a oT nT j n : Nat} (hE : Ed1 s t oF oT nT) (ha : Wi (toks s) oF a) (h : Rn (toks s) (toks t) a oT nT j n) (h1 : nT ≤ bg (toks t) (a + j)) (h2 : bg (toks t) (a + j) + oT < bg (toks s) n + nT) : ∀ k, ¬ Mt (toks s) (toks t) oT nT (a + j) k := by
  intro k hm
  obtain ⟨m1, m2, m3, m4⟩ := hm
  have hp := toks_pos s
  by_cases hkn : n ≤ k
  · have := bg_mono hp hkn (Nat.le_of_lt m1); omega
  · rcases h.2.2.2.2 with e | ⟨e1, e2⟩
    · have h3 := ha.le
      have h4 := bg_lt hp (show k < a by omega) ha.1
      have := hE.h1
      omega
    · have := bg_mono hp (show k ≤ n - 1 by omega) (by have := h.2.2.1; omega); omega
theorem Rn.no_ahead {S T : List Tk} {a oT nT j n : Nat} (_h : Rn S T a oT nT j n) (h1 : ¬ nT ≤ bg T (a + j)) : ∀ k, ¬ Mt S T oT nT (a + j) k := fun _ hm => h1 hm.2.1
theorem Rn.next {s t : ByteArray} {a oT nT j n : Nat} (h : Rn (toks s) (toks t) a oT nT j n) (hlt : a + j < (toks t).length) (hno : ∀ k, ¬ Mt (toks s) (toks t) oT nT (a + j) k) : Rn (toks s) (toks t) a oT nT (j + 1) n := by
  have hb := bg_step (toks_pos t) hlt
  obtain ⟨h1, h2, h3, h4, h5⟩ := h
  refine ⟨by omega, h2, h3, fun i hi hi2 k => ?_, ?_⟩
  · by_cases e : i = a + j
    · subst e; exact hno k
    · exact h4 i hi (by omega) k
  · rcases h5 with e | ⟨e1, e2⟩
    · exact Or.inl e
    · refine Or.inr ⟨?_, ?_⟩
      · rw [show a + (j + 1) = a + j + 1 by omega]; omega
      · rw [show a + (j + 1) = a + j + 1 by omega]; omega
theorem Rn.found {s t : ByteArray} {oF a oT nT j n : Nat} (hE : Ed1 s t oF oT nT) (ha : Wi (toks s) oF a) (h : Rn (toks s) (toks t) a oT nT j n) (hlt : a + j < (toks t).length) (h1 : nT ≤ bg (toks t) (a + j)) (h2 : bg (toks t) (a + j) + oT = bg (toks s) n + nT) : IsNum (toks s) (toks t) oF oT nT a n (a + j) := by
  refine ⟨ha, by omega, h.2.2.2.1, Or.inl ⟨hlt, ?_, h1, by omega, by omega⟩⟩
  rw [← bg_lt_iff s h.2.2.1]
  have := (bg_lt_iff t (Nat.le_of_lt hlt)).2 hlt
  have := hE.h5
  omega
theorem Rn.done {s t : ByteArray} {oF a oT nT j n : Nat} (ha : Wi (toks s) oF a) (h : Rn (toks s) (toks t) a oT nT j n) (hlt : ¬ a + j < (toks t).length) : IsNum (toks s) (toks t) oF oT nT a (toks s).length (a + j) :=
  ⟨ha, by omega, h.2.2.2.1, Or.inr ⟨by have := h.1; omega, rfl⟩⟩
theorem Rn.up {s t : ByteArray} {oF a oT nT j n : Nat} (hE : Ed1 s t oF oT nT) (h : Rn (toks s) (toks t) a oT nT j n) (hlt : a + j < (toks t).length) (h1 : nT ≤ bg (toks t) (a + j)) (h2 : bg (toks s) n + nT < bg (toks t) (a + j) + oT) : n < (toks s).length ∧ Rn (toks s) (toks t) a oT nT j (n + 1) := by
  have hn : n < (toks s).length := by
    rw [← bg_lt_iff s h.2.2.1]
    have := (bg_lt_iff t (Nat.le_of_lt hlt)).2 hlt
    have := hE.h5
    omega
  exact ⟨hn, h.1, by have := h.2.1; omega, hn, h.2.2.2.1, Or.inr ⟨h1, by rw [Nat.add_sub_cancel]; exact h2⟩⟩
end D
/-- what rescan answers -/
def ScanIs (s t : ByteArray) (oF oT nT a : Nat) (w : World) (e : Ending) (w' : World) : Prop := ∃ (v : Value) (b j : Nat), e = .returned (.tuple #[v, .int .i64 (b : Int)]) ∧ D.IsNum (D.toks s) (D.toks t) oF oT nT a b (a + j) ∧ RdT w' v ((((D.toks t).drop a).take j).map D.Tk.i) ∧ Below w.heap.size w w'
theorem RdT.shape {W : World} {v : Value} {ts : List D.Tk} (h : RdT W v (ts.map D.Tk.i)) {n : Nat} (hn : ts.length = n) : ∃ z cap, v = .slice z n cap ∧ n ≤ cap ∧ cap ≤ 9223372036854775807 := by
  obtain ⟨z, cap, hv, h1, h2, _⟩ := h
  rw [List.length_map, hn] at *
  exact ⟨z, cap, hv, h1, h2⟩
theorem row_below9 {w w' : World} {base : Nat} {e : TypeId} {size n : Nat} {v : Value} {xs : List Value} (h : w.ownsRow base e size v n xs) (hB : Below w.heap.size w w') : w'.ownsRow base e size v n xs := h.kept (grown_below hB) (by cases hv : v.ownBlock <;> simp)
/-- blocks in between are as they were -/
def KeepI (lo : Nat) (W W' : World) : Prop := W.heap.size ≤ W'.heap.size ∧ ∀ b, lo ≤ b → b < W.heap.size → W'.heap[b]? = W.heap[b]?
theorem KeepI.refl (lo : Nat) (W : World) : KeepI lo W W := ⟨Nat.le_refl _, fun _ _ _ => rfl⟩
/-- a slice in no block in between -/
def FarR (lo hi : Nat) (v : Value) : Prop := ∀ b, v.ownBlock = some b → b < lo ∨ hi ≤ b
theorem KeepI.app {lo : Nat} {W W' w4 : World} {u : Value} {o1 o2 : Obj} (h : KeepI lo W W') (hf : FarR lo W.heap.size u) (hg : ((W'.alloc o1).alloc o2).grownBy w4 u.ownBlock) : KeepI lo W w4 := by
  have hz := hg.size
  rw [World.size_alloc, World.size_alloc] at hz
  refine ⟨by have := h.1; omega, fun b h1 h2 => ?_⟩
  have hb : b < W'.heap.size := Nat.lt_of_lt_of_le h2 h.1
  rw [hg.block b (by rw [World.size_alloc, World.size_alloc]; omega) (fun e => by
    rcases hf b e.symm with h3 | h3 <;> omega), Below.heap_alloc _ _ b (by rw [World.size_alloc]; omega), Below.heap_alloc _ _ b hb]
  exact h.2 b h1 h2
theorem FarR.app {lo : Nat} {W W' : World} {u v : Value} {o1 o2 : Obj} (h : KeepI lo W W') (hf : FarR lo W.heap.size u) (hat : v.ownBlock = u.ownBlock ∨ v.ownBlock = some ((W'.alloc o1).alloc o2).heap.size) : FarR lo W.heap.size v := by
  intro b hb
  rcases hat with e | e
  · exact hf b (by rw [← e]; exact hb)
  · rw [e] at hb
    have hz := h.1
    injection hb with hb
    rw [World.size_alloc, World.size_alloc] at hb
    omega
theorem FarR.of_fresh {lo hi : Nat} {W : World} {base : Nat} {e : TypeId} {size n : Nat} {v : Value} {xs : List Value} (h : W.ownsRow base e size v n xs) (hlo : W.heap.size ≤ lo) : FarR lo hi v := fun b hb => Or.inl (by have := (h.lt b hb).2; omega)
theorem news9 (W : World) (a b c : Int) : ∀ (j : Nat) (u : Value), [Value.int .u8 a, .int .i64 b, .int .i64 c][j]? = some u → (W.alloc (.cells #[.int .u8 a, .int .i64 b, .int .i64 c] 24)).cell? ((⟨W.heap.size, 0, none⟩ : Addr).add j) = some u := by
  intro j u hu
  have hadd : (⟨W.heap.size, 0, none⟩ : Addr).add j = ⟨W.heap.size, j, none⟩ := by unfold Addr.add; split <;> simp_all
  rw [hadd, cell_of_row _ _ j _ _ (0, 0) (heap_alloc_new _ _), ← Array.getElem?_toList]
  exact hu
theorem box_stays9 {W w4 : World} {o1 o2 o : Obj} {base : Nat} {e : TypeId} {size n : Nat} {u : Value} {xs : List Value} (h : W.ownsRow base e size u n xs) (hb : (W.alloc o1).heap[W.heap.size]? = some o) (hg : ((W.alloc o1).alloc o2).grownBy w4 u.ownBlock) : w4.heap[W.heap.size]? = some o := by
  rw [hg.block _ (by rw [World.size_alloc, World.size_alloc]; omega) (fun e => by have := (h.lt _ e.symm).2; omega), Below.heap_alloc _ _ _ (by rw [World.size_alloc]; omega)]
  exact hb
theorem scan_out9 {s t : ByteArray} {oF oT nT a b j : Nat} {w w' : World} {v : Value} {n0 : Nat} (hn : D.IsNum (D.toks s) (D.toks t) oF oT nT a b (a + j)) (hown : w'.ownsRow n0 24 3 v j (tksCells (((D.toks t).drop a).take j))) (hj : j ≤ 16000) (hF : D.Fine (D.toks t)) (hB : Below w.heap.size w w') : ScanIs s t oF oT nT a w (.returned (.tuple #[v, .int .i64 (b : Int)])) w' := by
  refine ⟨v, b, j, rfl, hn, ?_, hB⟩
  have hl : (((D.toks t).drop a).take j).length = j := by
    have h1 := hn.2.2.2
    rw [List.length_take, List.length_drop]
    rcases h1 with ⟨h1, _⟩ | ⟨h1, _⟩ <;> omega
  refine rdT_own (n0 := n0) (by rw [hl]; exact hown) (by omega) (fun x hx => ?_)
  have := hF.2.2.2 x (List.mem_of_mem_drop (List.mem_of_mem_take hx))
  omega
set_option maxHeartbeats 16000000 in
set_option maxRecDepth 100000 in
theorem rescan_any (s t : ByteArray) (oF oT nT a : Nat) (hs : s.size ≤ 16000) (ht : t.size ≤ 16000) (hE : D.Ed1 s t oF oT nT) (ha : D.Wi (D.toks s) oF a) (v : Value) (w : World) (h : RdT w v ((D.toks s).map D.Tk.i)) : Calls Try.prog 37 #[v, .int .i64 a, .string t, .int .i64 (D.bg (D.toks s) a : Int), .agg #[.int .i64 oF, .int .i64 oT], .agg #[.int .i64 oF, .int .i64 nT]] w (ScanIs s t oF oT nT a w) := by
  obtain ⟨i0, hi0, hz0, hz1, hz2⟩ := info_parts infoTok
  have HE := Lib.hid hE
  have HA := Lib.hid ha
  have HRd := Lib.hid h
  have HFS := Lib.hid (D.toks_fine s (by omega))
  have HFT := Lib.hid (D.toks_fine t (by omega))
  have HSure := Lib.hid (fun (r : ByteArray) (z : Nat) (hr : r.size ≤ 20000) (hz : z ≤ 1000000) W => sure_any r z hr hz W)
  have hl0 : (D.toks s).length ≤ 16000 := Nat.le_trans (D.toks_len s) hs
  have hlt0 : (D.toks t).length ≤ 16000 := Nat.le_trans (D.toks_len t) ht
  obtain ⟨e1, e2, e3, e4⟩ : oF ≤ 16000 ∧ oT ≤ 16000 ∧ nT ≤ 16000 ∧ a ≤ 16000 := by
    have := hE.h1; have := hE.h2; have := hE.h4; have := ha.1; omega
  have hf3 := hE.fst ha
  have hp0 := D.bg_le s ha.1
  have HSt := Lib.hid (show D.Rn (D.toks s) (D.toks t) a oT nT 0 a ∧ D.bg (D.toks s) a = D.bg (D.toks t) (a + 0) from ⟨⟨by have := hf3.1; omega, Nat.le_refl _, ha.1, fun i h1 h2 => by omega, Or.inl rfl⟩, hf3.2.2.symm⟩)
  obtain ⟨zz, cap, rfl, hlc, hcap⟩ := h.shape rfl
  clear h
  generalize hp : D.bg (D.toks s) a = p0 at *
  have HP := Lib.hid hp
  clear hE ha hf3 hp
  go_enter Try.func37, Try.ntmps37
  go_wp2_with fail
  go_step3
  go_upto_region 2 with fail
  have n0 : ((w.alloc (.cells #[.int .i64 (oF : Int), .int .i64 (oT : Int)] 32)).alloc (.cells #[.int .i64 (oF : Int), .int .i64 (nT : Int)] 32)).heap[w.heap.size]? = some (.cells #[.int .i64 (oF : Int), .int .i64 (oT : Int)] 32 (0, 0)) := (heap_alloc_old _ _ (by simp)).trans (heap_alloc_new w _)
  have n1 : ((w.alloc (.cells #[.int .i64 (oF : Int), .int .i64 (oT : Int)] 32)).alloc (.cells #[.int .i64 (oF : Int), .int .i64 (nT : Int)] 32)).heap[w.heap.size + 1]? = some (.cells #[.int .i64 (oF : Int), .int .i64 (nT : Int)] 32 (0, 0)) := by
    have := heap_alloc_new (w.alloc (.cells #[.int .i64 (oF : Int), .int .i64 (oT : Int)] 32)) (.cells #[.int .i64 (oF : Int), .int .i64 (nT : Int)] 32)
    rwa [World.size_alloc] at this
  have hbw : Below w.heap.size w ((w.alloc (.cells #[.int .i64 (oF : Int), .int .i64 (oT : Int)] 32)).alloc (.cells #[.int .i64 (oF : Int), .int .i64 (nT : Int)] 32)) := ((Below.refl _ _).alloc (Nat.le_refl _) _).alloc (by simp) _
  generalize (w.alloc _).alloc _ = W1 at *
  have y0 : W1.cell? ⟨w.heap.size, 1, none⟩ = some (.int .i64 (oT : Int)) := by rw [Lib.cell_of_heap n0]; rfl
  have y1 : W1.cell? ⟨w.heap.size + 1, 1, none⟩ = some (.int .i64 (nT : Int)) := by rw [Lib.cell_of_heap n1]; rfl
  have hlt1 : w.heap.size + 1 < W1.heap.size := (Array.getElem?_eq_some_iff.1 n1).1
  have HC := Lib.hid (fun X (hX : Below W1.heap.size W1 X) => (hX.cell (p := ⟨w.heap.size + 1, 1, none⟩) hlt1).trans y1)
  have HR1 := Lib.hid (fun X (hX : Below W1.heap.size W1 X) => (HRd.out.below (hbw.trans (hX.mono hbw.size))))
  have HB1 := Lib.hid hbw
  clear n0 n1 hbw hlt1
  go_wp2_with fail
  go_step3
  go_wp2_with fail
  clear y0 y1
  go_loopg [3, 12, 13, 14, 15, 17] 65472 (fun g s3 s12 s13 s14 s15 s17 wx => ∃ (j n p x z : Nat), g + z = 65536 ∧ s3 = .int .i64 p ∧ s13 = .int .i64 (D.toks s).length ∧ s14 = .int .i64 n ∧ s15 = .int .i64 x ∧ s17 = .int .i64 z ∧ (64 ≤ z ∧ z ≤ 64000 ∧ (p < t.size → z ≤ 32000)) ∧ (p ≤ 16000 ∧ x ≤ 16000 ∧ n ≤ 16000 ∧ j ≤ 16000) ∧ wx.ownsRow W1.heap.size 24 3 s12 j (tksCells (((D.toks t).drop a).take j)) ∧ Hid (Below W1.heap.size W1 wx ∧ D.Rn (D.toks s) (D.toks t) a oT nT j n ∧ p = D.bg (D.toks t) (a + j) ∧ x = D.bg (D.toks s) n))
  case atStart => exact ⟨0, a, p0, p0, 64, rfl, rfl, rfl, rfl, rfl, rfl, by omega, by omega, World.ownsRow_nil _ _ _ _, Lib.hid ⟨Below.refl _ _, HSt.out.1, HSt.out.2, HP.out.symm⟩⟩
  case round =>
    obtain ⟨j, n, p, x, z, hgz, rfl, rfl, rfl, rfl, rfl, hz, hbd, hown, HW⟩ := hrel
    have HOwn := Lib.hid hown
    by_cases hpt : p < t.size
    · have j1 : (p : Int) < (t.size : Int) := by omega
      have j2 : (p : Int) ≤ (t.size : Int) := by omega
      have j3 : p ≤ t.size := by omega
      have hzl : z ≤ 32000 := hz.2.2 hpt
      have hlt : a + j < (D.toks t).length := by
        rw [← D.bg_lt_iff t HW.out.2.1.1, ← HW.out.2.2.1]; exact hpt
      have hres : D.toks (t.extract p t.size) = (D.toks t).drop (a + j) := by
        rw [HW.out.2.2.1]; exact D.toks_rest t HW.out.2.1.1
      have hrs : (t.extract p t.size).size = t.size - p := by rw [ByteArray.size_extract]; omega
      have HS := Lib.hid (fun W => HSure.out (t.extract p t.size) z (by omega) (by omega) W)
      have HRes := Lib.hid (And.intro hres (And.intro hrs hlt))
      clear hres hlt hrs hpt hown
      go_wp2_with fail
      refine (HS.out _).mono ?_
      rintro e w2 ⟨v2, n2, rfl, hn2, hrd2, hfull, hfr2, hB2⟩
      generalize t.extract p t.size = r at *
      rw [HRes.out.1] at hn2 hrd2 hfull
      have hll : (((D.toks t).drop (a + j)).take n2).length = n2 := by rw [List.length_take]; omega
      have hbd2 : a + j + n2 ≤ (D.toks t).length := by rw [List.length_drop] at hn2; have := HRes.out.2.2; omega
      have HFull := Lib.hid (show r.size ≤ z → a + j + n2 = (D.toks t).length from fun h => by have := hfull h; rw [List.length_drop] at this; have := HRes.out.2.2; omega)
      obtain ⟨zv, capv, rfl, g1, g2⟩ := hrd2.shape hll
      have hBr2 := HW.out.1.trans (hB2.mono HW.out.1.size)
      obtain ⟨lo, hlo⟩ : ∃ lo, lo = wr.heap.size := ⟨_, rfl⟩
      have HRd2 := Lib.hid (And.intro hrd2 (show FreshS lo (.slice zv n2 capv) by rw [hlo]; exact hfr2))
      have hfar : FarR lo w2.heap.size u12 := FarR.of_fresh HOwn.out (by rw [hlo]; exact Nat.le_refl _)
      have hown2 := row_below9 HOwn.out hB2
      have H2 := Lib.hid (And.intro hBr2 (And.intro hfar hown2))
      clear hn2 hfull hfr2 hBr2 hfar hown2 hB2 hrd2 hll hlo
      go_wp2_with fail
      go_loopg [3, 12, 13, 14, 15, 41] n2 (fun g s3 s12 s13 s14 s15 s41 wx => ∃ (q n p x : Nat), q + g = n2 ∧ s3 = .int .i64 p ∧ s13 = .int .i64 (D.toks s).length ∧ s14 = .int .i64 n ∧ s15 = .int .i64 x ∧ s41 = .int .i64 q ∧ (p ≤ 16000 ∧ x ≤ 16000 ∧ n ≤ 16000) ∧ wx.ownsRow W1.heap.size 24 3 s12 (j + q) (tksCells (((D.toks t).drop a).take (j + q))) ∧ Hid (Below W1.heap.size W1 wx ∧ KeepI lo w2 wx ∧ FarR lo w2.heap.size s12 ∧ D.Rn (D.toks s) (D.toks t) a oT nT (j + q) n ∧ p = D.bg (D.toks t) (a + (j + q)) ∧ x = D.bg (D.toks s) n))
      case atStart => exact ⟨0, n, p, x, by omega, rfl, rfl, rfl, rfl, rfl, by omega, H2.out.2.2, Lib.hid ⟨H2.out.1, KeepI.refl _ _, H2.out.2.1, HW.out.2⟩⟩
      case round =>
        clear hbd HOwn j1 j2 j3
        obtain ⟨q, n, p, x, hgq, rfl, rfl, rfl, rfl, rfl, hbd, hown, HW3⟩ := hrel
        have HOwn := Lib.hid hown
        clear hown
        by_cases hq : q < n2
        · have q1 : (q : Int) < (n2 : Int) := by omega
          have q0 : (0 : Int) ≤ (q : Int) := Int.natCast_nonneg q
          have hlt : a + (j + q) < (D.toks t).length := by omega
          obtain ⟨tk0, htk⟩ : ∃ k, (D.toks t)[a + (j + q)]? = some k := ⟨_, List.getElem?_eq_getElem hlt⟩
          have hat := HFT.out.at htk
          rw [← HW3.out.2.2.2.2.1] at hat
          have hrow := (HRd2.out.1.keep HRd2.out.2 HW3.out.2.1.2 HW3.out.2.1.1).tk (j := q) (t := tk0) (by rw [List.getElem?_take_of_lt hq, List.getElem?_drop, ← htk]; congr 1; omega)
          obtain ⟨bv, ov, rfl, _, c0, c1, c2⟩ := hrow
          have hsn : ((D.toks t).drop a).take (j + q + 1) = ((D.toks t).drop a).take (j + q) ++ [tk0] := by
            rw [List.take_add_one, List.getElem?_drop, htk]; rfl
          have HX := Lib.hid (And.intro htk (And.intro hlt (And.intro hat.2.1 hsn)))
          obtain ⟨tk, tw, tl⟩ := tk0
          simp only at c0 c1 c2 hat
          have hw2 := hat.1
          have hpw : p + tw ≤ 16000 := by
            have h1 := HX.out.2.2.1
            simp only at h1
            rw [← h1]
            exact Nat.le_trans (D.bg_le t hlt) ht
          have q3 : (q : Int) ≤ 1000000000000000 := by omega
          clear htk hat hsn
          go_wp2_with fail
          have nb : (wr.alloc (.cells #[.int .u8 (tk : Int), .int .i64 (tw : Int), .int .i64 (tl : Int)] 24)).heap[wr.heap.size]? = some (.cells #[.int .u8 (tk : Int), .int .i64 (tw : Int), .int .i64 (tl : Int)] 24 (0, 0)) := heap_alloc_new wr _
          have hb4 := HW3.out.1.alloc HW3.out.1.size (.cells #[.int .u8 (tk : Int), .int .i64 (tw : Int), .int .i64 (tl : Int)] 24)
          have HK4 := Lib.hid (fun w4 (v4 : Value) (hg : ((wr.alloc (.cells #[.int .u8 (tk : Int), .int .i64 (tw : Int), .int .i64 (tl : Int)] 24)).alloc (.cells #[.int .u8 (tk : Int), .int .i64 (tw : Int), .int .i64 (tl : Int)] 24)).grownBy w4 u12.ownBlock) => KeepI.app HW3.out.2.1 HW3.out.2.2.1 hg)
          have HF4 := Lib.hid (fun (v4 : Value) hg => FarR.app (v := v4) (o1 := (.cells #[.int .u8 (tk : Int), .int .i64 (tw : Int), .int .i64 (tl : Int)] 24)) (o2 := (.cells #[.int .u8 (tk : Int), .int .i64 (tw : Int), .int .i64 (tl : Int)] 24)) HW3.out.2.1 HW3.out.2.2.1 hg)
          have HN4 := Lib.hid (fun w4 (hg : ((wr.alloc (.cells #[.int .u8 (tk : Int), .int .i64 (tw : Int), .int .i64 (tl : Int)] 24)).alloc (.cells #[.int .u8 (tk : Int), .int .i64 (tw : Int), .int .i64 (tl : Int)] 24)).grownBy w4 u12.ownBlock) => box_stays9 HOwn.out nb hg)
          have H4 := Lib.hid (And.intro hb4 nb)
          have HOw := Lib.hid (HOwn.out.alloc (.cells #[.int .u8 (tk : Int), .int .i64 (tw : Int), .int .i64 (tl : Int)] 24))
          have HRx := Lib.hid (And.intro HW3.out.2.2.2.1 HW3.out.2.2.2.2.2)
          have HPq := Lib.hid HW3.out.2.2.2.2.1
          generalize wr.alloc _ = W4 at *
          generalize wr.heap.size = N4 at *
          clear c0 c1 c2 nb hb4 HW3 HOwn
          have z0 : W4.cell? ⟨N4, 0, none⟩ = some (.int .u8 (tk : Int)) := by rw [Lib.cell_of_heap H4.out.2]; rfl
          have z1 : W4.cell? ⟨N4, 1, none⟩ = some (.int .i64 (tw : Int)) := by rw [Lib.cell_of_heap H4.out.2]; rfl
          have z2 : W4.cell? ⟨N4, 2, none⟩ = some (.int .i64 (tl : Int)) := by rw [Lib.cell_of_heap H4.out.2]; rfl
          have y1 := HC.out W4 H4.out.1
          go_loopg [14, 15] ((D.toks s).length - n) (fun g s14 s15 wy => ∃ (n x : Nat), n + g = (D.toks s).length ∧ s14 = .int .i64 n ∧ s15 = .int .i64 x ∧ (x ≤ 16000 ∧ n ≤ 16000) ∧ W4 = wy ∧ Hid (D.Rn (D.toks s) (D.toks t) a oT nT (j + q) n ∧ x = D.bg (D.toks s) n))
          case atStart => exact ⟨n, x, by have := HRx.out.1.2.2.1; omega, rfl, rfl, by omega, rfl, HRx⟩
          case round =>
            clear HRx hbd
            obtain ⟨n, x, hgn, rfl, rfl, hbd, rfl, HRx⟩ := hrel
            by_cases c1 : nT ≤ p
            · have k1 : (nT : Int) ≤ (p : Int) := by omega
              by_cases c2 : x + nT < p + oT
              · have k2 : (x : Int) < (p : Int) - ((nT : Int) - (oT : Int)) := by omega
                have hup := D.Rn.up HE.out HRx.out.1 HX.out.2.1 (by rw [← HPq.out]; exact c1) (by rw [← HPq.out, ← HRx.out.2]; exact c2)
                obtain ⟨t5, ht5⟩ : ∃ k, (D.toks s)[n]? = some k := ⟨_, List.getElem?_eq_getElem hup.1⟩
                obtain ⟨bs, os, rfl, _, d0, d1, d2⟩ := (HR1.out _ H4.out.1).tk ht5
                have hat5 := HFS.out.at ht5
                rw [← HRx.out.2] at hat5
                have hle5 := D.bg_le s hup.1
                rw [hat5.2.1] at hle5
                have HU := Lib.hid (And.intro hup hat5)
                obtain ⟨tk5, tw5, tl5⟩ := t5
                simp only at d0 d1 d2 hat5 hle5
                have n1 : (n : Int) < ((D.toks s).length : Int) := by have := hup.1; omega
                have n0 : (0 : Int) ≤ (n : Int) := Int.natCast_nonneg n
                have hup1 := hup.1
                clear hup ht5 hat5 c1 c2 d0 d2
                go_wp2_with fail
                go_roundg ((D.toks s).length - (n + 1))
                case measure => omega
                case rel => exact ⟨n + 1, x + tw5, by omega, by go_num, by go_num, by omega, rfl, Lib.hid ⟨HU.out.1.2, HU.out.2.2.1.symm⟩⟩
              · have k2 : ¬ (x : Int) < (p : Int) - ((nT : Int) - (oT : Int)) := by omega
                by_cases c3 : x + nT = p + oT
                · have k3 : ((x : Int) == (p : Int) - ((nT : Int) - (oT : Int))) = true := by rw [beq_iff_eq]; omega
                  have hnum := D.Rn.found HE.out HA.out HRx.out.1 HX.out.2.1 (by rw [← HPq.out]; exact c1) (by rw [← HPq.out, ← HRx.out.2]; exact c3.symm)
                  have HN := Lib.hid hnum
                  clear hnum c1 c2 c3
                  go_wp2_with fail
                  try rw [Exit.noGoto_ret]
                  go_ret2
                  exact scan_out9 HN.out HOw.out (by omega) HFT.out (HB1.out.trans (H4.out.1.mono HB1.out.size))
                · have k3 : ((x : Int) == (p : Int) - ((nT : Int) - (oT : Int))) = false := by rw [beq_eq_false_iff_ne]; omega
                  have HN5 := Lib.hid (HRx.out.1.next HX.out.2.1 (D.Rn.no_eq HE.out HA.out HRx.out.1 (by rw [← HPq.out]; exact c1) (by rw [← HPq.out, ← HRx.out.2]; omega)))
                  clear c1 c2 c3
                  have hnews := news9 W4 (tk : Int) (tw : Int) (tl : Int)
                  have HO := Lib.hid (And.intro (HOw.out.alloc (.cells #[.int .u8 (tk : Int), .int .i64 (tw : Int), .int .i64 (tl : Int)] 24)) (And.intro hnews (show W1.heap.size ≤ (W4.alloc (.cells #[.int .u8 (tk : Int), .int .i64 (tw : Int), .int .i64 (tl : Int)] 24)).heap.size by rw [World.size_alloc]; have := H4.out.1.size; omega)))
                  clear hnews
                  go_wp2_with (at_builtin; refine wpList_append_own_at _ rfl _ _ 35 rfl W1.heap.size 24 i0 _ 3 24 Try.underlying35 hi0 hz0 hz1 hz2 rfl (by decide) _ (j + q) (tksCells (((D.toks t).drop a).take (j + q))) rfl HO.out.1 ⟨W4.heap.size, 0, none⟩ 1 1 [.int .u8 tk, .int .i64 tw, .int .i64 tl] rfl rfl HO.out.2.1 (fun u hu => by
                      simp only [List.mem_cons, List.not_mem_nil, or_false] at hu
                      rcases hu with rfl | rfl | rfl <;> rfl) (by unfold maxLen; omega) (by omega) HO.out.2.2 ?_; intro v4 w4 own4 hg4 _ hat4; have HG := Lib.hid (And.intro own4 (And.intro hg4 hat4)); have z5 : w4.cell? ⟨N4, 1, none⟩ = some (.int .i64 (tw : Int)) := (by rw [Lib.cell_of_heap (HN4.out w4 hg4)]; rfl); clear own4 hg4 hat4)
                  have hq1 : j + (q + 1) = j + q + 1 := by omega
                  have own5 : w4.ownsRow W1.heap.size 24 3 v4 (j + (q + 1)) (tksCells (((D.toks t).drop a).take (j + (q + 1)))) := by
                    rw [hq1, HX.out.2.2.2, tksCells_snoc]
                    exact HG.out.1
                  have hb4 : Below W1.heap.size W1 w4 := (H4.out.1.alloc H4.out.1.size _).grown HG.out.2.1 (by have := H4.out.1.size; rw [World.size_alloc]; omega) (fun k hk => (HO.out.1.lt k hk).1)
                  have hk4 : KeepI lo w2 w4 := HK4.out w4 v4 HG.out.2.1
                  have hf4 : FarR lo w2.heap.size v4 := HF4.out v4 HG.out.2.2
                  have HR5 := Lib.hid (And.intro hb4 (And.intro hk4 (And.intro hf4 (And.intro own5 (And.intro HN5.out (And.intro HX.out.2.2.1.symm HRx.out.2))))))
                  clear own5 hb4 hk4 hf4
                  go_wp2_with fail
                  go_roundg (n2 - (q + 1))
                  case measure => omega
                  case rel => exact ⟨q + 1, n, p + tw, x, by omega, by go_num, rfl, rfl, rfl, by go_num, by omega, HR5.out.2.2.2.1, Lib.hid ⟨HR5.out.1, HR5.out.2.1, HR5.out.2.2.1, HR5.out.2.2.2.2.1, by rw [hq1]; exact HR5.out.2.2.2.2.2.1, HR5.out.2.2.2.2.2.2⟩⟩
            · have k1 : ¬ (nT : Int) ≤ (p : Int) := by omega
              have HN5 := Lib.hid (HRx.out.1.next HX.out.2.1 (HRx.out.1.no_ahead (by rw [← HPq.out]; exact c1)))
              clear c1
              by_cases c3 : x + nT = p + oT
              · have k3 : ((x : Int) == (p : Int) - ((nT : Int) - (oT : Int))) = true := by rw [beq_iff_eq]; omega
                clear c3
                have hnews := news9 W4 (tk : Int) (tw : Int) (tl : Int)
                have HO := Lib.hid (And.intro (HOw.out.alloc (.cells #[.int .u8 (tk : Int), .int .i64 (tw : Int), .int .i64 (tl : Int)] 24)) (And.intro hnews (show W1.heap.size ≤ (W4.alloc (.cells #[.int .u8 (tk : Int), .int .i64 (tw : Int), .int .i64 (tl : Int)] 24)).heap.size by rw [World.size_alloc]; have := H4.out.1.size; omega)))
                clear hnews
                go_wp2_with (at_builtin; refine wpList_append_own_at _ rfl _ _ 35 rfl W1.heap.size 24 i0 _ 3 24 Try.underlying35 hi0 hz0 hz1 hz2 rfl (by decide) _ (j + q) (tksCells (((D.toks t).drop a).take (j + q))) rfl HO.out.1 ⟨W4.heap.size, 0, none⟩ 1 1 [.int .u8 tk, .int .i64 tw, .int .i64 tl] rfl rfl HO.out.2.1 (fun u hu => by
                    simp only [List.mem_cons, List.not_mem_nil, or_false] at hu
                    rcases hu with rfl | rfl | rfl <;> rfl) (by unfold maxLen; omega) (by omega) HO.out.2.2 ?_; intro v4 w4 own4 hg4 _ hat4; have HG := Lib.hid (And.intro own4 (And.intro hg4 hat4)); have z5 : w4.cell? ⟨N4, 1, none⟩ = some (.int .i64 (tw : Int)) := (by rw [Lib.cell_of_heap (HN4.out w4 hg4)]; rfl); clear own4 hg4 hat4)
                have hq1 : j + (q + 1) = j + q + 1 := by omega
                have own5 : w4.ownsRow W1.heap.size 24 3 v4 (j + (q + 1)) (tksCells (((D.toks t).drop a).take (j + (q + 1)))) := by
                  rw [hq1, HX.out.2.2.2, tksCells_snoc]
                  exact HG.out.1
                have hb4 : Below W1.heap.size W1 w4 := (H4.out.1.alloc H4.out.1.size _).grown HG.out.2.1 (by have := H4.out.1.size; rw [World.size_alloc]; omega) (fun k hk => (HO.out.1.lt k hk).1)
                have hk4 : KeepI lo w2 w4 := HK4.out w4 v4 HG.out.2.1
                have hf4 : FarR lo w2.heap.size v4 := HF4.out v4 HG.out.2.2
                have HR5 := Lib.hid (And.intro hb4 (And.intro hk4 (And.intro hf4 (And.intro own5 (And.intro HN5.out (And.intro HX.out.2.2.1.symm HRx.out.2))))))
                clear own5 hb4 hk4 hf4
                go_wp2_with fail
                go_roundg (n2 - (q + 1))
                case measure => omega
                case rel => exact ⟨q + 1, n, p + tw, x, by omega, by go_num, rfl, rfl, rfl, by go_num, by omega, HR5.out.2.2.2.1, Lib.hid ⟨HR5.out.1, HR5.out.2.1, HR5.out.2.2.1, HR5.out.2.2.2.2.1, by rw [hq1]; exact HR5.out.2.2.2.2.2.1, HR5.out.2.2.2.2.2.2⟩⟩
              · have k3 : ((x : Int) == (p : Int) - ((nT : Int) - (oT : Int))) = false := by rw [beq_eq_false_iff_ne]; omega
                clear c3
                have hnews := news9 W4 (tk : Int) (tw : Int) (tl : Int)
                have HO := Lib.hid (And.intro (HOw.out.alloc (.cells #[.int .u8 (tk : Int), .int .i64 (tw : Int), .int .i64 (tl : Int)] 24)) (And.intro hnews (show W1.heap.size ≤ (W4.alloc (.cells #[.int .u8 (tk : Int), .int .i64 (tw : Int), .int .i64 (tl : Int)] 24)).heap.size by rw [World.size_alloc]; have := H4.out.1.size; omega)))
                clear hnews
                go_wp2_with (at_builtin; refine wpList_append_own_at _ rfl _ _ 35 rfl W1.heap.size 24 i0 _ 3 24 Try.underlying35 hi0 hz0 hz1 hz2 rfl (by decide) _ (j + q) (tksCells (((D.toks t).drop a).take (j + q))) rfl HO.out.1 ⟨W4.heap.size, 0, none⟩ 1 1 [.int .u8 tk, .int .i64 tw, .int .i64 tl] rfl rfl HO.out.2.1 (fun u hu => by
                    simp only [List.mem_cons, List.not_mem_nil, or_false] at hu
                    rcases hu with rfl | rfl | rfl <;> rfl) (by unfold maxLen; omega) (by omega) HO.out.2.2 ?_; intro v4 w4 own4 hg4 _ hat4; have HG := Lib.hid (And.intro own4 (And.intro hg4 hat4)); have z5 : w4.cell? ⟨N4, 1, none⟩ = some (.int .i64 (tw : Int)) := (by rw [Lib.cell_of_heap (HN4.out w4 hg4)]; rfl); clear own4 hg4 hat4)
                have hq1 : j + (q + 1) = j + q + 1 := by omega
                have own5 : w4.ownsRow W1.heap.size 24 3 v4 (j + (q + 1)) (tksCells (((D.toks t).drop a).take (j + (q + 1)))) := by
                  rw [hq1, HX.out.2.2.2, tksCells_snoc]
                  exact HG.out.1
                have hb4 : Below W1.heap.size W1 w4 := (H4.out.1.alloc H4.out.1.size _).grown HG.out.2.1 (by have := H4.out.1.size; rw [World.size_alloc]; omega) (fun k hk => (HO.out.1.lt k hk).1)
                have hk4 : KeepI lo w2 w4 := HK4.out w4 v4 HG.out.2.1
                have hf4 : FarR lo w2.heap.size v4 := HF4.out v4 HG.out.2.2
                have HR5 := Lib.hid (And.intro hb4 (And.intro hk4 (And.intro hf4 (And.intro own5 (And.intro HN5.out (And.intro HX.out.2.2.1.symm HRx.out.2))))))
                clear own5 hb4 hk4 hf4
                go_wp2_with fail
                go_roundg (n2 - (q + 1))
                case measure => omega
                case rel => exact ⟨q + 1, n, p + tw, x, by omega, by go_num, rfl, rfl, rfl, by go_num, by omega, HR5.out.2.2.2.1, Lib.hid ⟨HR5.out.1, HR5.out.2.1, HR5.out.2.2.1, HR5.out.2.2.2.2.1, by rw [hq1]; exact HR5.out.2.2.2.2.2.1, HR5.out.2.2.2.2.2.2⟩⟩
        · have q1 : ¬ (q : Int) < (n2 : Int) := by omega
          have hqn : q = n2 := by omega
          subst hqn
          have HQ := Lib.hid HW3.out
          have HO5 := Lib.hid HOwn.out
          have hz9 : p < t.size → z * 2 ≤ 64000 := by intro _; omega
          have HZ := Lib.hid (show p < t.size → z * 2 ≤ 32000 from fun hp => by
            by_cases hrz : r.size ≤ z
            · have h1 := HFull.out hrz
              have h2 := HQ.out.2.2.2.2.1
              have h3 := D.bg_len t
              rw [← h1, show a + j + q = a + (j + q) by omega, ← h2] at h3
              omega
            · have := HRes.out.2.1
              omega)
          have hjq : j + q ≤ 16000 := by omega
          clear HW3 HOwn hq hz9
          go_wp2_with fail
          go_roundg (65536 - z * 2)
          case measure => omega
          case rel => exact ⟨j + q, n, p, x, z * 2, by omega, rfl, rfl, rfl, rfl, by go_num, ⟨by omega, by omega, HZ.out⟩, ⟨hbd.1, hbd.2.1, hbd.2.2, hjq⟩, HO5.out, Lib.hid ⟨HQ.out.1, HQ.out.2.2.2.1, HQ.out.2.2.2.2.1, HQ.out.2.2.2.2.2⟩⟩
    · have j1 : ¬ (p : Int) < (t.size : Int) := by omega
      have hlt : ¬ a + j < (D.toks t).length := by
        rw [← D.bg_lt_iff t HW.out.2.1.1, ← HW.out.2.2.1]; exact hpt
      have HN := Lib.hid (D.Rn.done HA.out HW.out.2.1 hlt)
      clear hlt hpt hown
      go_wp2_with fail
      try rw [Exit.noGoto_ret]
      go_ret2
      exact scan_out9 HN.out HOwn.out (by omega) HFT.out (HB1.out.trans (HW.out.1.mono HB1.out.size))
end Ytglanajglhneeaa
end Go.Proofs
