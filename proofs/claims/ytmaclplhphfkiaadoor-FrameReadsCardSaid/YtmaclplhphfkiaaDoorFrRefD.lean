/- The document's own answer: all messages of bytes, and what their reader dies of. Conditions: a string of at most 10^6 bytes. -/
import Derived.Test.YtmaclplhphfkiaaDoorFrRefC
namespace Go.Proofs.YtmaclplhphfkiaaDoor
open Go Go.RowKit Go.Lib F

def OfOut (b : Bs) (w : World) (e : Ending) (w' : World) : Prop :=
  ∃ v, e = .returned (.tuple #[v, .int .i64 ((run (.head [], []) b).1.err : Nat)]) ∧ w'.ownsRow w.heap.size 9 1 v (run (.head [], []) b).2.length (strs (run (.head [], []) b).2) ∧ Below w.heap.size w w'
def OfAt (b b' : Bs) (l : List Bs) (v : Value) (w wr : World) : Prop :=
  run (.head [], []) b = run (.head [], l) b' ∧ l.length + b'.length ≤ b.length ∧ wr.ownsRow w.heap.size 9 1 v l.length (strs l) ∧ Below w.heap.size w wr
theorem of_end {b b' : Bs} {l : List Bs} {v : Value} {w wr : World} {st : St} (h : OfAt b b' l v w wr) (hr : run (.head [], l) b' = (st, l)) {w2 : World} (hB : Below wr.heap.size wr w2) : OfOut b w (.returned (.tuple #[v, .int .i64 (st.err : Nat)])) w2 := by
  obtain ⟨h1, _, h3, h4⟩ := h
  rw [hr] at h1
  unfold OfOut
  rw [h1]
  exact ⟨v, rfl, szrow_below h3 hB, h4.trans (hB.mono h4.size)⟩
theorem below_dr {n : Nat} {w W : World} (h : Below n w W) (q : Nat) : Below n w (W.drewN q) := ⟨h.os, h.tape, h.output, h.size, h.block⟩
theorem onward_go' (o : List Bs) (n : Nat) (b : Bs) : run (onward o (n, 0)) b = if n ≤ b.length then run (.head [], o ++ [b.take n]) (b.drop n) else (.body n b, o) := onward_go o n b
set_option maxRecDepth 100000 in
set_option maxHeartbeats 2000000 in
theorem refOf_any (b : Bs) (w : World) (hb : b.length ≤ 1000000) : Calls Tryd.prog 22 #[.string (ba b)] w (OfOut b w) := by
  obtain ⟨iS, hiS, hzS0, hzS1, hzS2⟩ := info_parts fS
  have H0 := Lib.hid (show OfAt b b [] (.slice none 0 0) w w from ⟨rfl, by simp, World.ownsRow_nil _ _ _ _, Below.refl _ _⟩)
  go_enter Tryd.func22, Tryd.ntmps22
  go_wp2_with fail
  go_loopw [0, 4] (fun p v wr => ∃ b' l v', v' = v ∧ p = .string (ba b') ∧ b'.length ≤ b.length ∧ l.length ≤ b.length ∧ Hid (OfAt b b' l v' w wr)) (fun p _ _ => match p with | .string s => s.size | _ => 0)
  case atStart => exact ⟨b, [], _, rfl, rfl, Nat.le_refl _, Nat.zero_le _, H0⟩
  case round =>
    obtain ⟨b', l, v, rfl, rfl, hb', hll, HO⟩ := hrel
    have hh := refHead_any b' wr (by omega)
    have hsz := ba_size b'
    go_wp2_with fail
    refine hh.mono ?_
    rintro e w1 ⟨hB1, (⟨vl, ls, size, rfl, hrl, hs2, hsb, hl1, hl2, hrun⟩ | ⟨rfl, hrun⟩ | ⟨rfl, hrun⟩)⟩
    · have hln := refLength_any vl ls w1 (RdS.of_row hrl) hl1 (fun x hx => Nat.le_trans (hl2 x hx) (by omega))
      have hrun := hrun l
      have hlb := told_bd (sizes ls)
      have hlb2 : ((lentold ls).2 = 0 ∧ (lentold ls).1 ≤ 262144) ∨ ((lentold ls).2 = 50 ∨ (lentold ls).2 = 51) := by
        unfold lentold
        split
        · rcases hlb with h | h
          · exact .inl h
          · exact .inr h.2
        · exact .inr (.inl rfl)
      unfold LenOut at hln
      obtain ⟨⟨n, e2⟩, hne⟩ : ∃ y, lentold ls = y := ⟨_, rfl⟩
      rw [hne] at hln hrun hlb2
      simp only at hln hlb2
      obtain ⟨zl, cl, rfl, hcl, -⟩ := RdS.of_row hrl
      have hsI : ((size : Int) == 0) = false := by simp; omega
      clear hlb hne hl2 hh
      by_cases he0 : e2 = 0
      · subst he0
        have hnb : n ≤ 262144 := by rcases hlb2 with h | h; exact h.2; omega
        rw [onward_go'] at hrun
        have hdl : (b'.drop size).length = b'.length - size := List.length_drop
        rw [hdl] at hrun
        by_cases hnl : n ≤ b'.length - size
        · rw [if_pos hnl] at hrun
          have hnI : ¬ (b'.length : Int) - (size : Int) < (n : Int) := by omega
          have hx1 := ext_mid b' size (size + n) (by omega)
          rw [Nat.add_sub_cancel_left] at hx1
          have hx2 := ext_drop b' (size + n)
          rw [hsz] at hx2
          obtain ⟨y, hy⟩ : ∃ y, (b'.drop size).take n = y := ⟨_, rfl⟩
          obtain ⟨r, hr⟩ : ∃ r, b'.drop (size + n) = r := ⟨_, rfl⟩
          rw [hy] at hx1 hrun
          rw [hr] at hx2
          rw [List.drop_drop, hr] at hrun
          have hrlen : r.length = b'.length - (size + n) := by rw [← hr, List.length_drop]
          have hO2 := fun W (hW : Below wr.heap.size wr W) => szrow_below HO.out.2.2.1 hW
          have hBw := HO.out.2.2.2
          have hll2 := HO.out.2.1
          have hrn := HO.out.1
          have HRN := Lib.hid (hrn.trans hrun)
          clear hy hr hrun hrl hrn
          go_wp2_with fail
          refine hln.mono ?_
          rintro e w2 ⟨rfl, q, rfl⟩
          have hB2 : Below wr.heap.size wr (w1.drewN q) := below_dr hB1 q
          have hrow := hO2 _ hB2
          have HN := Lib.hid (heap_alloc_new (w1.drewN q) (.cells #[.string (ba y)] 9))
          have hs12 : w.heap.size ≤ (w1.drewN q).heap.size := Nat.le_trans hBw.size hB2.size
          have HBB := Lib.hid (hBw.trans (hB2.mono hBw.size))
          have hi1 : (size : Int) ≤ (b'.length : Int) := by omega
          have hi2 : (size : Int) + (n : Int) ≤ (b'.length : Int) := by omega
          clear hln hB1 hB2 hO2 hBw
          go_wp2_with (at_builtin; refine wpList_append_own _ rfl _ _ 46 rfl w.heap.size 9 iS _ 1 16 Tryd.underlying46 hiS hzS0 hzS1 hzS2 rfl (by decide) v l.length (strs l) rfl (hrow.alloc _) ⟨(w1.drewN q).heap.size, 0, none⟩ 1 1 [.string (ba y)] rfl rfl (fun j u hj => World.news_of_block (cs := #[.string (ba y)]) (t := 9) (fr := (0, 0)) HN.out j u hj) (fun u hu => by rw [List.mem_singleton.1 hu]; rfl) (by unfold maxLen; omega) (by omega) (by rw [World.size_alloc]; omega) ?_)
          intro v' w3 hown3 hgrow3 _
          have HF := Lib.hid (show OfAt b r (l ++ [y]) v' w w3 from ⟨HRN.out, by rw [List.length_append, List.length_singleton]; omega, by rw [List.length_append, List.length_singleton, strs_append]; exact hown3,
            ((HBB.out.alloc hs12 _).grown hgrow3 (by rw [World.size_alloc]; omega) (fun c hc => ((hrow.alloc (.cells #[.string (ba y)] 9)).lt c hc).1))⟩)
          clear hown3 hgrow3 HN hrow
          go_wp2_with fail
          go_roundw
          case rel => exact ⟨r, l ++ [y], _, rfl, by first | rw [← hx2] | rfl, by omega, by rw [List.length_append, List.length_singleton]; omega, HF⟩
          case measure =>
            have hrs := ba_size r
            simp [hx2, hrs, hsz]; omega
        · rw [if_neg hnl] at hrun
          have hnI : (b'.length : Int) - (size : Int) < (n : Int) := by omega
          have HF := Lib.hid (fun q => of_end HO.out hrun (below_dr hB1 q))
          clear hrun hB1 hrl
          go_wp2_with fail
          refine hln.mono ?_
          rintro e w2 ⟨rfl, q, rfl⟩
          go_wp2_with fail
          go_ret2
          exact HF.out q
      · rw [onward_dead l n e2 _ he0] at hrun
        have heI : ((e2 : Int) != 0) = true := by simp; omega
        have HF := Lib.hid (fun q => of_end HO.out hrun (below_dr hB1 q))
        clear hrun hB1 hrl hlb2
        go_wp2_with fail
        refine hln.mono ?_
        rintro e w2 ⟨rfl, q, rfl⟩
        go_wp2_with fail
        go_ret2
        exact HF.out q
    · have HF := Lib.hid (of_end HO.out (hrun l) hB1)
      clear hB1 hrun hh
      go_wp2_with fail
      go_ret2
      exact HF.out
    · have HF := Lib.hid (of_end HO.out (hrun l) hB1)
      clear hB1 hrun hh
      go_wp2_with fail
      go_ret2
      exact HF.out
end Go.Proofs.YtmaclplhphfkiaaDoor
