/- All, the document's. Conditions: a string of at most 10^12 bytes. -/
import Derived.Test.YtglanajglhneeaaMX27
import Derived.Test.YtglanajglhneeaaMX32
namespace Go.Proofs
open Go Go.RowKit Go.Lib
namespace Ytglanajglhneeaa
theorem row_below {w w' : World} {base : Nat} {e : TypeId} {size n : Nat} {v : Value} {xs : List Value} (h : w.ownsRow base e size v n xs) (hB : Below w.heap.size w w') : w'.ownsRow base e size v n xs := h.kept (grown_below hB) (by cases hv : v.ownBlock <;> simp)
def OwnTk (ts : List D.Tk) (w : World) (e : Ending) (w' : World) : Prop := ∃ v, e = .returned v ∧ w'.ownsRow w.heap.size 24 3 v ts.length (tksCells ts) ∧ Below w.heap.size w w'
set_option maxHeartbeats 2000000 in
set_option maxRecDepth 100000 in
theorem refAll_any (s : ByteArray) (hs : s.size ≤ 1000000000000) (w : World) : Calls Try.prog 11 #[.string s] w (OwnTk (D.toks s) w) := by
  obtain ⟨i0, hi0, hz0, hz1, hz2⟩ := info_parts infoTok
  have HOne := Lib.hid (fun p hp W => one_any s p hp (by omega) W)
  have HSc := Lib.hid (fun p hp W => refScan_any s p hp (by omega) W)
  go_enter Try.func11, Try.ntmps11
  go_wp2_with fail
  go_loopw [3, 4] (fun u q wr => ∃ (pre : List D.Tk) (i : Nat), q = .int .i64 i ∧ i ≤ s.size ∧ pre.length ≤ 1000000000000 ∧ wr.ownsRow w.heap.size 24 3 u pre.length (tksCells pre) ∧ Hid (Below w.heap.size w wr ∧ D.At s pre i)) (fun _ q _ => s.size - (RowKit.intOf q).toNat)
  case atStart => exact ⟨[], 0, rfl, Nat.zero_le _, by decide, World.ownsRow_nil _ _ _ _, Lib.hid ⟨Below.refl _ _, D.At.begin s⟩⟩
  case round =>
    obtain ⟨pre, i, rfl, hi, hpl, hown, HW⟩ := hrel
    by_cases hlt : i < s.size
    · have j1 : (i : Int) < (s.size : Int) := by omega
      have j0 : (0 : Int) ≤ (i : Int) := Int.natCast_nonneg i
      have h1 := HOne.out i hlt
      have h2 := HSc.out i hlt
      have hat := D.tok_at hlt
      have HN := Lib.hid (HW.out.2.step hlt)
      generalize D.tok (s.extract i s.size) = t at *
      obtain ⟨tk, tw, tl⟩ := t
      simp only at h1 hat HN
      generalize hn : i + tw = n1 at *
      have e1 : (n1 : Int) - (i : Int) = (tw : Int) := by omega
      have n1s : n1 ≤ s.size := by omega
      have HAT := Lib.hid (And.intro hlt (And.intro hat (And.intro hn e1)))
      have HOwn := Lib.hid hown
      clear hat hn e1 hown
      go_wp2_with fail
      refine (h1 _).mono ?_
      rintro e w1 ⟨rfl, hb1⟩
      go_wp2_with fail
      refine (h2 _).mono ?_
      rintro e w2 ⟨rfl, hb2⟩
      have hb12 : Below wr.heap.size wr w2 := hb1.trans (hb2.mono hb1.size)
      have rN : TokRow (w2.alloc (.cells #[.int .u8 tk, .int .i64 tw, .int .i64 tl] 24)) w2.heap.size tk tw tl := heap_alloc_new w2 _
      have hbw : Below w.heap.size w (w2.alloc (.cells #[.int .u8 tk, .int .i64 tw, .int .i64 tl] 24)) := (HW.out.1.trans (hb12.mono HW.out.1.size)).alloc (Nat.le_trans HW.out.1.size hb12.size) _
      have hob := (row_below HOwn.out hb12).alloc (.cells #[.int .u8 tk, .int .i64 tw, .int .i64 tl] 24)
      have H3 := Lib.hid (And.intro rN (And.intro hbw hob))
      clear rN hbw hob hb12 hb1 hb2 h1 h2
      go_upto_region 6 with fail
      generalize w2.alloc _ = W3 at *
      generalize w2.heap.size = N at *
      have c2 := H3.out.1.c2
      have hbase : w.heap.size ≤ (W3.alloc (.cells #[.int .u8 tk, .int .i64 ((n1 : Int) - (i : Int)), .int .i64 tl] 24)).heap.size := by
        rw [World.size_alloc]; have := H3.out.2.1.size; omega
      have hnews : ∀ (j : Nat) (u : Value), [Value.int .u8 (tk : Int), .int .i64 ((n1 : Int) - (i : Int)), .int .i64 (tl : Int)][j]? = some u → (W3.alloc (.cells #[.int .u8 (tk : Int), .int .i64 ((n1 : Int) - (i : Int)), .int .i64 (tl : Int)] 24)).cell? ((⟨W3.heap.size, 0, none⟩ : Addr).add j) = some u := by
        intro j u hu
        have hadd : (⟨W3.heap.size, 0, none⟩ : Addr).add j = ⟨W3.heap.size, j, none⟩ := by unfold Addr.add; split <;> simp_all
        rw [hadd, cell_of_row _ _ j _ _ (0, 0) (heap_alloc_new _ _), ← Array.getElem?_toList]
        exact hu
      have HO := Lib.hid (And.intro (H3.out.2.2.alloc (.cells #[.int .u8 tk, .int .i64 ((n1 : Int) - (i : Int)), .int .i64 tl] 24)) (And.intro hnews hbase))
      have HB9 := Lib.hid (H3.out.2.1.alloc H3.out.2.1.size (.cells #[.int .u8 tk, .int .i64 ((n1 : Int) - (i : Int)), .int .i64 tl] 24))
      clear hnews hbase
      go_wp2_with (at_builtin; refine wpList_append_own _ rfl _ _ 35 rfl w.heap.size 24 i0 _ 3 24 Try.underlying35 hi0 hz0 hz1 hz2 rfl (by decide) _ pre.length (tksCells pre) rfl HO.out.1 ⟨W3.heap.size, 0, none⟩ 1 1 [.int .u8 tk, .int .i64 ((n1 : Int) - (i : Int)), .int .i64 tl] rfl rfl HO.out.2.1 (fun u hu => by
          simp only [List.mem_cons, List.not_mem_nil, or_false] at hu
          rcases hu with rfl | rfl | rfl <;> rfl) (by unfold maxLen; omega) (by omega) HO.out.2.2 ?_; intro v4 w4 own4 hg4 _)
      have own5 : w4.ownsRow w.heap.size 24 3 v4 (pre ++ [(⟨tk, tw, tl⟩ : D.Tk)]).length (tksCells (pre ++ [⟨tk, tw, tl⟩])) := by
        rw [tksCells_snoc, List.length_append]
        rw [HAT.out.2.2.2] at own4
        exact own4
      have hb4 := HB9.out.grown hg4 HB9.out.size (fun k hk => (HO.out.1.lt k hk).1)
      have HF := Lib.hid (And.intro own5 hb4)
      have hat5 := HN.out
      clear own4 own5 hg4 hb4
      go_wp2_with fail
      go_roundw
      case rel => exact ⟨pre ++ [⟨tk, tw, tl⟩], n1, rfl, n1s, by have := hat5.2.1; omega, HF.out.1, Lib.hid ⟨HF.out.2, hat5⟩⟩
      case measure => have := HAT.out; simp [RowKit.intOf]; omega
    · have j1 : ¬ (i : Int) < (s.size : Int) := by omega
      have hd := HW.out.2.done hlt
      subst hd
      have HO := Lib.hid hown
      clear hown
      go_wp2_with fail
      go_ret
      exact ⟨_, rfl, HO.out, HW.out.1⟩
end Ytglanajglhneeaa
end Go.Proofs
