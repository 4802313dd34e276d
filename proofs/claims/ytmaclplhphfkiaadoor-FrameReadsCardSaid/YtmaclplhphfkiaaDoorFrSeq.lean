/- The library's iterator over the parts of a string between 0D 0A: what its call does, round by round. Conditions: a string of at most 10^6 bytes; the library's own variable holds a number. -/
import Derived.RangeFuncNested
import Derived.RangeFuncBound
import Derived.RangeFuncBox
import Derived.RangeFuncCalls
import Derived.RangeFuncLeaves
import Derived.Shelf.Abstract
import Derived.Shelf.RegionOpen
import Derived.OwnWalkIn
import Derived.TacticsInMore
import Derived.LoopNIn
import Derived.LoopIn
import Derived.Shelf.Strings.Search3
import Derived.Test.YtmaclplhphfkiaaDoorFrRange
import Derived.Test.YtmaclplhphfkiaaDoorFrSpl
import Derived.Test.YtmaclplhphfkiaaDoorFrName
import Derived.Test.YtmaclplhphfkiaaDoorFrLaysS
namespace Go.Proofs.YtmaclplhphfkiaaDoor
open Go Go.RowKit Go.Shelf Go.Lib F

attribute [local go_sem] Oper.semAt_some

namespace F
theorem ext_take (l : Bs) (i : Nat) (h : i ≤ l.length) : (ba l).extract 0 i = ba (l.take i) := by
  apply ByteArray.ext
  rw [ByteArray.data_extract]
  show l.toArray.extract 0 i = (l.take i).toArray
  simp [List.extract_toArray, List.extract_eq_take_drop]
theorem ext_drop (l : Bs) (i : Nat) : (ba l).extract i (ba l).size = ba (l.drop i) := by
  apply ByteArray.ext
  rw [ByteArray.data_extract]
  show l.toArray.extract i (ba l).size = (l.drop i).toArray
  rw [ba_size]
  simp only [List.extract_toArray, List.extract_eq_take_drop]
  rw [List.take_of_length_le (by simp)]
end F
/-- some blocks lie as they lay -/
def KeepB (S : Nat → Prop) (W W' : World) : Prop := ∀ k, S k → W'.heap[k]? = W.heap[k]?
theorem keepB_t {S : Nat → Prop} {A B C : World} (h : KeepB S A B) (k : KeepB S B C) : KeepB S A C := fun b hb => (k b hb).trans (h b hb)
theorem keepB_put {S : Nat → Prop} {n : Nat} (hS : ∀ k, S k → k < n) (W : World) (l : Nat) (o : Obj) (h : n ≤ l) : KeepB S W (W.putObj l o) := fun k hk => World.putObj_heap_other (by have := hS k hk; omega)
/-- the iterator's own four blocks -/
def SeqB (bS bP bK : Nat) (k : Nat) : Prop := k = bS ∨ k = bP ∨ k = bK ∨ k = 10
def szAt (b : Nat) (W : World) : Nat := match W.cell? ⟨b, 0, none⟩ with | some (.string s) => s.size | _ => 0
theorem szAt_is {b : Nat} {W : World} {t : TypeId} {s : ByteArray} (h : Boxed W b t (.string s)) : szAt b W = s.size := by unfold szAt; rw [h.cell]
theorem cell_block {W W' : World} {a : Addr} {v : Value} (h : W.cell? a = some v) (hk : W'.heap[a.block]? = W.heap[a.block]?) : W'.cell? a = some v := (World.cell?_of_block hk).trans h

set_option maxRecDepth 100000 in
set_option maxHeartbeats 1000000 in
theorem split1_in (n l bS bP bK : Nat) (hn : 1 ≤ n) (s : Bs) (hs : s.length ≤ 1000000) (hSP : bS ≠ bP) (hSK : bS ≠ bK) (hSG : bS ≠ 10) (J Jx : List Bs → World → Prop) (hJ : Leaves bS J)
    (hY : ∀ pre x W, J pre W → pre ++ [x] <+: spl s → YieldAt Fence.wide (n - 1) Tryd.prog l #[.string (ba x)] W fun e W' =>
      (e = .returned (.bool true) ∧ J (pre ++ [x]) W' ∧ KeepB (SeqB bS bP bK) W W') ∨ (e = .returned (.bool false) ∧ Jx (pre ++ [x]) W'))
    (W : World) (hbS : Boxed W bS 9 (.string (ba s))) (hbP : Boxed W bP 9 (.string ⟨#[13, 10]⟩)) (hbK : Boxed W bK 3 (.int .i64 0)) (hE : ∃ m, W.cell? ⟨10, 0, none⟩ = some (.int .i64 m)) (h0 : J [] W) :
    CallsIn Fence.wide n Tryd.prog 171 #[.func (.yield l) #[] #[], .pointer (some ⟨bP, 0, none⟩), .pointer (some ⟨bS, 0, none⟩), .pointer (some ⟨bK, 0, none⟩)] W fun e W' => (∃ v, e = .returned v) ∧
      (J (spl s) W' ∨ (∃ pre, True ∧ Jx pre W')) := by
  obtain ⟨m, hm⟩ := hE
  have c1 := hbP.cell
  refine callsIn_of_wp Tryd.func171 rfl trivial ?_ rfl
  simp only [Tryd.ntmps171, List.size_toArray, List.length_cons, List.length_nil, Nat.reduceAdd, Nat.reduceSub, Array.replicate_succ, Array.replicate_zero, List.push_toArray, List.append_toArray, List.nil_append, List.cons_append]
  have H0 := Lib.hid (And.intro hbS (And.intro hbP (And.intro hbK hm)))
  clear hbS hbP hbK hm
  gi_wp2
  clear c1
  gi_loopw [7, 8] (fun p q wr => ∃ pre r, spl s = pre ++ spl r ∧ r.length ≤ s.length ∧ J pre wr ∧ Hid (Boxed wr bS 9 (.string (ba r)) ∧ Boxed wr bP 9 (.string ⟨#[13, 10]⟩) ∧ Boxed wr bK 3 (.int .i64 0) ∧ wr.cell? ⟨10, 0, none⟩ = some (.int .i64 m)))
    (fun _ _ wr => szAt bS wr)
  case atStart => exact ⟨[], s, rfl, Nat.le_refl _, h0, H0⟩
  case round =>
    obtain ⟨pre, r, hpre, hrl, hJr, HR⟩ := hrel
    obtain ⟨b1, b2, b3, hm⟩ := HR.out
    have hsz := szAt_is b1
    rw [ba_size] at hsz
    have c1 := b1.cell
    have c2 := b2.cell
    have c3 := b3.cell
    have f1 := b1.frozen
    have hix := fun W hW => Any.strings_Index Tryd.laysIndex (ba r) ⟨#[13, 10]⟩ m W (by rw [ba_size]; omega) hW
    change ∀ W, W.cell? ⟨10, 0, none⟩ = some (.int .i64 m) → Calls Tryd.prog 172 #[.string (ba r), .string ⟨#[13, 10]⟩] W (fun e w' => e = .returned (.int .i64 (Lib.index r [13, 10])) ∧ w' = W) at hix
    have hix := hix wr hm
    have hsp := spl_eq r
    by_cases hlt : Lib.index r [13, 10] < 0
    · rw [if_pos hlt] at hsp
      generalize Lib.index r [13, 10] = z at *
      obtain ⟨fn, tmps, assign, body, hy, hR⟩ := hY pre r wr hJr (by rw [hpre, hsp]; exact List.prefix_rfl)
      have HP := Lib.hid (hpre.trans (by rw [hsp]))
      clear hpre hsp b1 b2 b3 HR hm
      gi_wp2
      refine ⟨trivial, (callsIn_wide.2 hix).mono ?_⟩
      rintro e w' ⟨rfl, rfl⟩
      gi_wp2
      refine hR.mono ?_
      rintro e W3 (⟨rfl, hJ3, -⟩ | ⟨rfl, hJx3⟩)
      · gi_wp2
        exact bodyPost_end (results_none rfl _ _ _) rfl ⟨⟨_, rfl⟩, .inl (by rw [HP.out]; exact hJ3)⟩
      · gi_wp2
        exact bodyPost_end (results_none rfl _ _ _) rfl ⟨⟨_, rfl⟩, .inr ⟨_, trivial, hJx3⟩⟩
    · have hroom := Lib.index_room r [13, 10] (by omega)
      simp only [List.length_cons, List.length_nil] at hroom
      obtain ⟨i, hi⟩ : ∃ i : Nat, Lib.index r [13, 10] = i := ⟨(Lib.index r [13, 10]).toNat, by omega⟩
      rw [if_neg hlt] at hsp
      rw [hi] at hix hsp hroom
      rw [Int.toNat_natCast] at hsp
      clear hlt hi
      have hir : i + 2 ≤ r.length := by omega
      have hbr : (ba r).size = r.length := ba_size r
      obtain ⟨fn, tmps, assign, body, hy, hR⟩ := hY pre (r.take i) wr hJr (by rw [hpre, hsp]; exact ⟨spl (r.drop (i + 2)), by simp⟩)
      rw [← ext_take r i (by omega)] at hy
      have HP := Lib.hid (show spl s = (pre ++ [r.take i]) ++ spl (r.drop (i + 2)) by rw [hpre, hsp]; simp)
      have HB := Lib.hid (And.intro b1 (And.intro b2 (And.intro b3 hm)))
      have hed := ext_drop r (i + 2)
      clear hpre hsp b1 b2 b3 HR hm
      gi_wp2
      refine ⟨trivial, (callsIn_wide.2 hix).mono ?_⟩
      rintro e w' ⟨rfl, rfl⟩
      gi_wp2
      refine hR.mono ?_
      rintro e W3 (⟨rfl, hJ3, hk3⟩ | ⟨rfl, hJx3⟩)
      · have HB3 := Lib.hid (show Boxed W3 bS 9 (.string (ba r)) ∧ Boxed W3 bP 9 (.string ⟨#[13, 10]⟩) ∧ Boxed W3 bK 3 (.int .i64 0) ∧ W3.cell? ⟨10, 0, none⟩ = some (.int .i64 m) from
          ⟨(hk3 _ (.inl rfl)).trans HB.out.1, (hk3 _ (.inr (.inl rfl))).trans HB.out.2.1, (hk3 _ (.inr (.inr (.inl rfl)))).trans HB.out.2.2.1, cell_block HB.out.2.2.2 (hk3 _ (.inr (.inr (.inr rfl))))⟩)
        have d1 := HB3.out.1.cell
        have d2 := HB3.out.2.1.cell
        have g1 := HB3.out.1.frozen
        clear hk3
        gi_wp2
        go_roundw
        case rel =>
          rw [← hbr, hed]
          exact ⟨pre ++ [r.take i], r.drop (i + 2), HP.out, by rw [List.length_drop]; omega, hJ _ _ _ hJ3, Lib.hid ⟨HB3.out.1.set _, HB3.out.2.1.other (fun e => hSP e.symm) _, HB3.out.2.2.1.other (fun e => hSK e.symm) _,
            cell_block HB3.out.2.2.2 (Below.heap_setCell _ _ _ _ (fun e => hSG e.symm))⟩⟩
        case measure =>
          rw [← hbr, hed, szAt_is (HB3.out.1.set _), hsz, ba_size, List.length_drop]
          omega
      · gi_wp2
        refine bodyPost_ret (results_none rfl _ _ _) rfl ?_
        exact ⟨⟨_, rfl⟩, .inr ⟨_, trivial, hJx3⟩⟩
end Go.Proofs.YtmaclplhphfkiaaDoor
