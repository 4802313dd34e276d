/- The reference's message under way: its fields so far, in a row of its own. Conditions: none. -/
import Derived.Test.YtepjomdjkoaofaaDoorMM28
import Derived.Test.YtepjomdjkoaofaaDoorMM23
namespace Go.Proofs.YtepjomdjkoaofaaDoor
open Go Go.RowKit Go.Lib

structure Msg (w : World) (lo rb B8 g8 n cap : Nat) (es : List Fe) (W : World) : Prop where
  below : Below w.heap.size w W
  size : lo ≤ W.heap.size
  brb : Blk4 W rb 25 (.int .u8 0) (.string ⟨#[]⟩) (.slice none 0 0) (.slice none 0 0)
  b8 : Blk4 W B8 25 (.int .u8 6) (.string ⟨#[]⟩) (.slice none 0 0) (.slice (some ⟨g8, 0, none⟩) n cap)
  own : W.ownsRow lo 50 5 (.slice (some ⟨g8, 0, none⟩) n cap) n (cellsOf es)
  ok : ∀ e ∈ es, e.Ok W (fun b => lo ≤ b ∧ b ≠ B8 ∧ b ≠ g8)
  len : n = es.length
  wlo : w.heap.size ≤ rb
  rlo : rb < lo
  lo8 : lo ≤ B8
  ne8 : g8 ≠ B8
theorem Msg.on {w : World} {lo rb B8 g8 n cap : Nat} {es : List Fe} {W W' : World} (h : Msg w lo rb B8 g8 n cap es W) (hB : Below W.heap.size W W') : Msg w lo rb B8 g8 n cap es W' :=
  ⟨h.below.trans (hB.mono h.below.size), Nat.le_trans h.size hB.size, h.brb.same (hB.block _ h.brb.lt), h.b8.same (hB.block _ h.b8.lt), ownsRow_below h.own hB, fun e he => (h.ok e he).below hB, h.len, h.wlo, h.rlo, h.lo8, h.ne8⟩
/-- behind the append of fields and the store of the new row -/
theorem Msg.app {w : World} {lo rb B8 g8 n cap : Nat} {es : List Fe} {W w4 : World} (h : Msg w lo rb B8 g8 n cap es W) {es2 : List Fe} {gg n2 cap2 : Nat} (ok : ∀ e ∈ es2, e.Ok W (fun b => lo ≤ b ∧ b ≠ B8 ∧ b ≠ g8)) (hn : n2 = (es ++ es2).length)
    (own : w4.ownsRow lo 50 5 (.slice (some ⟨gg, 0, none⟩) n2 cap2) n2 (cellsOf es ++ cellsOf es2)) (hg : W.grownBy w4 (some g8)) (hat : some g8 = some gg ∨ gg = W.heap.size) :
    Blk4 w4 B8 25 (.int .u8 6) (.string ⟨#[]⟩) (.slice none 0 0) (.slice (some ⟨g8, 0, none⟩) n cap) ∧ Msg w lo rb B8 gg n2 cap2 (es ++ es2) (w4.setCell ⟨B8, 3, none⟩ (.slice (some ⟨gg, 0, none⟩) n2 cap2)) := by
  have h1 := (h.own.lt g8 rfl).1
  have h2 := h.lo8
  have h3 := h.rlo
  have h4 := h.wlo
  have h5 := h.ne8
  have h6 := h.b8.lt
  have hb4 := h.b8.same (hg.block _ h.b8.lt (fun e => by cases e; exact h5 rfl))
  have hggB : gg ≠ B8 := by
    rcases hat with e | e
    · have e2 : g8 = gg := Option.some.inj e
      omega
    · omega
  have hset : ∀ b, b ≠ B8 → (w4.setCell ⟨B8, 3, none⟩ (.slice (some ⟨gg, 0, none⟩) n2 cap2)).heap[b]? = w4.heap[b]? := fun b hb => Below.heap_setCell _ _ _ b hb
  have hok : ∀ e : Fe, e.Ok W (fun b => lo ≤ b ∧ b ≠ B8 ∧ b ≠ g8) → e.Ok (w4.setCell ⟨B8, 3, none⟩ (.slice (some ⟨gg, 0, none⟩) n2 cap2)) (fun b => lo ≤ b ∧ b ≠ B8 ∧ b ≠ gg) := fun e he =>
    he.imp (fun b hb hlt => ⟨hb.1, hb.2.1, by
      rcases hat with e | e
      · have e2 : g8 = gg := Option.some.inj e
        have := hb.2.2
        omega
      · omega⟩) (fun b hb hlt => (hset b hb.2.1).trans (hg.block b hlt (fun e => hb.2.2 (Option.some.inj e))))
  refine ⟨hb4, (h.below.grown hg (by have := h.size; omega) (fun k hk => by cases hk; omega)).setCell (by show _ ≤ B8; omega) _, Nat.le_trans h.size (Nat.le_trans hg.size (by simp)), (h.brb.same (hg.block _ h.brb.lt (fun e => by cases e; omega))).else (by omega), hb4.set3 _, ?_, fun e he => ?_, hn, h4, h3, h2, hggB⟩
  · rw [cellsOf_append]
    refine ⟨own.1, ?_⟩
    rcases own.2 with ⟨e, _⟩ | ⟨g, c, cur, e, hb, hr, r⟩
    · cases e
    · cases e
      exact .inr ⟨gg, cap2, cur, rfl, hb, (hset gg hggB).trans hr, r⟩
  · rcases List.mem_append.1 he with he | he
    · exact hok e (h.ok e he)
    · exact hok e (ok e he)
/-- a message that has begun -/
theorem Msg.begin {w : World} {lo rb g8 : Nat} {v u : Value} {W : World} (hb : Below w.heap.size w W) (hs : lo ≤ W.heap.size) (brb : Blk4 W rb 25 (.int .u8 0) (.string ⟨#[]⟩) (.slice none 0 0) (.slice none 0 0))
    (own : W.ownsRow lo 50 5 (.slice (some ⟨g8, 0, none⟩) 1 1) 1 (cellsOf [verG v u])) (n1 : HS W (fun _ => True) 0 v .nil) (n2 : HS W (fun _ => True) 1 u .nil) (wlo : w.heap.size ≤ rb) (rlo : rb < lo) :
    Msg w lo rb W.heap.size g8 1 1 [verG v u] (W.alloc (.cells #[.int .u8 6, .string ⟨#[]⟩, .slice none 0 0, .slice (some ⟨g8, 0, none⟩) 1 1] 25)) := by
  have hB := (Below.refl W.heap.size W).alloc (Nat.le_refl _) (.cells #[.int .u8 6, .string ⟨#[]⟩, .slice none 0 0, .slice (some ⟨g8, 0, none⟩) 1 1] 25)
  have hlt := (own.lt g8 rfl).2
  refine ⟨hb.trans (hB.mono hb.size), Nat.le_trans hs hB.size, brb.same (hB.block _ brb.lt), heap_alloc_new _ _, ownsRow_below own hB, fun e he => ?_, rfl, wlo, rlo, hs, by omega⟩
  cases List.mem_singleton.1 he
  exact ⟨hs_nil_any n1, hs_nil_any n2, by show (4 : Nat) < 256; decide, by show (3 : Nat) ≤ _; decide, by show (7 : Nat) ≤ _; decide⟩
theorem Msg.hs {w : World} {lo rb B8 g8 n cap : Nat} {es : List Fe} {W : World} (h : Msg w lo rb B8 g8 n cap es W) (hn : n ≤ 100) : HS W (fun b => lo ≤ b) 1 (.slice (some ⟨g8, 0, none⟩) n cap) (treeOf es) := by
  have h1 := (h.own.lt g8 rfl).1
  have hl := h.len
  refine Lies.hs (lies_owned h.len h.own) (fun e he => (h.ok e he).mono (fun b hb _ => hb.1)) (fun b hb => ?_) (by omega)
  cases hb
  exact h1
end Go.Proofs.YtepjomdjkoaofaaDoor

namespace Go.Proofs.YtepjomdjkoaofaaDoor
open Go Go.RowKit Go.Lib

/-- the first place of a byte from i on, or -1 -/
def ix8 (x : Nat) : List Nat → Nat → Int
  | [], _ => -1
  | z :: r, i => if z = x then i else ix8 x r (i + 1)
theorem ix8_has (x : Nat) : ∀ (l : List Nat) (i : Nat), decide (0 ≤ ix8 x l i) = decide (x ∈ l)
  | [], _ => by simp [ix8]
  | z :: r, i => by
    unfold ix8
    by_cases h : z = x
    · rw [if_pos h]; subst h; simp
    · rw [if_neg h, ix8_has x r (i + 1)]
      have h2 : ¬ x = z := fun e => h e.symm
      simp [h2]
def SameW (w w' : World) : Prop := w' = w
theorem SameW.refl (w : World) : SameW w w := rfl
theorem ix8_on {x : Nat} {l : List Nat} {i : Nat} (h : i < l.length) : ix8 x (l.drop i) i = if l.getD i 0 = x then (i : Int) else ix8 x (l.drop (i + 1)) (i + 1) := by
  rw [List.drop_eq_getElem_cons h, List.getD_eq_getElem?_getD, List.getElem?_eq_getElem h]
  rfl

set_option maxHeartbeats 1000000 in
set_option maxRecDepth 100000 in
theorem index8_any (b o n c : Nat) (l : List Nat) (x : Nat) (w : World) (hn : l.length = n) (hc : n ≤ c ∧ c ≤ 9223372036854775807) (hz : ∀ j, j < n → w.cell? ⟨b, o + j, none⟩ = some (.int .u8 (l.getD j 0 : Nat))) :
    Calls Tryd.prog 93 #[.slice (some ⟨b, o, none⟩) n c, .int .u8 x] w (fun e w' => e = .returned (.int .i64 (ix8 x l 0)) ∧ SameW w w') := by
  have HZ := Lib.hid hz
  have HN := Lib.hid hn
  clear hz hn
  go_enter Tryd.func93, Tryd.ntmps93
  go_wp2_with fail
  go_loopw [8] (fun p wr => ∃ i : Nat, p = .int .i64 i ∧ i ≤ n ∧ Hid (SameW w wr ∧ ix8 x (l.drop i) i = ix8 x l 0)) (fun p _ => n - (RowKit.intOf p).toNat)
  case atStart => exact ⟨0, rfl, Nat.zero_le _, Lib.hid ⟨SameW.refl _, rfl⟩⟩
  case round =>
    obtain ⟨i, rfl, hi, HR⟩ := hrel
    by_cases hlt : i < n
    · have hx := HR.out.2
      obtain rfl : wr = w := HR.out.1
      rw [ix8_on (by rw [HN.out]; exact hlt)] at hx
      have c1 := HZ.out i hlt
      generalize l.getD i 0 = z at *
      have HL := Lib.hid hlt
      by_cases hzx : z = x
      · subst hzx
        rw [if_pos rfl] at hx
        have t1 : ((z : Int) == z) = true := by simp
        have HX := Lib.hid hx
        clear hx HR
        go_wp2_with fail
        go_ret
        exact ⟨by rw [← HX.out]; rfl, SameW.refl _⟩
      · rw [if_neg hzx] at hx
        have t1 : ((x : Int) == z) = false := by simp; omega
        have HX := Lib.hid hx
        clear hx HR hzx
        go_wp2_with fail
        go_roundw
        case rel => exact ⟨i + 1, by go_num, HL.out, Lib.hid ⟨SameW.refl _, HX.out⟩⟩
        case measure => have := HL.out; simp [RowKit.intOf]; omega
    · obtain rfl : i = n := by omega
      have hx := HR.out.2
      obtain rfl : wr = w := HR.out.1
      rw [← HN.out, List.drop_length] at hx
      have HX := Lib.hid hx
      clear hx HR
      go_wp2_with fail
      go_ret
      exact ⟨by rw [← HX.out]; rfl, SameW.refl _⟩
set_option maxHeartbeats 1000000 in
set_option maxRecDepth 100000 in
theorem contains8_any (b o n c : Nat) (l : List Nat) (x : Nat) (w : World) (hn : l.length = n) (hc : n ≤ c ∧ c ≤ 9223372036854775807) (hz : ∀ j, j < n → w.cell? ⟨b, o + j, none⟩ = some (.int .u8 (l.getD j 0 : Nat))) :
    Calls Tryd.prog 79 #[.slice (some ⟨b, o, none⟩) n c, .int .u8 x] w (fun e w' => e = .returned (.bool (decide (x ∈ l))) ∧ SameW w w') := by
  have HI := Lib.hid (index8_any b o n c l x w hn hc hz)
  have HB := Lib.hid (ix8_has x l 0)
  clear hz hn hc
  go_enter Tryd.func79, Tryd.ntmps79
  go_wp2_with fail
  refine HI.out.mono ?_
  rintro e w1 ⟨rfl, hs⟩
  obtain rfl : w1 = w := hs
  go_wp2_with fail
  go_ret
  exact ⟨by rw [← HB.out]; rfl, SameW.refl _⟩
set_option maxHeartbeats 1000000 in
set_option maxRecDepth 100000 in
theorem isOf_any (k : Nat) (x : ByteArray) (v u : Value) (l f : V.T) (A : Nat → Prop) (b n c : Nat) (ks : List Nat) (w : World) (hl : HS w A 0 v l) (hf : HS w A 1 u f) (hn : ks.length = n) (hc : n ≤ c ∧ c ≤ 9223372036854775807) (hb : b < w.heap.size) (hz : ∀ j, j < n → w.cell? ⟨b, 0 + j, none⟩ = some (.int .u8 (ks.getD j 0 : Nat))) :
    Calls Tryd.prog 66 #[.agg #[.int .u8 k, .string x, v, u], .slice (some ⟨b, 0, none⟩) n c] w (fun e w' => e = .returned (.bool (decide (k ∈ ks))) ∧ Below w.heap.size w w') := by
  obtain ⟨p, d, rfl, -⟩ := hl.len
  obtain ⟨q, g, rfl, -⟩ := hf.len
  have hB := (Below.refl w.heap.size w).alloc (Nat.le_refl _) (.cells #[.int .u8 k, .string x, .slice p l.len d, .slice q f.len g] 25)
  have HC := Lib.hid (contains8_any b 0 n c ks k (w.alloc (.cells #[.int .u8 k, .string x, .slice p l.len d, .slice q f.len g] 25)) hn hc (fun j hj => (hB.cell (p := ⟨b, 0 + j, none⟩) hb).trans (hz j hj)))
  have HB := Lib.hid hB
  clear hl hf hz hB hn hc
  go_enter Tryd.func66, Tryd.ntmps66
  go_wp2_with fail
  refine HC.out.mono ?_
  rintro e w1 ⟨rfl, hs⟩
  obtain rfl : w1 = _ := hs
  go_wp2_with fail
  go_ret
  exact ⟨rfl, HB.out⟩
end Go.Proofs.YtepjomdjkoaofaaDoor
