/- What the reader of messages holds: its block, the bytes of the part that has begun, the messages that wait; what may have changed behind a call. Conditions: none. -/
import Derived.Test.YtmaclplhphfkiaaDoorFrBase
import Derived.Test.YtmaclplhphfkiaaDoorFrTail
import Derived.Laws.IdiomStrings
import Derived.Lib.BufferRead
namespace Go.Proofs.YtmaclplhphfkiaaDoor
open Go Go.RowKit Go.Lib

namespace F
def c8 (l : Bs) : List Value := l.map fun u => .int .u8 (u.toNat : Int)
def ba (l : Bs) : ByteArray := ⟨l.toArray⟩
def strs (l : List Bs) : List Value := l.map fun x => .string (ba x)
theorem c8_len (l : Bs) : (c8 l).length = l.length := List.length_map _
theorem strs_len (l : List Bs) : (strs l).length = l.length := List.length_map _
theorem c8_append (a b : Bs) : c8 (a ++ b) = c8 a ++ c8 b := List.map_append
theorem strs_append (a b : List Bs) : strs (a ++ b) = strs a ++ strs b := List.map_append
theorem c8_one (l : Bs) : ∀ u ∈ c8 l, u.oneCell' = true := fun u hu => by
  obtain ⟨x, _, rfl⟩ := List.mem_map.1 hu
  rfl
theorem c8_get {l : Bs} {j : Nat} {u : Value} (h : (c8 l)[j]? = some u) : ∃ x, l[j]? = some x ∧ u = .int .u8 (x.toNat : Int) := by
  unfold c8 at h
  rw [List.getElem?_map] at h
  cases hl : l[j]? with
  | none => rw [hl] at h; cases h
  | some x => rw [hl] at h; exact ⟨x, rfl, (Option.some.inj h).symm⟩
theorem c8_at {l : Bs} {j : Nat} {x : UInt8} (h : l[j]? = some x) : (c8 l)[j]? = some (.int .u8 (x.toNat : Int)) := by
  unfold c8; rw [List.getElem?_map, h]; rfl
end F
open F

/-- all but such blocks is as it was -/
structure Alt (A : Nat → Prop) (w w' : World) : Prop where
  os : w'.os = w.os
  tape : w'.tape = w.tape
  output : w'.output = w.output
  size : w.heap.size ≤ w'.heap.size
  block : ∀ k, k < w.heap.size → ¬ A k → w'.heap[k]? = w.heap[k]?
/-- such blocks, and new ones -/
def Grow (A : Nat → Prop) (w : World) (b : Nat) : Prop := A b ∨ w.heap.size ≤ b
section
variable {A : Nat → Prop} {w w1 w2 : World}
theorem Alt.refl (A : Nat → Prop) (w : World) : Alt A w w := ⟨rfl, rfl, rfl, Nat.le_refl _, fun _ _ _ => rfl⟩
theorem Alt.trans (h : Alt A w w1) (k : Alt (Grow A w) w1 w2) : Alt A w w2 :=
  ⟨k.os.trans h.os, k.tape.trans h.tape, k.output.trans h.output, Nat.le_trans h.size k.size, fun b hb hA => (k.block b (Nat.lt_of_lt_of_le hb h.size) (fun h' => by rcases h' with h' | h'; exact hA h'; omega)).trans (h.block b hb hA)⟩
theorem Alt.imp {B : Nat → Prop} (h : Alt A w w1) (hAB : ∀ b, b < w.heap.size → A b → B b) : Alt B w w1 := ⟨h.os, h.tape, h.output, h.size, fun b hb hB => h.block b hb (fun hA => hB (hAB b hb hA))⟩
theorem Alt.grown {row : Option Nat} (h : w.grownBy w1 row) (hA : ∀ b, row = some b → b < w.heap.size → A b) : Alt A w w1 :=
  ⟨h.os, h.tape, h.output, h.size, fun b hb hn => h.block b hb (fun e => hn (hA b e.symm hb))⟩
theorem Alt.drewN (A : Nat → Prop) (w : World) (q : Nat) : Alt A w (w.drewN q) := ⟨rfl, rfl, rfl, Nat.le_refl _, fun _ _ _ => rfl⟩
theorem Alt.drew (A : Nat → Prop) (w : World) : Alt A w w.drew := ⟨rfl, rfl, rfl, Nat.le_refl _, fun _ _ _ => rfl⟩
theorem Alt.setCell (w : World) {b o : Nat} (v : Value) (hA : A b) : Alt A w (w.setCell ⟨b, o, none⟩ v) :=
  ⟨rfl, rfl, rfl, by simp, fun k _ hk => Below.heap_setCell w ⟨b, o, none⟩ v k (fun e => hk (by rw [e]; exact hA))⟩
theorem Alt.alloc (A : Nat → Prop) (w : World) (o : Obj) : Alt A w (w.alloc o) := ⟨rfl, rfl, rfl, by simp, fun k hk _ => Below.heap_alloc w o k hk⟩
theorem Alt.below {C : Nat} (h : Alt A w w1) (hC : ∀ b, A b → b < w.heap.size → C ≤ b) (hs : C ≤ w.heap.size) : Below C w w1 :=
  ⟨h.os, h.tape, h.output, h.size, fun k hk => h.block k (by omega) (fun hA => by have := hC k hA (by omega); omega)⟩
theorem Alt.of_below (h : Below w.heap.size w w1) : Alt A w w1 := ⟨h.os, h.tape, h.output, h.size, fun k hk _ => h.block k hk⟩
theorem Alt.then (h : Alt A w w1) (k : Alt A w1 w2) : Alt A w w2 :=
  ⟨k.os.trans h.os, k.tape.trans h.tape, k.output.trans h.output, Nat.le_trans h.size k.size, fun b hb hA => (k.block b (Nat.lt_of_lt_of_le hb h.size) hA).trans (h.block b hb hA)⟩
end

/-- which function reads -/
def fnOf (R : Nat) : St → Value
  | .head _ => .func (.func 42) #[.pointer (some ⟨R, 0, none⟩)] #[]
  | .body _ _ => .func (.func 95) #[.pointer (some ⟨R, 0, none⟩)] #[]
  | .dead _ => .func (.func 96) #[.pointer (some ⟨R, 0, none⟩)] #[]
/-- the number of a body's bytes -/
def szOf : St → Int → Prop
  | .body n _, z => z = n
  | _, _ => True
/-- three blocks apart -/
def Parts (A : Nat → Prop) (R : Nat) (part bodies : Value) : Prop :=
  A R ∧ (∀ b, part.ownBlock = some b → A b ∧ b ≠ R ∧ bodies.ownBlock ≠ some b) ∧ (∀ b, bodies.ownBlock = some b → A b ∧ b ≠ R)
/-- the reader, in whatever blocks of its own -/
def RdAt (w : World) (A : Nat → Prop) (R : Nat) (st : St) (out : List Bs) : Prop :=
  ∃ (part bodies : Value) (size : Int), Rb w R (.pointer (some ⟨R, 0, none⟩)) (fnOf R st) part (.int .i64 size) bodies (.int .i64 (st.err : Nat)) ∧
    Tail w 5 part (c8 st.part) ∧ Tail w 9 bodies (strs out) ∧ szOf st size ∧ Parts A R part bodies
theorem RdAt.imp {w : World} {A B : Nat → Prop} {R : Nat} {st : St} {out : List Bs} (h : RdAt w A R st out) (hAB : ∀ b, b < w.heap.size → A b → B b) : RdAt w B R st out := by
  obtain ⟨part, bodies, size, h1, h2, h3, h4, h5, h6, h7⟩ := h
  exact ⟨part, bodies, size, h1, h2, h3, h4, hAB _ h1.lt h5, fun b hb => ⟨hAB b (h2.lt b hb) (h6 b hb).1, (h6 b hb).2⟩, fun b hb => ⟨hAB b (h3.lt b hb) (h7 b hb).1, (h7 b hb).2⟩⟩
/-- what is none of its blocks may change -/
theorem RdAt.other {w w' : World} {A B : Nat → Prop} {R : Nat} {st : St} {out : List Bs} (h : RdAt w A R st out) (hA : Alt B w w') (hd : ∀ b, b < w.heap.size → A b → ¬ B b) : RdAt w' A R st out := by
  obtain ⟨part, bodies, size, h1, h2, h3, h4, h5, h6, h7⟩ := h
  exact ⟨part, bodies, size, h1.same (hA.block _ h1.lt (hd _ h1.lt h5)), h2.same fun b hb => hA.block b (h2.lt b hb) (hd b (h2.lt b hb) (h6 b hb).1), h3.same fun b hb => hA.block b (h3.lt b hb) (hd b (h3.lt b hb) (h7 b hb).1), h4, h5, h6, h7⟩
/-- bytes at a place -/
def At8 (w : World) (g off : Nat) (l : Bs) : Prop := ∀ j x, l[j]? = some x → w.cell? ⟨g, off + j, none⟩ = some (.int .u8 (x.toNat : Int))
theorem At8.drop {w : World} {g off : Nat} {l : Bs} (h : At8 w g off l) (k : Nat) : At8 w g (off + k) (l.drop k) := fun j x hj => by
  rw [List.getElem?_drop] at hj
  have := h _ x hj
  rwa [← Nat.add_assoc] at this
theorem At8.lt {w : World} {g off : Nat} {l : Bs} (h : At8 w g off l) (hl : l ≠ []) : g < w.heap.size := by
  cases l with
  | nil => exact absurd rfl hl
  | cons x l =>
    have := h 0 x rfl
    exact World.block_lt_of_cell? w _ this
theorem At8.keep {A : Nat → Prop} {w w' : World} {g off : Nat} {l : Bs} (h : At8 w g off l) (hA : Alt A w w') (hg : l ≠ [] → ¬ A g) : At8 w' g off l := fun j x hj => by
  have hl : l ≠ [] := fun e => by rw [e] at hj; simp at hj
  exact (World.cell?_of_block (hA.block g (h.lt hl) (hg hl))).trans (h j x hj)
/-- what is left of a slice, behind so many bytes -/
def Left (g off cap : Nat) (l : Bs) (k : Nat) (v : Value) : Prop :=
  (v = .slice none 0 0 ∧ k = l.length) ∨ ∃ off', v = .slice (some ⟨g, off', none⟩) (l.length - k) (cap - k) ∧ (k < l.length → off' = off + k)
theorem conv_part {w : World} {v : Value} {l : Bs} (h : Tail w 5 v (c8 l)) : (convert 44 9 v).run Tryd.prog w = .ok (.string (ba l)) w := by
  rcases h with ⟨rfl, h0⟩ | ⟨g, off, cap, cur, rfl, hg, h1, h2, h3, h4⟩
  · have : l = [] := by cases l with | nil => rfl | cons _ _ => cases h0
    subst this
    exact run_convert_nil_bytes w 44 9 5 0 Tryd.underlying44 Tryd.underlying5 Tryd.underlying9
  · rw [c8_len]
    refine run_convert_bytes_back w 44 9 5 ⟨g, off, none⟩ cap l Tryd.underlying44 Tryd.underlying5 Tryd.underlying9 (fun j hj => ?_)
    have e : (⟨g, off, none⟩ : Addr).add j = ⟨g, off + j, none⟩ := by unfold Addr.add; split <;> simp_all
    rw [e, cell_of_row w g (off + j) cur 5 (0, 0) hg]
    exact h4 j _ (c8_at (List.getElem?_eq_getElem hj))
theorem f8 : (Tryd.prog.info? 5).map (fun i => (i.zero, i.size, i.bytes)) = some (some (.int .u8 0), 1, 1) := by kernel_rfl
theorem fS : (Tryd.prog.info? 9).map (fun i => (i.zero, i.size, i.bytes)) = some (some (.string ⟨#[]⟩), 1, 16) := by kernel_rfl

/-- a body, as far as some bytes go -/
def bodyTo (n : Nat) (p : Bs) (out : List Bs) (l : Bs) : Rs :=
  if (p ++ l.take (n - p.length)).length = n then (.head [], out ++ [p ++ l.take (n - p.length)]) else (.body n (p ++ l.take (n - p.length)), out)
theorem bodyTo_run (n : Nat) : ∀ (l p : Bs) (out : List Bs), p.length < n → run (.body n p, out) (l.take (n - p.length)) = bodyTo n p out l
  | [], p, out, h => by unfold bodyTo; simp only [List.take_nil, List.append_nil]; rw [if_neg (by omega)]; rfl
  | c :: l, p, out, h => by
    obtain ⟨k, hk⟩ : ∃ k, n - p.length = k + 1 := ⟨n - p.length - 1, by omega⟩
    have hl : (p ++ [c]).length = p.length + 1 := by simp
    unfold bodyTo
    rw [hk, List.take_succ_cons, run_cons]
    by_cases hn : p.length + 1 = n
    · have hk0 : k = 0 := by omega
      subst hk0
      unfold stp
      dsimp only
      rw [List.take_zero, if_pos (by rw [hl]; exact hn)]; rfl
    · have ih := bodyTo_run n l (p ++ [c]) out (by rw [hl]; omega)
      rw [hl, show n - (p.length + 1) = k by omega] at ih
      unfold stp
      dsimp only
      rw [if_neg (by rw [hl]; exact hn), ih]
      unfold bodyTo
      rw [hl, show n - (p.length + 1) = k by omega, List.append_assoc]
      rfl
end Go.Proofs.YtmaclplhphfkiaaDoor
