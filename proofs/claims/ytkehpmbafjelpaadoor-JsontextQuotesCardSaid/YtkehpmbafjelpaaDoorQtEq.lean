/- A string quoted: character by character, or byte by byte of what is fixed. Conditions: none. -/
import Derived.Test.YtkehpmbafjelpaaDoorQtRef
namespace Go.Proofs.YtkehpmbafjelpaaDoor
open Go

/-- bytes as they are written in quotes -/
def rbs (l : List UInt8) : List UInt8 := (l.map fun b => rb b.toNat).flatten
theorem rbs_append (a b : List UInt8) : rbs (a ++ b) = rbs a ++ rbs b := by unfold rbs; rw [List.map_append, List.flatten_append]
theorem rF_list (F : ByteArray) : ∀ f pos, F.size ≤ pos + f → rF F f pos = rbs (F.data.toList.drop pos)
  | 0, pos, h => by
    rw [List.drop_eq_nil_of_le (by rw [← Lib.size_eq]; omega)]
    rfl
  | f + 1, pos, h => by
    by_cases hp : pos < F.size
    · rw [rF_step F f pos hp, rF_list F f (pos + 1) (by omega)]
      have hlt : pos < F.data.toList.length := by rw [← Lib.size_eq]; exact hp
      rw [List.drop_eq_getElem_cons hlt]
      unfold rbs
      rw [List.map_cons, List.flatten_cons, U.at_get hp]
      rfl
    · rw [rF_end F _ pos hp, List.drop_eq_nil_of_le (by rw [← Lib.size_eq]; omega)]
      rfl
theorem rb_high {b : UInt8} (h : 128 ≤ b.toNat) : rb b.toNat = [b] := by
  rw [rb_else (by omega) (by omega) (by omega)]
  congr 1
  exact UInt8.ofNat_toNat
theorem rbs_high : ∀ (l : List UInt8), (∀ b ∈ l, 128 ≤ b.toNat) → rbs l = l
  | [], _ => rfl
  | b :: l, h => by
    have e := rbs_high l (fun x hx => h x (List.mem_cons_of_mem _ hx))
    unfold rbs at e ⊢
    rw [List.map_cons, List.flatten_cons, e, rb_high (h b (List.mem_cons_self ..))]
    rfl
set_option maxHeartbeats 2000000 in
set_option maxRecDepth 100000 in
theorem dn_high (n b0 b1 b2 b3 : Nat) (h0 : b0 < 256) (h : 128 ≤ b0) :
    (Lib.decodeN n b0 b1 b2 b3 = (65533, 1)) ∨ (128 ≤ (Lib.decodeN n b0 b1 b2 b3).1 ∧ (1 < (Lib.decodeN n b0 b1 b2 b3).2 → 128 ≤ b1) ∧ (2 < (Lib.decodeN n b0 b1 b2 b3).2 → 128 ≤ b2) ∧ (3 < (Lib.decodeN n b0 b1 b2 b3).2 → 128 ≤ b3)) := by
  unfold Lib.decodeN
  rw [if_neg (by omega)]
  split
  · split
    · right; refine ⟨?_, ?_, ?_, ?_⟩ <;> (try intro) <;> simp only at * <;> omega
    · left; rfl
  split
  · split
    · right; refine ⟨?_, ?_, ?_, ?_⟩ <;> (try intro) <;> simp only at * <;> omega
    · left; rfl
  split
  · split
    · right; refine ⟨?_, ?_, ?_, ?_⟩ <;> (try intro) <;> simp only at * <;> omega
    · left; rfl
  · left; rfl
theorem piece_rbs {s : ByteArray} {p : Nat} (hp : p < s.size) : rbs (U.piece s p) = pq s p := by
  have hf := U.facts s p hp
  by_cases ha : (s.get! p).toNat < 128
  · obtain ⟨e1, e2, e3⟩ := U.next_ascii s p ha
    have e4 : U.piece s p = [s.get! p] := by
      rw [U.piece_good e3, e2]
      unfold U.stretch
      rfl
    rw [e4]
    show rb (s.get! p).toNat ++ [] = _
    rw [List.append_nil]
    unfold pq
    rw [e1]
    split
    · rfl
    · rename_i hh
      rw [e4, rb_else (by omega) (by omega) (by omega)]
      congr 1
      exact UInt8.ofNat_toNat
  · have hd := dn_high (s.size - p) (s.get! p).toNat (s.get! (p + 1)).toNat (s.get! (p + 2)).toNat (s.get! (p + 3)).toNat (s.get! p).toNat_lt (by omega)
    rw [← U.wd_eq, ← U.ch_eq] at hd
    cases hb : U.bad s p
    · have hn : ¬ (U.ch s p = 65533 ∧ U.wd s p = 1) := fun hx => by rw [(U.bad_iff s p).2 hx] at hb; cases hb
      rcases hd with hd | ⟨h1, h2, h3, h4⟩
      · exfalso
        rw [← Lib.decode_at] at hd
        exact hn (Prod.mk.inj hd)
      · unfold pq
        rw [if_neg (by omega)]
        refine rbs_high _ ?_
        rw [U.piece_good hb]
        unfold U.stretch
        intro b hm
        obtain ⟨k, hk, rfl⟩ := List.mem_map.1 hm
        have hk := List.mem_range.1 hk
        have : k = 0 ∨ k = 1 ∨ k = 2 ∨ k = 3 := by omega
        rcases this with rfl | rfl | rfl | rfl
        · show 128 ≤ (s.get! p).toNat; omega
        · exact h2 (by omega)
        · exact h3 (by omega)
        · exact h4 (by omega)
    · have hx := (U.bad_iff s p).1 hb
      rw [U.piece_bad hb]
      unfold pq
      rw [if_neg (by omega), U.piece_bad hb]
      exact rbs_high _ (by decide)
theorem fix_rbs (s : ByteArray) : ∀ f pos, rbs (U.fixFrom s f pos) = qF s f pos
  | 0, _ => rfl
  | f + 1, pos => by
    by_cases hp : pos < s.size
    · rw [U.fixFrom_step s f pos hp, qF_step s f pos hp, rbs_append, piece_rbs hp, fix_rbs s f _]
    · rw [U.fixFrom_end s _ pos hp, qF_end s _ pos hp]; rfl
theorem quote_eq (s : ByteArray) : rL (U.fixS s) = qL s := by
  unfold rL qL
  rw [rF_list _ _ 0 (by omega), List.drop_zero]
  congr 2
  show rbs (U.fixL s) = _
  exact fix_rbs s s.size 0
theorem fixFrom_len (s : ByteArray) : ∀ f pos, pos ≤ s.size → (U.fixFrom s f pos).length ≤ 3 * (s.size - pos)
  | 0, _, _ => Nat.zero_le _
  | f + 1, pos, h => by
    by_cases hp : pos < s.size
    · have h1 := (U.piece_le hp).1
      have h2 := U.wd_le hp
      have h3 := fixFrom_len s f (pos + U.wd s pos) h2
      rw [U.fixFrom_step s f pos hp, List.length_append]
      omega
    · rw [U.fixFrom_end s _ pos hp]; exact Nat.zero_le _
theorem fixS_len (s : ByteArray) : (U.fixS s).size ≤ 3 * s.size := by
  have h := fixFrom_len s s.size 0 (Nat.zero_le _)
  show (U.fixL s).toArray.size ≤ _
  rw [List.size_toArray]
  exact h
end Go.Proofs.YtkehpmbafjelpaaDoor
