/- Which byte stands at a place of a string, and what the program's reader does there. Conditions: none. -/
import Derived.Test.YtkehpmbafjelpaaDoorJpParseB
namespace Go.Proofs.YtkehpmbafjelpaaDoor
open Go

/-- a byte stands at a place -/
def At (s : ByteArray) (p c : Nat) : Prop := p < s.size ∧ (s.get! p).toNat = c
theorem get_left {a b : ByteArray} {p : Nat} (h : p < a.size) : (a ++ b).get! p = a.get! p := by
  rw [J.at_get h, J.at_get (show p < (a ++ b).size by rw [ByteArray.size_append]; omega)]
  exact ByteArray.getElem_append_left h
theorem get_right {a b : ByteArray} {p : Nat} (h : p < b.size) : (a ++ b).get! (a.size + p) = b.get! p := by
  rw [J.at_get h, J.at_get (show a.size + p < (a ++ b).size by rw [ByteArray.size_append]; omega)]
  rw [ByteArray.getElem_append_right (by omega)]
  congr 1
  omega
theorem At.left {a : ByteArray} {p c : Nat} (h : At a p c) (b : ByteArray) : At (a ++ b) p c :=
  ⟨by rw [ByteArray.size_append]; have := h.1; omega, by rw [get_left h.1]; exact h.2⟩
theorem At.right {b : ByteArray} {p c : Nat} (h : At b p c) (a : ByteArray) {q : Nat} (hq : q = a.size + p) : At (a ++ b) q c := by
  subst hq
  exact ⟨by rw [ByteArray.size_append]; have := h.1; omega, by rw [get_right h.1]; exact h.2⟩
theorem At.is {s : ByteArray} {p c : Nat} (h : At s p c) (d : Nat) : J.is s p 0 d = decide (c = d) := by
  unfold J.is
  exact decide_eq_decide.2 ⟨fun e => h.2.symm.trans e.2.2, fun e => ⟨rfl, h.1, h.2.trans e⟩⟩
theorem At.pk {s : ByteArray} {p c : Nat} (h : At s p c) : J.pk s p = c := by unfold J.pk; rw [if_pos h.1]; exact h.2
theorem At.bl {s : ByteArray} {p c : Nat} (h : At s p c) (hc : J.ws c = false) : J.bl s p 0 = p := J.bl_stop (fun e => by rw [h.2, hc] at e; exact absurd e.2 (by decide))
theorem bl_end {s : ByteArray} {p : Nat} (h : ¬ p < s.size) : J.bl s p 0 = p := J.bl_stop (fun e => h e.1)
theorem At.bad {s : ByteArray} {p c : Nat} (h : At s p c) (hc : c < 128) : U.ch s p = c ∧ U.wd s p = 1 ∧ U.bad s p = false := by
  have := U.next_ascii s p (by rw [h.2]; exact hc)
  rw [h.2] at this
  exact this
/-- a character that is one byte, and no sign -/
theorem At.cr {s : ByteArray} {p c : Nat} (h : At s p c) (h1 : 32 ≤ c) (h2 : c < 128) (h3 : ¬ c = 92) : cr s p = (c, p + 1, 0) := by
  obtain ⟨e1, e2, e3⟩ := h.bad h2
  unfold Go.Proofs.YtkehpmbafjelpaaDoor.cr
  rw [if_neg (by rw [h.is]; simpa using h3), if_pos ⟨h.1, e3, by rw [e1]; exact h1⟩, e1, e2]
theorem ar_wrong {s : ByteArray} {r : VR} (h : ¬ r.2.2 = 0) : ar s r = r := by unfold ar; rw [if_neg h]
end Go.Proofs.YtkehpmbafjelpaaDoor
