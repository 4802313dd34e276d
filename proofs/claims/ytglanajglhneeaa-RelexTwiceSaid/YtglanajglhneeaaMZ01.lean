/- Two edits, one behind the other, and the one around both: pure. Conditions: none. -/
import Derived.Test.YtglanajglhneeaaMX14
import Derived.Test.YtglanajglhneeaaMX42
namespace Go.Proofs.Ytglanajglhneeaa
open Go
namespace D
open U
theorem Ed1.twice {s t u : ByteArray} {a b n p q r : Nat} (h : Ed1 s t a b n) (g : Ed1 t u p q r) : Ed1 s u (min a p) (b + max n q - n) (max n q + r - q) := by
  obtain ⟨h1, h2, h3, h4, h5, h6, h7⟩ := h
  obtain ⟨g1, g2, g3, g4, g5, g6, g7⟩ := g
  refine ⟨by omega, by omega, by omega, by omega, by omega, ?_, ?_⟩
  · have e1 : s.extract 0 (min a p) = t.extract 0 (min a p) := by
      have : ∀ x : ByteArray, (x.extract 0 a).extract 0 (min a p) = x.extract 0 (min a p) := fun x => by rw [ByteArray.extract_extract]; congr 1; omega
      rw [← this s, ← this t, h6]
    have e2 : t.extract 0 (min a p) = u.extract 0 (min a p) := by
      have : ∀ x : ByteArray, (x.extract 0 p).extract 0 (min a p) = x.extract 0 (min a p) := fun x => by rw [ByteArray.extract_extract]; congr 1; omega
      rw [← this t, ← this u, g6]
    rw [e1, e2]
  · have e1 : s.extract (b + (max n q - n)) s.size = t.extract (n + (max n q - n)) t.size := by rw [← ext_ext s b _ h2, ← ext_ext t n _ h4, h7]
    have e2 : t.extract (q + (max n q - q)) t.size = u.extract (r + (max n q - q)) u.size := by rw [← ext_ext t q _ g2, ← ext_ext u r _ g4, g7]
    rw [show b + max n q - n = b + (max n q - n) by omega, e1, show n + (max n q - n) = q + (max n q - q) by omega, e2]
    congr 1; omega
end D
namespace Ed
theorem ans_two {a b n p q r : Nat} {x y : ByteArray} (h1 : a ≤ b) (h2 : b ≤ 100000) (h3 : a ≤ n) (h4 : n ≤ 100000) (g1 : p ≤ q) (g2 : q ≤ 100000) (g3 : p ≤ r) (g4 : r ≤ 100000) (hx : x.size = n - a) (hy : y.size = r - p) :
    err [⟨a, b, x⟩, ⟨p, q, y⟩] = 0 ∧ ans [⟨a, b, x⟩, ⟨p, q, y⟩] = ⟨((min a p : Nat) : Int), ((b + max n q - n : Nat) : Int), ((max n q + r - q : Nat) : Int)⟩ ∧ ∀ e ∈ [(⟨a, b, x⟩ : EdE), ⟨p, q, y⟩], Ok e := by
  have he : err [⟨a, b, x⟩, ⟨p, q, y⟩] = 0 := by
    rw [err_all]
    · rfl
    · intro j e hj
      have : e = ⟨a, b, x⟩ ∨ e = ⟨p, q, y⟩ := by
        have := List.mem_of_getElem? hj
        simpa using this
      rcases this with rfl | rfl
      · rw [okB_iff]; show (0 : Int) ≤ (a : Int) ∧ (a : Int) ≤ (b : Int) ∧ (b : Int) ≤ _; omega
      · rw [okB_iff]; show (0 : Int) ≤ (p : Int) ∧ (p : Int) ≤ (q : Int) ∧ (q : Int) ≤ _; omega
  refine ⟨he, ?_, ?_⟩
  · unfold ans
    rw [if_pos he, show [(⟨a, b, x⟩ : EdE), ⟨p, q, y⟩] = [⟨a, b, x⟩] ++ [⟨p, q, y⟩] from rfl, run_more _ _ (by simp), run_one]
    unfold stp one
    simp only [hx, hy]
    have e1 : (a : Int) + ((n - a : Nat) : Int) = (n : Int) := by omega
    rw [e1]
    have e2 : wr (wr ((b : Int) + max (n : Int) (q : Int)) - (n : Int)) = ((b + max n q - n : Nat) : Int) := by
      rw [wr_id (x := (b : Int) + max (n : Int) (q : Int)) (by omega) (by omega), wr_id (by omega) (by omega)]; omega
    have e3 : wr (wr (max (n : Int) (q : Int) + ((r - p : Nat) : Int)) - ((q : Int) - (p : Int))) = ((max n q + r - q : Nat) : Int) := by
      rw [wr_id (x := max (n : Int) (q : Int) + ((r - p : Nat) : Int)) (by omega) (by omega), wr_id (by omega) (by omega)]; omega
    rw [e2, e3, show min (a : Int) (p : Int) = ((min a p : Nat) : Int) by omega]
  · intro e hm
    have : e = ⟨a, b, x⟩ ∨ e = ⟨p, q, y⟩ := by simpa using hm
    unfold Ok I6
    rcases this with rfl | rfl
    · show (_ ≤ (a : Int) ∧ (a : Int) ≤ _) ∧ (_ ≤ (b : Int) ∧ (b : Int) ≤ _) ∧ x.size ≤ _; omega
    · show (_ ≤ (p : Int) ∧ (p : Int) ≤ _) ∧ (_ ≤ (q : Int) ∧ (q : Int) ≤ _) ∧ y.size ≤ _; omega
end Ed
end Go.Proofs.Ytglanajglhneeaa
