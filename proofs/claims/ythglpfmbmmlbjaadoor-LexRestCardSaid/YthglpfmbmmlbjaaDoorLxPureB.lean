/- The tokens of the rest of a text; a token, and what stands behind it: pure. Conditions: none. -/
import Derived.Test.YthglpfmbmmlbjaaDoorLxAwake
import Derived.Test.YthglpfmbmmlbjaaDoorDfMathL
namespace Go.Proofs.YthglpfmbmmlbjaaDoor.D
open Go U
theorem ext_ext (s : ByteArray) (k p : Nat) (hk : k ≤ s.size) : (s.extract k s.size).extract p (s.extract k s.size).size = s.extract (k + p) s.size := by
  rw [ByteArray.extract_extract, ByteArray.size_extract]
  congr 1; omega
theorem tkF_ext (s : ByteArray) (k : Nat) (hk : k ≤ s.size) : ∀ f p, tkF (s.extract k s.size) f p = tkF s f (k + p)
  | 0, p => rfl
  | f + 1, p => by
    have hz : (s.extract k s.size).size = s.size - k := by rw [ByteArray.size_extract]; omega
    by_cases hp : p < (s.extract k s.size).size
    · rw [tkF_step _ f p hp, tkF_step s f (k + p) (by omega), ext_ext s k p hk, tkF_ext s k hk f, Nat.add_assoc]
    · rw [tkF_end _ _ p hp, tkF_end s _ (k + p) (by omega)]
theorem toks_ext {s : ByteArray} {pre : List Tk} {p : Nat} (h : At s pre p) : toks (s.extract p s.size) = (toks s).drop pre.length := by
  have hz : (s.extract p s.size).size = s.size - p := by rw [ByteArray.size_extract]; have := h.1; omega
  unfold toks
  rw [tkF_ext s p h.1, hz, Nat.add_zero]
  conv => rhs; rw [show tkF s s.size 0 = toks s from rfl, ← h.2.2, List.drop_left]
/-- to the n-th token, with where it begins -/
theorem at_n (s : ByteArray) (hs : s.size ≤ 1000000000000) : ∀ n, n ≤ (toks s).length → ∃ p, At s ((toks s).take n) p ∧ spAt ((toks s).map Tk.i) n = (p : Int)
  | 0, _ => ⟨0, by rw [List.take_zero]; exact At.begin s, rfl⟩
  | n + 1, hn => by
    obtain ⟨p, h1, h2⟩ := at_n s hs n (by omega)
    have hl : ((toks s).take n).length = n := by rw [List.length_take]; omega
    by_cases hp : p < s.size
    · have hnx := h1.next hp
      rw [hl] at hnx
      have hw := tok_at hp
      refine ⟨p + (tok (s.extract p s.size)).w, ?_, ?_⟩
      · have := h1.step hp
        rw [List.take_succ_eq_append_getElem (by omega)]
        rw [List.getElem?_eq_getElem (by omega)] at hnx
        rwa [Option.some.inj hnx.1]
      · rw [spAt_succ (show ((toks s).map Tk.i)[n]? = some (tok (s.extract p s.size)).i by rw [List.getElem?_map, hnx.1]; rfl), h2]
        unfold enI
        show min ((p : Int) + min (max ((tok (s.extract p s.size)).w : Int) 0) 1099511627776) 1099511627776 = _
        omega
    · have := congrArg List.length (h1.done hp)
      rw [hl] at this
      omega
theorem toks_pos {s : ByteArray} (h : 0 < s.size) : toks s = tok s :: tkF s (s.size - 1) (tok s).w := by
  obtain ⟨f, hf⟩ : ∃ f, s.size = f + 1 := ⟨s.size - 1, by omega⟩
  unfold toks
  rw [hf, tkF_step s f 0 h, ByteArray.extract_zero_size, Nat.zero_add]
  rfl
end Go.Proofs.YthglpfmbmmlbjaaDoor.D
