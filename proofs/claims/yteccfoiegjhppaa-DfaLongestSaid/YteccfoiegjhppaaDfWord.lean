/- A name's kind, the program's own; tokens' boxes. Conditions: a string of at most 10^15 bytes. -/
import Derived.Test.YteccfoiegjhppaaDfRun
import Derived.Laws.Rows
import Derived.Laws.CopyOwn
namespace Go.Proofs
open Go Go.RowKit Go.Lib
namespace Yteccfoiegjhppaa
set_option maxHeartbeats 1000000 in
set_option maxRecDepth 100000 in
theorem word_same (x : ByteArray) (w : World) : Calls Try.prog 12 #[.string x] w (fun e w' => e = .returned (.int .u8 (D.wrd x : Int)) ∧ w = w') := by
  unfold D.wrd
  by_cases h0 : x.toList = [108, 101, 116]
  · rw [if_pos h0]
    have e0 : (x.toList == [108, 101, 116]) = true := by rw [h0]; rfl
    clear h0
    go_enter Try.func12, Try.ntmps12
    go_wp2_with fail
    go_ret
    exact ⟨rfl, rfl⟩
  rw [if_neg h0]
  have e0 : (x.toList == [108, 101, 116]) = false := by rw [beq_eq_false_iff_ne]; exact h0
  clear h0
  by_cases h1 : x.toList = [102, 110]
  · rw [if_pos h1]
    have e1 : (x.toList == [102, 110]) = true := by rw [h1]; rfl
    clear h1
    go_enter Try.func12, Try.ntmps12
    go_wp2_with fail
    go_ret
    exact ⟨rfl, rfl⟩
  rw [if_neg h1]
  have e1 : (x.toList == [102, 110]) = false := by rw [beq_eq_false_iff_ne]; exact h1
  clear h1
  by_cases h2 : x.toList = [105, 102]
  · rw [if_pos h2]
    have e2 : (x.toList == [105, 102]) = true := by rw [h2]; rfl
    clear h2
    go_enter Try.func12, Try.ntmps12
    go_wp2_with fail
    go_ret
    exact ⟨rfl, rfl⟩
  rw [if_neg h2]
  have e2 : (x.toList == [105, 102]) = false := by rw [beq_eq_false_iff_ne]; exact h2
  clear h2
  by_cases h3 : x.toList = [101, 108, 115, 101]
  · rw [if_pos h3]
    have e3 : (x.toList == [101, 108, 115, 101]) = true := by rw [h3]; rfl
    clear h3
    go_enter Try.func12, Try.ntmps12
    go_wp2_with fail
    go_ret
    exact ⟨rfl, rfl⟩
  rw [if_neg h3]
  have e3 : (x.toList == [101, 108, 115, 101]) = false := by rw [beq_eq_false_iff_ne]; exact h3
  clear h3
  by_cases h4 : x.toList = [119, 104, 105, 108, 101]
  · rw [if_pos h4]
    have e4 : (x.toList == [119, 104, 105, 108, 101]) = true := by rw [h4]; rfl
    clear h4
    go_enter Try.func12, Try.ntmps12
    go_wp2_with fail
    go_ret
    exact ⟨rfl, rfl⟩
  rw [if_neg h4]
  have e4 : (x.toList == [119, 104, 105, 108, 101]) = false := by rw [beq_eq_false_iff_ne]; exact h4
  clear h4
  by_cases h5 : x.toList = [114, 101, 116, 117, 114, 110]
  · rw [if_pos h5]
    have e5 : (x.toList == [114, 101, 116, 117, 114, 110]) = true := by rw [h5]; rfl
    clear h5
    go_enter Try.func12, Try.ntmps12
    go_wp2_with fail
    go_ret
    exact ⟨rfl, rfl⟩
  rw [if_neg h5]
  have e5 : (x.toList == [114, 101, 116, 117, 114, 110]) = false := by rw [beq_eq_false_iff_ne]; exact h5
  clear h5
  by_cases h6 : x.toList = [116, 114, 117, 101]
  · rw [if_pos h6]
    have e6 : (x.toList == [116, 114, 117, 101]) = true := by rw [h6]; rfl
    clear h6
    go_enter Try.func12, Try.ntmps12
    go_wp2_with fail
    go_ret
    exact ⟨rfl, rfl⟩
  rw [if_neg h6]
  have e6 : (x.toList == [116, 114, 117, 101]) = false := by rw [beq_eq_false_iff_ne]; exact h6
  clear h6
  by_cases h7 : x.toList = [102, 97, 108, 115, 101]
  · rw [if_pos h7]
    have e7 : (x.toList == [102, 97, 108, 115, 101]) = true := by rw [h7]; rfl
    clear h7
    go_enter Try.func12, Try.ntmps12
    go_wp2_with fail
    go_ret
    exact ⟨rfl, rfl⟩
  rw [if_neg h7]
  have e7 : (x.toList == [102, 97, 108, 115, 101]) = false := by rw [beq_eq_false_iff_ne]; exact h7
  clear h7
  go_enter Try.func12, Try.ntmps12
  go_wp2_with fail
  go_ret
  exact ⟨rfl, rfl⟩
theorem word_any (x : ByteArray) (w : World) : Calls Try.prog 12 #[.string x] w (ByteB (D.wrd x) w) := (word_same x w).mono fun e w' h => by obtain ⟨rfl, rfl⟩ := h; exact ⟨rfl, Below.refl _ _⟩
theorem results_tok {fn : Func} {p q : Tmp} (h : fn.results = #[.cell p 24, .tmp q]) (tmps : Array Value) (w : World) (g : Nat) (t : TypeId) (cs : Array Value)
    (hp : tmps.getD p undef = .pointer (some ⟨g, 0, none⟩)) (hg : w.heap[g]? = some (.cells cs t (0, 0))) (hi : (Try.prog.info? 24).map (·.size) = some cs.size) :
    (results fn tmps).run Try.prog w = .ok (.tuple #[.agg cs, tmps.getD q undef]) w := by
  have hp' : tmps[p]?.getD undef = .pointer (some ⟨g, 0, none⟩) := by simpa using hp
  simp [results, h, hp', asAddr, run_loadVar_row w g t 24 cs (0, 0) _ hg Try.underlying24 rfl hi]
theorem info_tok : (Try.prog.info? 24).map (·.size) = some 3 := by kernel_rfl
theorem one_tok (a b c : Int) : (#[Value.int .u8 a, .int .i64 b, .int .i64 c].all (·.oneCell')) = true := by simp [Value.oneCell']
/-- a token's cells -/
def TokRow (w : World) (g : Nat) (a b c : Int) : Prop := w.heap[g]? = some (.cells #[.int .u8 a, .int .i64 b, .int .i64 c] 24 (0, 0))
theorem TokRow.set {w : World} {g : Nat} {a b c : Int} (h : TokRow w g a b c) (x y z : Int) : TokRow (w.setRow g #[.int .u8 x, .int .i64 y, .int .i64 z]) g x y z := setRow_heap _ _ _ _ _ _ h
theorem TokRow.other {w : World} {g k : Nat} {a b c : Int} (h : TokRow w g a b c) (cs : Array Value) (hk : g ≠ k) : TokRow (w.setRow k cs) g a b c := (setRow_other _ _ _ _ hk).trans h
theorem TokRow.below {w w' : World} {g : Nat} {a b c : Int} (h : TokRow w g a b c) (hB : Below w.heap.size w w') : TokRow w' g a b c := (hB.block g (Array.getElem?_eq_some_iff.1 h).1).trans h
def TokB (b : Bool) (t : D.Tk) (w : World) (e : Ending) (w' : World) : Prop := e = .returned (.tuple #[.agg #[.int .u8 (t.k : Int), .int .i64 (t.w : Int), .int .i64 (t.l : Int)], .bool b]) ∧ Below w.heap.size w w'
end Yteccfoiegjhppaa
end Go.Proofs
