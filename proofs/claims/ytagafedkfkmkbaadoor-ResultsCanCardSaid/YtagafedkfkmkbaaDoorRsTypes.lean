/- The server's words for colours, the program's and the document's; the trees of what it can. Conditions: none. -/
import Derived.Test.YtagafedkfkmkbaaDoorRsVF
namespace Go.Proofs.YtagafedkfkmkbaaDoor
open Go Go.RowKit Go.Lib

/-- so many strings, in a block just made -/
def StrsNew (row : Array Value) (n : Nat) (w : World) (e : Ending) (w' : World) : Prop := e = .returned (.slice (some ⟨w.heap.size, 0, none⟩) n n) ∧ w' = w.alloc (.cells row 9)
def tyL : List ByteArray := [⟨#[107, 101, 121, 119, 111, 114, 100]⟩, ⟨#[99, 111, 109, 109, 101, 110, 116]⟩, ⟨#[115, 116, 114, 105, 110, 103]⟩, ⟨#[110, 117, 109, 98, 101, 114]⟩, ⟨#[111, 112, 101, 114, 97, 116, 111, 114]⟩, ⟨#[118, 97, 114, 105, 97, 98, 108, 101]⟩, ⟨#[112, 97, 114, 97, 109, 101, 116, 101, 114]⟩, ⟨#[102, 117, 110, 99, 116, 105, 111, 110]⟩]
def mdL : List ByteArray := [⟨#[100, 101, 99, 108, 97, 114, 97, 116, 105, 111, 110]⟩, ⟨#[117, 110, 114, 101, 115, 111, 108, 118, 101, 100]⟩, ⟨#[114, 101, 100, 101, 99, 108, 97, 114, 101, 100]⟩]
set_option maxRecDepth 100000 in
theorem types_any (w : World) : Calls Tryd.prog 33 #[] w (StrsNew #[.string ⟨#[107, 101, 121, 119, 111, 114, 100]⟩, .string ⟨#[99, 111, 109, 109, 101, 110, 116]⟩, .string ⟨#[115, 116, 114, 105, 110, 103]⟩, .string ⟨#[110, 117, 109, 98, 101, 114]⟩, .string ⟨#[111, 112, 101, 114, 97, 116, 111, 114]⟩, .string ⟨#[118, 97, 114, 105, 97, 98, 108, 101]⟩, .string ⟨#[112, 97, 114, 97, 109, 101, 116, 101, 114]⟩, .string ⟨#[102, 117, 110, 99, 116, 105, 111, 110]⟩] 8 w) := by
  go_enter Tryd.func33, Tryd.ntmps33
  go_wp2_with fail
  go_ret
  exact ⟨rfl, rfl⟩
set_option maxRecDepth 100000 in
theorem mods_any (w : World) : Calls Tryd.prog 34 #[] w (StrsNew #[.string ⟨#[100, 101, 99, 108, 97, 114, 97, 116, 105, 111, 110]⟩, .string ⟨#[117, 110, 114, 101, 115, 111, 108, 118, 101, 100]⟩, .string ⟨#[114, 101, 100, 101, 99, 108, 97, 114, 101, 100]⟩] 3 w) := by
  go_enter Tryd.func34, Tryd.ntmps34
  go_wp2_with fail
  go_ret
  exact ⟨rfl, rfl⟩
set_option maxRecDepth 100000 in
theorem refTypes_any (w : World) : Calls Tryd.prog 37 #[] w (StrsNew #[.string ⟨#[107, 101, 121, 119, 111, 114, 100]⟩, .string ⟨#[99, 111, 109, 109, 101, 110, 116]⟩, .string ⟨#[115, 116, 114, 105, 110, 103]⟩, .string ⟨#[110, 117, 109, 98, 101, 114]⟩, .string ⟨#[111, 112, 101, 114, 97, 116, 111, 114]⟩, .string ⟨#[118, 97, 114, 105, 97, 98, 108, 101]⟩, .string ⟨#[112, 97, 114, 97, 109, 101, 116, 101, 114]⟩, .string ⟨#[102, 117, 110, 99, 116, 105, 111, 110]⟩] 8 w) := by
  go_enter Tryd.func37, Tryd.ntmps37
  go_wp2_with fail
  go_ret
  exact ⟨rfl, rfl⟩
set_option maxRecDepth 100000 in
theorem refMods_any (w : World) : Calls Tryd.prog 38 #[] w (StrsNew #[.string ⟨#[100, 101, 99, 108, 97, 114, 97, 116, 105, 111, 110]⟩, .string ⟨#[117, 110, 114, 101, 115, 111, 108, 118, 101, 100]⟩, .string ⟨#[114, 101, 100, 101, 99, 108, 97, 114, 101, 100]⟩] 3 w) := by
  go_enter Tryd.func38, Tryd.ntmps38
  go_wp2_with fail
  go_ret
  exact ⟨rfl, rfl⟩
theorem strs_lie (w : World) (l : List ByteArray) {row : Array Value} (h : row.toList = l.map Value.string) : StrsLie (w.alloc (.cells row 9)) w.heap.size l := fun j s hs => by
  rw [cell_of_row _ _ j row _ (0, 0) (heap_alloc_new _ _), ← Array.getElem?_toList, h, List.getElem?_map, hs]
  rfl
def tSync : V.T := (.cons ⟨#[111, 112, 101, 110, 67, 108, 111, 115, 101]⟩ 2 ⟨#[]⟩ .nil .nil (.cons ⟨#[99, 104, 97, 110, 103, 101]⟩ 3 ⟨(Lib.itoa 2).toArray⟩ .nil .nil .nil))
def tFull : V.T := (.cons ⟨#[100, 101, 108, 116, 97]⟩ 2 ⟨#[]⟩ .nil .nil .nil)
def tLegend : V.T := (.cons ⟨#[116, 111, 107, 101, 110, 84, 121, 112, 101, 115]⟩ 5 ⟨#[]⟩ (txT tyL) .nil (.cons ⟨#[116, 111, 107, 101, 110, 77, 111, 100, 105, 102, 105, 101, 114, 115]⟩ 5 ⟨#[]⟩ (txT mdL) .nil .nil))
def tTokens : V.T := (.cons ⟨#[108, 101, 103, 101, 110, 100]⟩ 6 ⟨#[]⟩ .nil tLegend (.cons ⟨#[102, 117, 108, 108]⟩ 6 ⟨#[]⟩ .nil tFull .nil))
def tAll : V.T := (.cons ⟨#[112, 111, 115, 105, 116, 105, 111, 110, 69, 110, 99, 111, 100, 105, 110, 103]⟩ 4 ⟨#[117, 116, 102, 45, 49, 54]⟩ .nil .nil (.cons ⟨#[116, 101, 120, 116, 68, 111, 99, 117, 109, 101, 110, 116, 83, 121, 110, 99]⟩ 6 ⟨#[]⟩ .nil tSync (.cons ⟨#[115, 101, 109, 97, 110, 116, 105, 99, 84, 111, 107, 101, 110, 115, 80, 114, 111, 118, 105, 100, 101, 114]⟩ 6 ⟨#[]⟩ .nil tTokens (.cons ⟨#[102, 111, 108, 100, 105, 110, 103, 82, 97, 110, 103, 101, 80, 114, 111, 118, 105, 100, 101, 114]⟩ 2 ⟨#[]⟩ .nil .nil (.cons ⟨#[115, 101, 108, 101, 99, 116, 105, 111, 110, 82, 97, 110, 103, 101, 80, 114, 111, 118, 105, 100, 101, 114]⟩ 2 ⟨#[]⟩ .nil .nil .nil)))))
def tInfo : V.T := (.cons ⟨#[110, 97, 109, 101]⟩ 4 ⟨#[103, 108, 111, 115, 115, 97, 116, 111, 114]⟩ .nil .nil .nil)
def tCap : V.T := (.cons ⟨#[99, 97, 112, 97, 98, 105, 108, 105, 116, 105, 101, 115]⟩ 6 ⟨#[]⟩ .nil tAll (.cons ⟨#[115, 101, 114, 118, 101, 114, 73, 110, 102, 111]⟩ 6 ⟨#[]⟩ .nil tInfo .nil))
theorem fix_utf : U.fixS ⟨#[117, 116, 102, 45, 49, 54]⟩ = ⟨#[117, 116, 102, 45, 49, 54]⟩ := U.fixS_valid _ (by decide +kernel)
theorem fix_glo : U.fixS ⟨#[103, 108, 111, 115, 115, 97, 116, 111, 114]⟩ = ⟨#[103, 108, 111, 115, 115, 97, 116, 111, 114]⟩ := U.fixS_valid _ (by decide +kernel)
theorem tyL_small : ∀ s ∈ tyL, s.size ≤ 1000 := by decide
theorem mdL_small : ∀ s ∈ mdL, s.size ≤ 1000 := by decide
end Go.Proofs.YtagafedkfkmkbaaDoor
