/- The statement on strings quoted, and on numbers and strings as values, walked: whatever they are, it answers true. Conditions: such as Go can hold; the library's tables as its text lays them. -/
import Derived.Test.YtkehpmbafjelpaaDoorQtEq
import Derived.Test.YtkehpmbafjelpaaDoorQtNum
import Derived.Test.YtkehpmbafjelpaaDoorQtText
namespace Go.Proofs.YtkehpmbafjelpaaDoor
open Go Go.RowKit Go.Shelf Go.Lib

def SaysTrue (w : World) (e : Ending) (w' : World) : Prop := e = .returned (.bool true) ∧ Below w.heap.size w w'
theorem pow_below {w w' : World} (h : PowTab w) (hb : Below w.heap.size w w') : PowTab w' := Lib.tabBelow_of_tabIs h w' hb
set_option maxHeartbeats 1000000 in
set_option maxRecDepth 100000 in
theorem quotesLaw_any (s : ByteArray) (n : Int) (w : World) (_hs : s.size ≤ 9223372036854775807) (hn : -9223372036854775808 ≤ n ∧ n ≤ 9223372036854775807) (hP : PowTab w) (hT : Tabs w) :
    Calls Tryd.prog 7 #[.string s, .int .i64 n] w (SaysTrue w) := by
  by_cases hl : 524288 < s.size
  · go_enter Tryd.func7, Tryd.ntmps7
    go_wp2_with fail
    go_ret
    exact ⟨rfl, Below.refl _ _⟩
  · have hz := fixS_len s
    have h1 := fun W => quote_any s W (by omega)
    have h2 := fun W => refQuote_any s W (by omega) (by omega)
    rw [quote_eq] at h2
    have h3 := fun W (hB : Below w.heap.size w W) => number_any n hn.1 hn.2 W (fun w' hb => pow_below hP (hB.trans (hb.mono hB.size)))
    have h4 := fun W => refNumber_any n hn.1 hn.2 W
    have h5 := fun W (hB : Below w.heap.size w W) => text4_any s W (by omega) (by omega) (tabs_below hT hB)
    have h6 := fun W => refText4_any s W (by omega)
    have h7 := fun W => same_any 1 3 ⟨(Lib.itoa n).toArray⟩ (.slice none 0 0) (.slice none 0 0) .nil .nil 3 ⟨(Lib.itoa n).toArray⟩ (.slice none 0 0) (.slice none 0 0) .nil .nil (fun _ => True) (fun _ => True) W (by decide) (HS.nil _ _ _) (HS.nil _ _ _) (HS.nil _ _ _) (HS.nil _ _ _)
    have h8 := fun W => same_any 1 4 (U.fixS s) (.slice none 0 0) (.slice none 0 0) .nil .nil 4 (U.fixS s) (.slice none 0 0) (.slice none 0 0) .nil .nil (fun _ => True) (fun _ => True) W (by decide) (HS.nil _ _ _) (HS.nil _ _ _) (HS.nil _ _ _) (HS.nil _ _ _)
    simp only [V.veq_self] at h7 h8
    unfold NumIs at h3 h4
    unfold TextIs at h5 h6
    unfold StrIs at h1 h2
    generalize (⟨(Lib.itoa n).toArray⟩ : ByteArray) = N at *
    generalize (⟨(qL s).toArray⟩ : ByteArray) = Q at *
    generalize U.fixS s = F at *
    clear hP hT hz
    go_enter Tryd.func7, Tryd.ntmps7
    go_wp2_with fail
    refine (h1 _).mono ?_
    rintro e w1 ⟨rfl, hB1⟩
    clear h1
    go_wp2_with fail
    refine (h2 _).mono ?_
    rintro e w2 ⟨rfl, hB2⟩
    have hB3 := hB1.trans (hB2.mono hB1.size)
    clear h2 hB1 hB2
    go_wp2_with fail
    refine (h3 _ hB3).mono ?_
    rintro e w4 ⟨rfl, hB4⟩
    have hB5 := hB3.trans (hB4.mono hB3.size)
    clear h3 hB3 hB4
    go_wp2_with fail
    refine (h4 _).mono ?_
    rintro e w6 ⟨rfl, hB6⟩
    have hB7 := hB5.trans (hB6.mono hB5.size)
    clear h4 hB5 hB6
    go_wp2_with fail
    refine (h7 _).mono ?_
    rintro e w8 ⟨rfl, hB8⟩
    have hB9 := hB7.trans (hB8.mono hB7.size)
    clear h7 hB7 hB8
    go_wp2_with fail
    refine (h5 _ hB9).mono ?_
    rintro e w10 ⟨rfl, hB10⟩
    have hB11 := hB9.trans (hB10.mono hB9.size)
    clear h5 hB9 hB10
    go_wp2_with fail
    refine (h6 _).mono ?_
    rintro e w12 ⟨rfl, hB12⟩
    have hB13 := hB11.trans (hB12.mono hB11.size)
    clear h6 hB11 hB12
    go_wp2_with fail
    refine (h8 _).mono ?_
    rintro e w14 ⟨rfl, hB14⟩
    have hB15 := hB13.trans (hB14.mono hB13.size)
    clear h8 hB13 hB14
    go_wp2_with fail
    go_ret
    exact ⟨rfl, hB15⟩
end Go.Proofs.YtkehpmbafjelpaaDoor
