/- The program's May and Print. Conditions: strings of at most 10^12 bytes; what is written is at most 10^11 bytes; the library's tables of UTF-8 as its text lays them. -/
import Derived.Test.YtdgmbmoaeoakpaaDoorMA41
import Derived.Test.YtdgmbmoaeoakpaaDoorMA28
import Derived.Test.YtdgmbmoaeoakpaaDoorMA38
namespace Go.Proofs.YtdgmbmoaeoakpaaDoor
open Go Go.RowKit Go.Shelf Go.Lib

/-- the same, or both too long -/
def Eq2 (y z : List UInt8) : Prop := y = z ∨ (262144 < y.length ∧ 262144 < z.length)
theorem Eq2.app {y z : List UInt8} (h : Eq2 y z) (c : List UInt8) : Eq2 (y ++ c) (z ++ c) := by
  rcases h with h | ⟨h1, h2⟩
  · exact .inl (by rw [h])
  · exact .inr ⟨by rw [List.length_append]; omega, by rw [List.length_append]; omega⟩
/-- how the program's writer writes, and what is written -/
theorem aT_wr : ∀ (t : V.T) (d : Nat) (first : Bool) (b z : List UInt8), Eq2 b z → Eq2 (aT t d first b) (z ++ wrT t d first)
  | .nil, _, _, b, z, h => by
    show Eq2 b (z ++ [])
    rw [List.append_nil]
    exact h
  | .cons nm k x l f tl, d, first, b, z, h => by
    rw [aT_cons, wrT_cons, ← List.append_assoc, ← List.append_assoc]
    apply aT_wr tl d false
    have hb := h.app (ahead d first nm)
    generalize b ++ ahead d first nm = y at *
    generalize z ++ ahead d first nm = u at *
    unfold aV wrV
    by_cases hlong : y.length > 262144
    · rw [if_pos hlong]
      rcases hb with e | ⟨_, h2⟩
      · exact .inr ⟨hlong, by rw [← e, List.length_append]; omega⟩
      · exact .inr ⟨hlong, by rw [List.length_append]; omega⟩
    · rw [if_neg hlong]
      split
      · rw [← List.append_assoc, ← List.append_assoc]
        exact (aT_wr l 0 true _ _ (hb.app [91])).app [93]
      split
      · rw [← List.append_assoc, ← List.append_assoc]
        exact (aT_wr f 1 true _ _ (hb.app [123])).app [125]
      · exact hb.app _
theorem aV_wr (k : Nat) (x : ByteArray) (l f : V.T) : Eq2 (aV k x l f []) (wrV k x l f) := by
  have h0 : Eq2 [] [] := .inl rfl
  unfold aV wrV
  rw [if_neg (by decide)]
  split
  · exact (aT_wr l 0 true _ _ (h0.app [91])).app [93]
  split
  · exact (aT_wr f 1 true _ _ (h0.app [123])).app [125]
  · exact h0.app _
theorem kd_of : ∀ {t : V.T} {d : Nat} {seen : List ByteArray} {dep : Nat}, mayT t d seen dep = true → Kd t
  | .nil, _, _, _, _ => trivial
  | .cons nm k x l f tl, d, seen, dep, h => by
    rw [mayT_cons, Bool.and_eq_true, Bool.and_eq_true] at h
    obtain ⟨⟨_, h2⟩, h3⟩ := h
    have hx : k = 3 → 0 < x.size := fun e => by
      subst e
      obtain ⟨_, hn, _, _⟩ := mayV_leaf h2 (by decide) (by decide)
      have h4 := nm_go (s := x) (p := 0) (Nat.zero_le _) (by rw [(numS_iff x).1 (show numS x = true from hn)])
      rw [(numS_iff x).1 (show numS x = true from hn)] at h4
      exact h4
    refine ⟨⟨mayV_six h2, hx⟩, ?_, ?_, kd_of h3⟩
    · by_cases h5 : k = 5
      · subst h5; exact kd_of (mayV_list h2).2.2.1
      by_cases h6 : k = 6
      · subst h6; rw [(mayV_obj h2).2.2.2]; trivial
      · rw [(mayV_leaf h2 h5 h6).2.2.1]; trivial
    · by_cases h5 : k = 5
      · subst h5; rw [(mayV_list h2).2.2.2]; trivial
      by_cases h6 : k = 6
      · subst h6; exact kd_of (mayV_obj h2).2.2.1
      · rw [(mayV_leaf h2 h5 h6).2.2.2]; trivial
theorem kdV_of {k : Nat} {x : ByteArray} {l f : V.T} {dep : Nat} (h : mayV k x l f dep = true) : (k ≤ 6 ∧ (k = 3 → 0 < x.size)) ∧ Kd l ∧ Kd f := by
  have := kd_of (t := .cons ⟨#[]⟩ k x l f .nil) (d := 0) (seen := []) (dep := dep) (by rw [mayT_cons, h]; rfl)
  exact ⟨this.1, this.2.1, this.2.2.1⟩
/-- what is printed: the text, or the error -/
def prn (k : Nat) (x : ByteArray) (l f : V.T) : ByteArray × Nat :=
  if mayV k x l f 0 = true then (if 262144 < (wrV k x l f).length then (⟨#[]⟩, 3) else (⟨(wrV k x l f).toArray⟩, 0)) else (⟨#[]⟩, 40)
def PrIs (r : ByteArray × Nat) (w : World) (e : Ending) (w' : World) : Prop := e = .returned (.tuple #[.string r.1, .int .i64 r.2]) ∧ Below w.heap.size w w'
/-- a value such as is gone through -/
structure Gv (w : World) (A : Nat → Prop) (k : Nat) (x : ByteArray) (v u : Value) (l f : V.T) : Prop where
  hl : HS w A 0 v l
  hf : HS w A 1 u f
  kind : k < 256
  text : x.size ≤ 1000000000000
  sl : Sm l
  sf : Sm f
  len : 6 * x.size + 10 + wgt l + wgt f ≤ 100000000000
theorem Gv.below {w w' : World} {A : Nat → Prop} {k : Nat} {x : ByteArray} {v u : Value} {l f : V.T} (h : Gv w A k x v u l f) (hB : Below w.heap.size w w') : Gv w' A k x v u l f :=
  ⟨h.hl.below hB, h.hf.below hB, h.kind, h.text, h.sl, h.sf, h.len⟩
set_option maxRecDepth 100000 in
theorem may_any (k : Nat) (x : ByteArray) (va ua : Value) (l f : V.T) (A : Nat → Prop) (w : World) (h : Gv w A k x va ua l f) (hT : Tabs w) : Calls Tryd.prog 33 #[.agg #[.int .u8 k, .string x, va, ua]] w (Bools (mayV k x l f 0) w) := by
  have hB := (Below.refl w.heap.size w).alloc (Nat.le_refl _) (.cells #[.int .u8 k, .string x, va, ua] 25)
  have hm := may_ok (l.size + f.size + 1) k x va ua l f A 0 (w.alloc (.cells #[.int .u8 k, .string x, va, ua] 25)) (Nat.lt_succ_self _) h.kind h.text h.sl h.sf (h.hl.below hB) (h.hf.below hB) (Nat.zero_le _) (tabs_below hT hB)
  obtain ⟨p, c, rfl, -⟩ := h.hl.len
  obtain ⟨q, d, rfl, -⟩ := h.hf.len
  have HB := Lib.hid hB
  clear hB h hT
  go_enter Tryd.func33, Tryd.ntmps33
  go_wp2_with fail
  refine hm.mono ?_
  rintro e w1 ⟨rfl, hB1⟩
  have H1 := Lib.hid (HB.out.trans (hB1.mono HB.out.size))
  clear hB1 hm
  go_wp2_with fail
  go_ret
  exact ⟨rfl, H1.out⟩
set_option maxHeartbeats 1000000 in
set_option maxRecDepth 100000 in
theorem print_any (k : Nat) (x : ByteArray) (va ua : Value) (l f : V.T) (A : Nat → Prop) (w : World) (h : Gv w A k x va ua l f) (hT : Tabs w) : Calls Tryd.prog 64 #[.agg #[.int .u8 k, .string x, va, ua]] w (PrIs (prn k x l f) w) := by
  have hB := (Below.refl w.heap.size w).alloc (Nat.le_refl _) (.cells #[.int .u8 k, .string x, va, ua] 25)
  have hm := may_any k x va ua l f A _ (h.below hB) (tabs_below hT hB)
  have hbk : Blk4 (w.alloc (.cells #[.int .u8 k, .string x, va, ua] 25)) w.heap.size 25 (.int .u8 k) (.string x) va ua := heap_alloc_new _ _
  have HV := Lib.hid h
  unfold prn
  have e2 := aV_wr k x l f
  cases hmay : mayV k x l f 0
  · rw [hmay] at hm
    rw [if_neg (by decide)]
    obtain ⟨p, c, rfl, -⟩ := h.hl.len
    obtain ⟨q, d, rfl, -⟩ := h.hf.len
    obtain ⟨c0, c1, c2, c3⟩ := hbk.box
    have HB := Lib.hid hB
    clear hB h hT hmay hbk e2
    go_enter Tryd.func64, Tryd.ntmps64
    go_wp2_with fail
    refine hm.mono ?_
    rintro e w1 ⟨rfl, hB1⟩
    have H1 := Lib.hid (HB.out.trans (hB1.mono HB.out.size))
    clear hB1 hm c0 c1 c2 c3
    go_wp2_with fail
    go_ret2
    exact ⟨rfl, H1.out⟩
  · rw [hmay] at hm
    rw [if_pos rfl]
    obtain ⟨⟨hk6, hk3⟩, hkl, hkf⟩ := kdV_of hmay
    have hw := fun (W : World) (hW : Below w.heap.size w W) => wr_ok (l.size + f.size + 1) k x va ua l f (fun c => c < W.heap.size) W.heap.size (.slice none 0 0) [] W (Nat.lt_succ_self _) hk6 hk3 hkl hkf (by have := HV.out.len; simp only [List.length_nil]; omega)
      ((h.hl.below hW).mono (fun _ _ h => h)) ((h.hf.below hW).mono (fun _ _ h => h)) (fun _ h => h) ⟨rfl, .inl ⟨rfl, rfl⟩⟩ (Nat.le_refl _)
    generalize ho : aV k x l f [] = o at *
    generalize hz : wrV k x l f = z at *
    generalize hr : (if 262144 < z.length then ((⟨#[]⟩ : ByteArray), 3) else (⟨z.toArray⟩, 0)) = r
    have HR := Lib.hid hr
    clear hr
    have hol := aV_len k x l f []
    rw [ho] at hol
    have HOL := Lib.hid (show o.length ≤ 100000000000 by have := HV.out.len; simp only [List.length_nil] at hol; omega)
    obtain ⟨p, c, rfl, -⟩ := h.hl.len
    obtain ⟨q, d, rfl, -⟩ := h.hf.len
    obtain ⟨c0, c1, c2, c3⟩ := hbk.box
    have HB := Lib.hid hB
    have HBK := Lib.hid hbk
    have HO := Lib.hid e2
    have HW := Lib.hid hw
    clear hB h hT hmay hbk e2 ho hz hol hk6 hk3 hkl hkf hw
    go_enter Tryd.func64, Tryd.ntmps64
    go_wp2_with fail
    refine hm.mono ?_
    rintro e w1 ⟨rfl, hB1⟩
    have H1 := Lib.hid (HB.out.trans (hB1.mono HB.out.size))
    have hb1 := HBK.out.same (hB1.block _ HBK.out.lt)
    obtain ⟨d0, d1, d2, d3⟩ := hb1.box
    clear hB1 hm c0 c1 c2 c3 hb1
    go_wp2_with fail
    refine (HW.out _ H1.out).mono ?_
    rintro e w2 ⟨v', rfl, hown, hB2, _⟩
    have H2 := Lib.hid (H1.out.trans (hB2.mono H1.out.size))
    obtain ⟨p', c', rfl⟩ := own_shape hown
    have hconv := conv_own hown
    have hl2 := HOL.out
    clear hB2 d0 d1 d2 d3 hown
    by_cases hlong : 262144 < o.length
    · have tl : decide ((262144 : Int) < (o.length : Int)) = true := decide_eq_true (by omega)
      have hzl : 262144 < z.length := by
        rcases HO.out with e | ⟨_, h2⟩
        · rw [← e]; exact hlong
        · exact h2
      have HZ := Lib.hid hzl
      clear hlong hzl hconv
      go_wp2_with fail
      go_ret2
      exact ⟨by rw [← HR.out, if_pos HZ.out]; rfl, H2.out⟩
    · have tl : decide ((262144 : Int) < (o.length : Int)) = false := decide_eq_false (by omega)
      have hzl : o = z := by
        rcases HO.out with e | ⟨h1, _⟩
        · exact e
        · exact absurd h1 hlong
      have hzn : ¬ 262144 < z.length := by rw [← hzl]; exact hlong
      have HZ := Lib.hid (And.intro hzn hzl)
      clear hlong hzl hzn
      go_wp2_with fail
      go_ret2
      exact ⟨by rw [← HR.out, if_neg HZ.out.1, HZ.out.2]; rfl, H2.out⟩
end Go.Proofs.YtdgmbmoaeoakpaaDoor

namespace Go.Proofs.YtdgmbmoaeoakpaaDoor
open Go Go.RowKit Go.Lib

theorem it0 : Lib.itoa (0 : Int) = [48] := (Lib.itoa_nonneg 0).trans ((Lib.decDigits_one (by decide)).trans rfl)
theorem it1 : Lib.itoa (1 : Int) = [49] := (Lib.itoa_nonneg 1).trans ((Lib.decDigits_one (by decide)).trans rfl)
theorem it2 : Lib.itoa (2 : Int) = [50] := (Lib.itoa_nonneg 2).trans ((Lib.decDigits_one (by decide)).trans rfl)
theorem it3 : Lib.itoa (3 : Int) = [51] := (Lib.itoa_nonneg 3).trans ((Lib.decDigits_one (by decide)).trans rfl)
theorem it4 : Lib.itoa (4 : Int) = [52] := (Lib.itoa_nonneg 4).trans ((Lib.decDigits_one (by decide)).trans rfl)
theorem it5 : Lib.itoa (5 : Int) = [53] := (Lib.itoa_nonneg 5).trans ((Lib.decDigits_one (by decide)).trans rfl)
theorem fx1 : U.fixS ⟨#[49]⟩ = ⟨#[49]⟩ := U.fixS_valid _ (by decide +kernel)
theorem fx2 : U.fixS ⟨#[50]⟩ = ⟨#[50]⟩ := U.fixS_valid _ (by decide +kernel)
def w8T1 : V.T := (.cons ⟨#[114, 101, 115, 117, 108, 116, 73, 100]⟩ 4 ⟨#[49]⟩ .nil .nil (.cons ⟨#[100, 97, 116, 97]⟩ 5 ⟨#[]⟩ (.cons ⟨#[]⟩ 3 ⟨#[48]⟩ .nil .nil (.cons ⟨#[]⟩ 3 ⟨#[52]⟩ .nil .nil (.cons ⟨#[]⟩ 3 ⟨#[51]⟩ .nil .nil (.cons ⟨#[]⟩ 3 ⟨#[48]⟩ .nil .nil (.cons ⟨#[]⟩ 3 ⟨#[48]⟩ .nil .nil .nil))))) .nil .nil))
def w8T2 : V.T := (.cons ⟨#[114, 101, 115, 117, 108, 116, 73, 100]⟩ 4 ⟨#[50]⟩ .nil .nil (.cons ⟨#[101, 100, 105, 116, 115]⟩ 5 ⟨#[]⟩ (.cons ⟨#[]⟩ 6 ⟨#[]⟩ .nil (.cons ⟨#[115, 116, 97, 114, 116]⟩ 3 ⟨#[53]⟩ .nil .nil (.cons ⟨#[100, 101, 108, 101, 116, 101, 67, 111, 117, 110, 116]⟩ 3 ⟨#[48]⟩ .nil .nil (.cons ⟨#[100, 97, 116, 97]⟩ 5 ⟨#[]⟩ (.cons ⟨#[]⟩ 3 ⟨#[49]⟩ .nil .nil (.cons ⟨#[]⟩ 3 ⟨#[50]⟩ .nil .nil .nil)) .nil .nil))) .nil) .nil .nil))
def w8T3 : V.T := (.cons ⟨#[]⟩ 6 ⟨#[]⟩ .nil (.cons ⟨#[115, 116, 97, 114, 116, 76, 105, 110, 101]⟩ 3 ⟨#[49]⟩ .nil .nil (.cons ⟨#[101, 110, 100, 76, 105, 110, 101]⟩ 3 ⟨#[51]⟩ .nil .nil .nil)) (.cons ⟨#[]⟩ 6 ⟨#[]⟩ .nil (.cons ⟨#[115, 116, 97, 114, 116, 76, 105, 110, 101]⟩ 3 ⟨#[52]⟩ .nil .nil (.cons ⟨#[101, 110, 100, 76, 105, 110, 101]⟩ 3 ⟨#[53]⟩ .nil .nil (.cons ⟨#[107, 105, 110, 100]⟩ 4 ⟨#[99, 111, 109, 109, 101, 110, 116]⟩ .nil .nil .nil))) .nil))
def w8T4 : V.T := (.cons ⟨#[]⟩ 6 ⟨#[]⟩ .nil (.cons ⟨#[114, 97, 110, 103, 101]⟩ 6 ⟨#[]⟩ .nil (.cons ⟨#[115, 116, 97, 114, 116]⟩ 6 ⟨#[]⟩ .nil (.cons ⟨#[108, 105, 110, 101]⟩ 3 ⟨#[48]⟩ .nil .nil (.cons ⟨#[99, 104, 97, 114, 97, 99, 116, 101, 114]⟩ 3 ⟨#[49]⟩ .nil .nil .nil)) (.cons ⟨#[101, 110, 100]⟩ 6 ⟨#[]⟩ .nil (.cons ⟨#[108, 105, 110, 101]⟩ 3 ⟨#[48]⟩ .nil .nil (.cons ⟨#[99, 104, 97, 114, 97, 99, 116, 101, 114]⟩ 3 ⟨#[50]⟩ .nil .nil .nil)) .nil)) (.cons ⟨#[112, 97, 114, 101, 110, 116]⟩ 6 ⟨#[]⟩ .nil (.cons ⟨#[114, 97, 110, 103, 101]⟩ 6 ⟨#[]⟩ .nil (.cons ⟨#[115, 116, 97, 114, 116]⟩ 6 ⟨#[]⟩ .nil (.cons ⟨#[108, 105, 110, 101]⟩ 3 ⟨#[48]⟩ .nil .nil (.cons ⟨#[99, 104, 97, 114, 97, 99, 116, 101, 114]⟩ 3 ⟨#[48]⟩ .nil .nil .nil)) (.cons ⟨#[101, 110, 100]⟩ 6 ⟨#[]⟩ .nil (.cons ⟨#[108, 105, 110, 101]⟩ 3 ⟨#[49]⟩ .nil .nil (.cons ⟨#[99, 104, 97, 114, 97, 99, 116, 101, 114]⟩ 3 ⟨#[48]⟩ .nil .nil .nil)) .nil)) .nil) .nil)) (.cons ⟨#[]⟩ 0 ⟨#[]⟩ .nil .nil .nil))
theorem w8e1 : full_anyT ⟨#[49]⟩ [0, 4, 3, 0, 0] = w8T1 := by
  unfold full_anyT
  simp only [nmT, fx1, it0, it3, it4]
  rfl
theorem w8e2 (p : Option Addr) (n c : Nat) : delta_anyT ⟨#[50]⟩ [⟨5, 0, p, n, c, [1, 2]⟩] = w8T2 := by
  unfold delta_anyT
  simp only [listSpT, spliceT, nmT, fx2, it0, it1, it2, it5]
  rfl
theorem w8e3 : listFoT [⟨1, 3, false⟩, ⟨4, 5, true⟩] = w8T3 := by
  simp only [listFoT, foldT, it1, it3, it4, it5]
  rfl
theorem w8e4 (p q : Option Addr) (n m c d : Nat) : listChT [⟨p, n, c, [⟨0, 1, 0, 2⟩, ⟨0, 0, 1, 0⟩]⟩, ⟨q, m, d, []⟩] = w8T4 := by
  simp only [listChT, chainT, chT, rangeT, posT, it0, it1, it2]
  rfl
theorem w8p1 : prn 6 ⟨#[]⟩ .nil w8T1 = (⟨#[123, 34, 114, 101, 115, 117, 108, 116, 73, 100, 34, 58, 34, 49, 34, 44, 34, 100, 97, 116, 97, 34, 58, 91, 48, 44, 52, 44, 51, 44, 48, 44, 48, 93, 125]⟩, 0) := by kernel_rfl
theorem w8p2 : prn 6 ⟨#[]⟩ .nil w8T2 = (⟨#[123, 34, 114, 101, 115, 117, 108, 116, 73, 100, 34, 58, 34, 50, 34, 44, 34, 101, 100, 105, 116, 115, 34, 58, 91, 123, 34, 115, 116, 97, 114, 116, 34, 58, 53, 44, 34, 100, 101, 108, 101, 116, 101, 67, 111, 117, 110, 116, 34, 58, 48, 44, 34, 100, 97, 116, 97, 34, 58, 91, 49, 44, 50, 93, 125, 93, 125]⟩, 0) := by kernel_rfl
theorem w8p3 : prn 5 ⟨#[]⟩ w8T3 .nil = (⟨#[91, 123, 34, 115, 116, 97, 114, 116, 76, 105, 110, 101, 34, 58, 49, 44, 34, 101, 110, 100, 76, 105, 110, 101, 34, 58, 51, 125, 44, 123, 34, 115, 116, 97, 114, 116, 76, 105, 110, 101, 34, 58, 52, 44, 34, 101, 110, 100, 76, 105, 110, 101, 34, 58, 53, 44, 34, 107, 105, 110, 100, 34, 58, 34, 99, 111, 109, 109, 101, 110, 116, 34, 125, 93]⟩, 0) := by kernel_rfl
theorem w8p4 : prn 5 ⟨#[]⟩ w8T4 .nil = (⟨#[91, 123, 34, 114, 97, 110, 103, 101, 34, 58, 123, 34, 115, 116, 97, 114, 116, 34, 58, 123, 34, 108, 105, 110, 101, 34, 58, 48, 44, 34, 99, 104, 97, 114, 97, 99, 116, 101, 114, 34, 58, 49, 125, 44, 34, 101, 110, 100, 34, 58, 123, 34, 108, 105, 110, 101, 34, 58, 48, 44, 34, 99, 104, 97, 114, 97, 99, 116, 101, 114, 34, 58, 50, 125, 125, 44, 34, 112, 97, 114, 101, 110, 116, 34, 58, 123, 34, 114, 97, 110, 103, 101, 34, 58, 123, 34, 115, 116, 97, 114, 116, 34, 58, 123, 34, 108, 105, 110, 101, 34, 58, 48, 44, 34, 99, 104, 97, 114, 97, 99, 116, 101, 114, 34, 58, 48, 125, 44, 34, 101, 110, 100, 34, 58, 123, 34, 108, 105, 110, 101, 34, 58, 49, 44, 34, 99, 104, 97, 114, 97, 99, 116, 101, 114, 34, 58, 48, 125, 125, 125, 125, 44, 110, 117, 108, 108, 93]⟩, 0) := by kernel_rfl
theorem w8s1 : Sm w8T1 := by unfold w8T1; simp only [Sm, and_true, true_and]; decide
theorem w8s2 : Sm w8T2 := by unfold w8T2; simp only [Sm, and_true, true_and]; decide
theorem w8s3 : Sm w8T3 := by unfold w8T3; simp only [Sm, and_true, true_and]; decide
theorem w8s4 : Sm w8T4 := by unfold w8T4; simp only [Sm, and_true, true_and]; decide
theorem w8w1 : wgt w8T1 ≤ 10000 := by decide +kernel
theorem w8w2 : wgt w8T2 ≤ 10000 := by decide +kernel
theorem w8w3 : wgt w8T3 ≤ 10000 := by decide +kernel
theorem w8w4 : wgt w8T4 ≤ 10000 := by decide +kernel
theorem printF {N : Nat} {T : V.T} {S : ByteArray} {y : Value} {w : World} (h : VF N 6 ⟨#[]⟩ .nil T y w) (hs : Sm T) (hw : wgt T ≤ 10000) (hp : prn 6 ⟨#[]⟩ .nil T = (S, 0)) (hT : Tabs w) : Calls Tryd.prog 64 #[y] w (PrIs (S, 0) w) := by
  obtain ⟨p, n, c, q, m, d, rfl, h1, h2⟩ := h
  rw [← hp]
  exact print_any 6 _ _ _ .nil T _ w ⟨h1, h2, by decide, by decide, trivial, hs, by show 6 * 0 + 10 + 0 + wgt T ≤ 100000000000; omega⟩ hT
theorem printL {N : Nat} {T : V.T} {S : ByteArray} {y : Value} {w : World} (h : VF N 5 ⟨#[]⟩ T .nil y w) (hs : Sm T) (hw : wgt T ≤ 10000) (hp : prn 5 ⟨#[]⟩ T .nil = (S, 0)) (hT : Tabs w) : Calls Tryd.prog 64 #[y] w (PrIs (S, 0) w) := by
  obtain ⟨p, n, c, q, m, d, rfl, h1, h2⟩ := h
  rw [← hp]
  exact print_any 5 _ _ _ T .nil _ w ⟨h1, h2, by decide, by decide, hs, trivial, by show 6 * 0 + 10 + wgt T + 0 ≤ 100000000000; omega⟩ hT
end Go.Proofs.YtdgmbmoaeoakpaaDoor

namespace Go.Proofs.YtdgmbmoaeoakpaaDoor
open Go Go.RowKit Go.Lib

def True8 (w : World) (e : Ending) (w' : World) : Prop := e = .returned (.bool true) ∧ Below w.heap.size w w'
theorem new_cell (w : World) (cs : Array Value) (t : TypeId) (j : Nat) (v : Value) (h : cs[j]? = some v) : (w.alloc (.cells cs t)).cell? ⟨w.heap.size, j, none⟩ = some v := (cell_of_row _ _ j cs t (0, 0) (heap_alloc_new _ _)).trans h
theorem old_cell (w : World) (o : Obj) {b j : Nat} {v : Value} (h : w.cell? ⟨b, j, none⟩ = some v) : (w.alloc o).cell? ⟨b, j, none⟩ = some v := ((Below.refl w.heap.size w).alloc (Nat.le_refl _) o).cell (p := ⟨b, j, none⟩) (World.block_lt_of_cell? w _ h) |>.trans h
theorem k5 : I64 5 := ⟨by decide, by decide⟩
theorem k0 : I64 0 := ⟨by decide, by decide⟩
theorem i64n (n : Nat) (h : n < 1000) : I64 (n : Int) := ⟨by omega, by omega⟩
set_option maxRecDepth 100000 in
theorem w8i1 (w : World) : SrcI (w.alloc (.cells #[.int .i64 0, .int .i64 4, .int .i64 3, .int .i64 0, .int .i64 0] 3)) (.slice (some ⟨w.heap.size, 0, none⟩) 5 5) [0, 4, 3, 0, 0] := by
  refine .inr ⟨_, 0, 5, rfl, by decide, by decide, by simp, fun j n hj => ?_, fun n hn => ?_⟩
  · rw [Nat.zero_add]
    match j, hj with
    | 0, hj => cases hj; exact new_cell _ _ _ 0 _ rfl
    | 1, hj => cases hj; exact new_cell _ _ _ 1 _ rfl
    | 2, hj => cases hj; exact new_cell _ _ _ 2 _ rfl
    | 3, hj => cases hj; exact new_cell _ _ _ 3 _ rfl
    | 4, hj => cases hj; exact new_cell _ _ _ 4 _ rfl
  · simp only [List.mem_cons, List.not_mem_nil, or_false] at hn
    rcases hn with rfl | rfl | rfl | rfl | rfl <;> exact ⟨by decide, by decide⟩
theorem w8i2 (w : World) : SrcI (w.alloc (.cells #[.int .i64 1, .int .i64 2] 3)) (.slice (some ⟨w.heap.size, 0, none⟩) 2 2) [1, 2] := by
  refine .inr ⟨_, 0, 2, rfl, by decide, by decide, by simp, fun j n hj => ?_, fun n hn => ?_⟩
  · rw [Nat.zero_add]
    match j, hj with
    | 0, hj => cases hj; exact new_cell _ _ _ 0 _ rfl
    | 1, hj => cases hj; exact new_cell _ _ _ 1 _ rfl
  · simp only [List.mem_cons, List.not_mem_nil, or_false] at hn
    rcases hn with rfl | rfl <;> exact ⟨by decide, by decide⟩
theorem w8s (w : World) : SrcS ((w.alloc (.cells #[.int .i64 1, .int .i64 2] 3)).alloc (.cells #[.int .i64 5, .int .i64 0, .slice (some ⟨w.heap.size, 0, none⟩) 2 2] 81)) (.slice (some ⟨w.heap.size + 1, 0, none⟩) 1 1) [⟨5, 0, some ⟨w.heap.size, 0, none⟩, 2, 2, [1, 2]⟩] := by
  have hz := World.size_alloc w (.cells #[.int .i64 1, .int .i64 2] 3)
  have hn := fun j v h => new_cell (w.alloc (.cells #[.int .i64 1, .int .i64 2] 3)) #[.int .i64 5, .int .i64 0, .slice (some ⟨w.heap.size, 0, none⟩) 2 2] 81 j v h
  rw [hz] at hn
  refine .inr ⟨_, 0, 1, rfl, Nat.le_refl 1, by decide, by simp, fun j e hj => ?_, fun e he => ?_⟩
  · match j, hj with
    | 0, hj => cases hj; exact ⟨hn 0 _ rfl, hn 1 _ rfl, hn 2 _ rfl⟩
  · obtain rfl := List.mem_singleton.1 he
    exact ⟨k5, k0, (w8i2 w).below ((Below.refl _ _).alloc (Nat.le_refl _) _), (by show (2 : Nat) ≤ 1000000; decide)⟩
theorem w8f (w : World) : SrcF (w.alloc (.cells #[.int .i64 1, .int .i64 3, .bool false, .int .i64 4, .int .i64 5, .bool true] 89)) (.slice (some ⟨w.heap.size, 0, none⟩) 2 2) [⟨1, 3, false⟩, ⟨4, 5, true⟩] := by
  have hn := fun j v h => new_cell w #[.int .i64 1, .int .i64 3, .bool false, .int .i64 4, .int .i64 5, .bool true] 89 j v h
  refine .inr ⟨_, 0, 2, rfl, by decide, by decide, by simp, fun j e hj => ?_, fun e he => ?_⟩
  · match j, hj with
    | 0, hj => cases hj; exact ⟨hn 0 _ rfl, hn 1 _ rfl, hn 2 _ rfl⟩
    | 1, hj => cases hj; exact ⟨hn 3 _ rfl, hn 4 _ rfl, hn 5 _ rfl⟩
  · simp only [List.mem_cons, List.not_mem_nil, or_false] at he
    rcases he with rfl | rfl <;> exact ⟨⟨by decide, by decide⟩, ⟨by decide, by decide⟩⟩
theorem w8r (w : World) : SrcR (w.alloc (.cells #[.int .i64 0, .int .i64 1, .int .i64 0, .int .i64 2, .int .i64 0, .int .i64 0, .int .i64 1, .int .i64 0] 74)) (.slice (some ⟨w.heap.size, 0, none⟩) 2 2) [⟨0, 1, 0, 2⟩, ⟨0, 0, 1, 0⟩] := by
  have hn := fun j v h => new_cell w #[.int .i64 0, .int .i64 1, .int .i64 0, .int .i64 2, .int .i64 0, .int .i64 0, .int .i64 1, .int .i64 0] 74 j v h
  refine .inr ⟨_, 0, 2, rfl, by decide, by decide, by simp, fun j e hj => ?_, fun e he => ?_⟩
  · match j, hj with
    | 0, hj => cases hj; exact ⟨hn 0 _ rfl, hn 1 _ rfl, hn 2 _ rfl, hn 3 _ rfl⟩
    | 1, hj => cases hj; exact ⟨hn 4 _ rfl, hn 5 _ rfl, hn 6 _ rfl, hn 7 _ rfl⟩
  · simp only [List.mem_cons, List.not_mem_nil, or_false] at he
    rcases he with rfl | rfl <;> exact ⟨⟨by decide, by decide⟩, ⟨by decide, by decide⟩, ⟨by decide, by decide⟩, ⟨by decide, by decide⟩⟩
theorem w8c (w : World) : SrcC (((w.alloc (.cells #[.int .i64 0, .int .i64 1, .int .i64 0, .int .i64 2, .int .i64 0, .int .i64 0, .int .i64 1, .int .i64 0] 74)).alloc (.cells #[] 74)).alloc (.cells #[.slice (some ⟨w.heap.size, 0, none⟩) 2 2, .slice (some ⟨w.heap.size + 1, 0, none⟩) 0 0] 58)) (.slice (some ⟨w.heap.size + 2, 0, none⟩) 2 2) [⟨some ⟨w.heap.size, 0, none⟩, 2, 2, [⟨0, 1, 0, 2⟩, ⟨0, 0, 1, 0⟩]⟩, ⟨some ⟨w.heap.size + 1, 0, none⟩, 0, 0, []⟩] := by
  have hn := fun j v h => new_cell ((w.alloc (.cells #[.int .i64 0, .int .i64 1, .int .i64 0, .int .i64 2, .int .i64 0, .int .i64 0, .int .i64 1, .int .i64 0] 74)).alloc (.cells #[] 74)) #[.slice (some ⟨w.heap.size, 0, none⟩) 2 2, .slice (some ⟨w.heap.size + 1, 0, none⟩) 0 0] 58 j v h
  have hz : ((w.alloc (.cells #[.int .i64 0, .int .i64 1, .int .i64 0, .int .i64 2, .int .i64 0, .int .i64 0, .int .i64 1, .int .i64 0] 74)).alloc (.cells #[] 74)).heap.size = w.heap.size + 2 := by simp
  rw [hz] at hn
  refine .inr ⟨_, 0, 2, rfl, Nat.le_refl 2, by decide, by simp, fun j e hj => ?_, fun e he => ?_⟩
  · match j, hj with
    | 0, hj => cases hj; exact hn 0 _ rfl
    | 1, hj => cases hj; exact hn 1 _ rfl
  · simp only [List.mem_cons, List.not_mem_nil, or_false] at he
    rcases he with rfl | rfl
    · exact ⟨((w8r w).below ((Below.refl _ _).alloc (Nat.le_refl _) _)).below ((Below.refl _ _).alloc (Nat.le_refl _) _), (by show (2 : Nat) ≤ 1000000; decide)⟩
    · exact ⟨.inl ⟨rfl, _, _, rfl, (by show (0 : Nat) ≤ 9223372036854775807; decide)⟩, (by show (0 : Nat) ≤ 1000000; decide)⟩

set_option maxHeartbeats 4000000 in
set_option maxRecDepth 100000 in
theorem awake8_any (w : World) (hP : PowTab w) (hT : Tabs w) : Calls Tryd.prog 32 #[] w (True8 w) := by
  have HPo := Lib.hid (fun W (h : Below w.heap.size w W) => pow_below hP h)
  have HTo := Lib.hid (fun W (h : Below w.heap.size w W) => tabs_below hT h)
  have H1 := Lib.hid (fun W (h : Below w.heap.size w W) => (show Calls Tryd.prog 24 #[.string ⟨#[49]⟩, .slice (some ⟨W.heap.size, 0, none⟩) 5 5] (W.alloc (.cells #[.int .i64 0, .int .i64 4, .int .i64 3, .int .i64 0, .int .i64 0] 3)) (RetV 0 6 ⟨#[]⟩ .nil w8T1 (W.alloc (.cells #[.int .i64 0, .int .i64 4, .int .i64 3, .int .i64 0, .int .i64 0] 3))) from by
    have hb := h.alloc h.size (.cells #[.int .i64 0, .int .i64 4, .int .i64 3, .int .i64 0, .int .i64 0] 3)
    rw [← w8e1]
    exact full_any ⟨#[49]⟩ _ 5 5 _ 0 _ (by decide) (w8i1 W) (by decide) (Nat.zero_le _) (HPo.out _ hb) (HTo.out _ hb)))
  have H2 := Lib.hid (fun W (h : Below w.heap.size w W) => (show Calls Tryd.prog 26 #[.string ⟨#[50]⟩, .slice (some ⟨W.heap.size + 1, 0, none⟩) 1 1] ((W.alloc (.cells #[.int .i64 1, .int .i64 2] 3)).alloc (.cells #[.int .i64 5, .int .i64 0, .slice (some ⟨W.heap.size, 0, none⟩) 2 2] 81)) (RetV 0 6 ⟨#[]⟩ .nil w8T2 ((W.alloc (.cells #[.int .i64 1, .int .i64 2] 3)).alloc (.cells #[.int .i64 5, .int .i64 0, .slice (some ⟨W.heap.size, 0, none⟩) 2 2] 81))) from by
    have hb := (h.alloc h.size (.cells #[.int .i64 1, .int .i64 2] 3)).alloc (by simp; have := h.size; omega) (.cells #[.int .i64 5, .int .i64 0, .slice (some ⟨W.heap.size, 0, none⟩) 2 2] 81)
    rw [← w8e2 (some ⟨W.heap.size, 0, none⟩) 2 2]
    exact delta_any ⟨#[50]⟩ _ 1 1 _ 0 _ (by decide) (w8s W) (by show (1 : Nat) ≤ 1000000; decide) (Nat.zero_le _) (HPo.out _ hb) (HTo.out _ hb)))
  have H3 := Lib.hid (fun W (h : Below w.heap.size w W) => (show Calls Tryd.prog 28 #[.slice (some ⟨W.heap.size, 0, none⟩) 2 2] (W.alloc (.cells #[.int .i64 1, .int .i64 3, .bool false, .int .i64 4, .int .i64 5, .bool true] 89)) (RetV 0 5 ⟨#[]⟩ w8T3 .nil (W.alloc (.cells #[.int .i64 1, .int .i64 3, .bool false, .int .i64 4, .int .i64 5, .bool true] 89))) from by
    have hb := h.alloc h.size (.cells #[.int .i64 1, .int .i64 3, .bool false, .int .i64 4, .int .i64 5, .bool true] 89)
    rw [← w8e3]
    exact folds_any _ 2 2 _ 0 _ (Nat.zero_le _) (w8f W) (by decide) (HPo.out _ hb) (HTo.out _ hb)))
  have H4 := Lib.hid (fun W (h : Below w.heap.size w W) => (show Calls Tryd.prog 30 #[.slice (some ⟨W.heap.size + 2, 0, none⟩) 2 2] (((W.alloc (.cells #[.int .i64 0, .int .i64 1, .int .i64 0, .int .i64 2, .int .i64 0, .int .i64 0, .int .i64 1, .int .i64 0] 74)).alloc (.cells #[] 74)).alloc (.cells #[.slice (some ⟨W.heap.size, 0, none⟩) 2 2, .slice (some ⟨W.heap.size + 1, 0, none⟩) 0 0] 58)) (RetV 0 5 ⟨#[]⟩ w8T4 .nil (((W.alloc (.cells #[.int .i64 0, .int .i64 1, .int .i64 0, .int .i64 2, .int .i64 0, .int .i64 0, .int .i64 1, .int .i64 0] 74)).alloc (.cells #[] 74)).alloc (.cells #[.slice (some ⟨W.heap.size, 0, none⟩) 2 2, .slice (some ⟨W.heap.size + 1, 0, none⟩) 0 0] 58))) from by
    have hb := ((h.alloc h.size (.cells #[.int .i64 0, .int .i64 1, .int .i64 0, .int .i64 2, .int .i64 0, .int .i64 0, .int .i64 1, .int .i64 0] 74)).alloc (by simp; have := h.size; omega) (.cells #[] 74)).alloc (by simp; have := h.size; omega) (.cells #[.slice (some ⟨W.heap.size, 0, none⟩) 2 2, .slice (some ⟨W.heap.size + 1, 0, none⟩) 0 0] 58)
    rw [← w8e4 (some ⟨W.heap.size, 0, none⟩) (some ⟨W.heap.size + 1, 0, none⟩) 2 0 2 0]
    exact chains_any _ 2 2 _ 0 _ (Nat.zero_le _) (w8c W) (by show (2 : Nat) ≤ 1000000; decide) (HPo.out _ hb)))
  clear hP hT
  go_enter Tryd.func32, Tryd.ntmps32
  go_wp2_with fail
  refine (H1.out w (Below.refl _ _)).mono ?_
  rintro e w1 ⟨y, rfl, hv, hB⟩
  have B1 := Lib.hid (((Below.refl w.heap.size w).alloc (Nat.le_refl _) (.cells #[.int .i64 0, .int .i64 4, .int .i64 3, .int .i64 0, .int .i64 0] 3)).trans (hB.mono (by simp)))
  have HV := Lib.hid hv
  clear hv hB
  go_wp2_with fail
  refine (printF HV.out w8s1 w8w1 w8p1 (HTo.out _ B1.out)).mono ?_
  rintro e w2 ⟨rfl, hB⟩
  have B2 := Lib.hid (B1.out.trans (hB.mono B1.out.size))
  clear hB HV
  go_wp2_with fail
  refine (H2.out w2 B2.out).mono ?_
  rintro e w3 ⟨y, rfl, hv, hB⟩
  have B3 := Lib.hid (((B2.out.alloc B2.out.size (.cells #[.int .i64 1, .int .i64 2] 3)).alloc (by simp; have := B2.out.size; omega) (.cells #[.int .i64 5, .int .i64 0, .slice (some ⟨w2.heap.size, 0, none⟩) 2 2] 81)).trans (hB.mono (by simp; have := B2.out.size; omega)))
  have HV := Lib.hid hv
  clear hv hB
  go_wp2_with fail
  refine (printF HV.out w8s2 w8w2 w8p2 (HTo.out _ B3.out)).mono ?_
  rintro e w4 ⟨rfl, hB⟩
  have B4 := Lib.hid (B3.out.trans (hB.mono B3.out.size))
  clear hB HV
  go_wp2_with fail
  refine (H3.out w4 B4.out).mono ?_
  rintro e w5 ⟨y, rfl, hv, hB⟩
  have B5 := Lib.hid ((B4.out.alloc B4.out.size (.cells #[.int .i64 1, .int .i64 3, .bool false, .int .i64 4, .int .i64 5, .bool true] 89)).trans (hB.mono (by simp; have := B4.out.size; omega)))
  have HV := Lib.hid hv
  clear hv hB
  go_wp2_with fail
  refine (printL HV.out w8s3 w8w3 w8p3 (HTo.out _ B5.out)).mono ?_
  rintro e w6 ⟨rfl, hB⟩
  have B6 := Lib.hid (B5.out.trans (hB.mono B5.out.size))
  clear hB HV
  go_wp2_with fail
  refine (H4.out w6 B6.out).mono ?_
  rintro e w7 ⟨y, rfl, hv, hB⟩
  have B7 := Lib.hid ((((B6.out.alloc B6.out.size (.cells #[.int .i64 0, .int .i64 1, .int .i64 0, .int .i64 2, .int .i64 0, .int .i64 0, .int .i64 1, .int .i64 0] 74)).alloc (by simp; have := B6.out.size; omega) (.cells #[] 74)).alloc (by simp; have := B6.out.size; omega) (.cells #[.slice (some ⟨w6.heap.size, 0, none⟩) 2 2, .slice (some ⟨w6.heap.size + 1, 0, none⟩) 0 0] 58)).trans (hB.mono (by simp; have := B6.out.size; omega)))
  have HV := Lib.hid hv
  clear hv hB
  go_wp2_with fail
  refine (printL HV.out w8s4 w8w4 w8p4 (HTo.out _ B7.out)).mono ?_
  rintro e w8 ⟨rfl, hB⟩
  have B8 := Lib.hid (B7.out.trans (hB.mono B7.out.size))
  clear hB HV
  go_wp2_with fail
  go_ret
  exact ⟨rfl, B8.out⟩
end Go.Proofs.YtdgmbmoaeoakpaaDoor
