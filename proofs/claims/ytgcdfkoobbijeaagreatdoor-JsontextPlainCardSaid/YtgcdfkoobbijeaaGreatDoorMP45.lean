/- The program's May and Print. Conditions: strings of at most 10^12 bytes; what is written is at most 10^11 bytes; the library's tables of UTF-8 as its text lays them. -/
import Derived.Test.YtgcdfkoobbijeaaGreatDoorMP31
import Derived.Test.YtgcdfkoobbijeaaGreatDoorMP44
import Derived.Test.YtgcdfkoobbijeaaGreatDoorMP04
import Derived.Test.YtgcdfkoobbijeaaGreatDoorMP05
import Derived.Test.YtgcdfkoobbijeaaGreatDoorProg
import Derived.Shelf.Lays
import Derived.Shelf.LaysM
import Derived.Shelf.LaysC
import Derived.KernelRfl
namespace Go.Proofs.YtgcdfkoobbijeaaGreatDoor
open Go Go.RowKit Go.Shelf Go.Lib

/-- the same, or both too long -/
def Eq2 (y z : List UInt8) : Prop := y = z ∨ (262144 < y.length ∧ 262144 < z.length)
theorem Eq2.app {y z : List UInt8} (h : Eq2 y z) (c : List UInt8) : Eq2 (y ++ c) (z ++ c) := by
  rcases h with h | ⟨h1, h2⟩
  · exact .inl (by rw [h])
  · exact .inr ⟨by rw [List.length_append]; omega, by rw [List.length_append]; omega⟩
/-- how the program's writer writes, and what is written -/
theorem aT_wr : ∀ (t : V.T) (d : Nat) (first : Bool) (b z : List UInt8), Eq2 b z → Eq2 (aT t d first b) (z ++ wrT t d first)
  | .nil, _, _, b, z, h => by
    show Eq2 b (z ++ [])
    rw [List.append_nil]
    exact h
  | .cons nm k x l f tl, d, first, b, z, h => by
    rw [aT_cons, wrT_cons, ← List.append_assoc, ← List.append_assoc]
    apply aT_wr tl d false
    have hb := h.app (ahead d first nm)
    generalize b ++ ahead d first nm = y at *
    generalize z ++ ahead d first nm = u at *
    unfold aV wrV
    by_cases hlong : y.length > 262144
    · rw [if_pos hlong]
      rcases hb with e | ⟨_, h2⟩
      · exact .inr ⟨hlong, by rw [← e, List.length_append]; omega⟩
      · exact .inr ⟨hlong, by rw [List.length_append]; omega⟩
    · rw [if_neg hlong]
      split
      · rw [← List.append_assoc, ← List.append_assoc]
        exact (aT_wr l 0 true _ _ (hb.app [91])).app [93]
      split
      · rw [← List.append_assoc, ← List.append_assoc]
        exact (aT_wr f 1 true _ _ (hb.app [123])).app [125]
      · exact hb.app _
theorem aV_wr (k : Nat) (x : ByteArray) (l f : V.T) : Eq2 (aV k x l f []) (wrV k x l f) := by
  have h0 : Eq2 [] [] := .inl rfl
  unfold aV wrV
  rw [if_neg (by decide)]
  split
  · exact (aT_wr l 0 true _ _ (h0.app [91])).app [93]
  split
  · exact (aT_wr f 1 true _ _ (h0.app [123])).app [125]
  · exact h0.app _
theorem kd_of : ∀ {t : V.T} {d : Nat} {seen : List ByteArray} {dep : Nat}, mayT t d seen dep = true → Kd t
  | .nil, _, _, _, _ => trivial
  | .cons nm k x l f tl, d, seen, dep, h => by
    rw [mayT_cons, Bool.and_eq_true, Bool.and_eq_true] at h
    obtain ⟨⟨_, h2⟩, h3⟩ := h
    have hx : k = 3 → 0 < x.size := fun e => by
      subst e
      obtain ⟨_, hn, _, _⟩ := mayV_leaf h2 (by decide) (by decide)
      have h4 := nm_go (s := x) (p := 0) (Nat.zero_le _) (by rw [(numS_iff x).1 (show numS x = true from hn)])
      rw [(numS_iff x).1 (show numS x = true from hn)] at h4
      exact h4
    refine ⟨⟨mayV_six h2, hx⟩, ?_, ?_, kd_of h3⟩
    · by_cases h5 : k = 5
      · subst h5; exact kd_of (mayV_list h2).2.2.1
      by_cases h6 : k = 6
      · subst h6; rw [(mayV_obj h2).2.2.2]; trivial
      · rw [(mayV_leaf h2 h5 h6).2.2.1]; trivial
    · by_cases h5 : k = 5
      · subst h5; rw [(mayV_list h2).2.2.2]; trivial
      by_cases h6 : k = 6
      · subst h6; exact kd_of (mayV_obj h2).2.2.1
      · rw [(mayV_leaf h2 h5 h6).2.2.2]; trivial
theorem kdV_of {k : Nat} {x : ByteArray} {l f : V.T} {dep : Nat} (h : mayV k x l f dep = true) : (k ≤ 6 ∧ (k = 3 → 0 < x.size)) ∧ Kd l ∧ Kd f := by
  have := kd_of (t := .cons ⟨#[]⟩ k x l f .nil) (d := 0) (seen := []) (dep := dep) (by rw [mayT_cons, h]; rfl)
  exact ⟨this.1, this.2.1, this.2.2.1⟩
/-- what is printed: the text, or the error -/
def prn (k : Nat) (x : ByteArray) (l f : V.T) : ByteArray × Nat :=
  if mayV k x l f 0 = true then (if 262144 < (wrV k x l f).length then (⟨#[]⟩, 3) else (⟨(wrV k x l f).toArray⟩, 0)) else (⟨#[]⟩, 40)
def PrIs (r : ByteArray × Nat) (w : World) (e : Ending) (w' : World) : Prop := e = .returned (.tuple #[.string r.1, .int .i64 r.2]) ∧ Below w.heap.size w w'
/-- a value such as is gone through -/
structure Gv (w : World) (A : Nat → Prop) (k : Nat) (x : ByteArray) (v u : Value) (l f : V.T) : Prop where
  hl : HS w A 0 v l
  hf : HS w A 1 u f
  kind : k < 256
  text : x.size ≤ 1000000000000
  sl : Sm l
  sf : Sm f
  len : 6 * x.size + 10 + wgt l + wgt f ≤ 100000000000
theorem Gv.below {w w' : World} {A : Nat → Prop} {k : Nat} {x : ByteArray} {v u : Value} {l f : V.T} (h : Gv w A k x v u l f) (hB : Below w.heap.size w w') : Gv w' A k x v u l f :=
  ⟨h.hl.below hB, h.hf.below hB, h.kind, h.text, h.sl, h.sf, h.len⟩
set_option maxRecDepth 100000 in
theorem may_any (k : Nat) (x : ByteArray) (va ua : Value) (l f : V.T) (A : Nat → Prop) (w : World) (h : Gv w A k x va ua l f) (hT : Tabs w) : Calls Tryz.prog 14 #[.agg #[.int .u8 k, .string x, va, ua]] w (Bools (mayV k x l f 0) w) := by
  have hB := (Below.refl w.heap.size w).alloc (Nat.le_refl _) (.cells #[.int .u8 k, .string x, va, ua] 25)
  have hm := may_ok (l.size + f.size + 1) k x va ua l f A 0 (w.alloc (.cells #[.int .u8 k, .string x, va, ua] 25)) (Nat.lt_succ_self _) h.kind h.text h.sl h.sf (h.hl.below hB) (h.hf.below hB) (Nat.zero_le _) (tabs_below hT hB)
  obtain ⟨p, c, rfl, -⟩ := h.hl.len
  obtain ⟨q, d, rfl, -⟩ := h.hf.len
  have HB := Lib.hid hB
  clear hB h hT
  go_enter Tryz.func14, Tryz.ntmps14
  go_wp2_with fail
  refine hm.mono ?_
  rintro e w1 ⟨rfl, hB1⟩
  have H1 := Lib.hid (HB.out.trans (hB1.mono HB.out.size))
  clear hB1 hm
  go_wp2_with fail
  go_ret
  exact ⟨rfl, H1.out⟩
set_option maxHeartbeats 1000000 in
set_option maxRecDepth 100000 in
theorem print_any (k : Nat) (x : ByteArray) (va ua : Value) (l f : V.T) (A : Nat → Prop) (w : World) (h : Gv w A k x va ua l f) (hT : Tabs w) : Calls Tryz.prog 10 #[.agg #[.int .u8 k, .string x, va, ua]] w (PrIs (prn k x l f) w) := by
  have hB := (Below.refl w.heap.size w).alloc (Nat.le_refl _) (.cells #[.int .u8 k, .string x, va, ua] 25)
  have hm := may_any k x va ua l f A _ (h.below hB) (tabs_below hT hB)
  have hbk : Blk4 (w.alloc (.cells #[.int .u8 k, .string x, va, ua] 25)) w.heap.size 25 (.int .u8 k) (.string x) va ua := heap_alloc_new _ _
  have HV := Lib.hid h
  unfold prn
  have e2 := aV_wr k x l f
  cases hmay : mayV k x l f 0
  · rw [hmay] at hm
    rw [if_neg (by decide)]
    obtain ⟨p, c, rfl, -⟩ := h.hl.len
    obtain ⟨q, d, rfl, -⟩ := h.hf.len
    obtain ⟨c0, c1, c2, c3⟩ := hbk.box
    have HB := Lib.hid hB
    clear hB h hT hmay hbk e2
    go_enter Tryz.func10, Tryz.ntmps10
    go_wp2_with fail
    refine hm.mono ?_
    rintro e w1 ⟨rfl, hB1⟩
    have H1 := Lib.hid (HB.out.trans (hB1.mono HB.out.size))
    clear hB1 hm c0 c1 c2 c3
    go_wp2_with fail
    go_ret2
    exact ⟨rfl, H1.out⟩
  · rw [hmay] at hm
    rw [if_pos rfl]
    obtain ⟨⟨hk6, hk3⟩, hkl, hkf⟩ := kdV_of hmay
    have hw := fun (W : World) (hW : Below w.heap.size w W) => wr_ok (l.size + f.size + 1) k x va ua l f (fun c => c < W.heap.size) W.heap.size (.slice none 0 0) [] W (Nat.lt_succ_self _) hk6 hk3 hkl hkf (by have := HV.out.len; simp only [List.length_nil]; omega)
      ((h.hl.below hW).mono (fun _ _ h => h)) ((h.hf.below hW).mono (fun _ _ h => h)) (fun _ h => h) ⟨rfl, .inl ⟨rfl, rfl⟩⟩ (Nat.le_refl _)
    generalize ho : aV k x l f [] = o at *
    generalize hz : wrV k x l f = z at *
    generalize hr : (if 262144 < z.length then ((⟨#[]⟩ : ByteArray), 3) else (⟨z.toArray⟩, 0)) = r
    have HR := Lib.hid hr
    clear hr
    have hol := aV_len k x l f []
    rw [ho] at hol
    have HOL := Lib.hid (show o.length ≤ 100000000000 by have := HV.out.len; simp only [List.length_nil] at hol; omega)
    obtain ⟨p, c, rfl, -⟩ := h.hl.len
    obtain ⟨q, d, rfl, -⟩ := h.hf.len
    obtain ⟨c0, c1, c2, c3⟩ := hbk.box
    have HB := Lib.hid hB
    have HBK := Lib.hid hbk
    have HO := Lib.hid e2
    have HW := Lib.hid hw
    clear hB h hT hmay hbk e2 ho hz hol hk6 hk3 hkl hkf hw
    go_enter Tryz.func10, Tryz.ntmps10
    go_wp2_with fail
    refine hm.mono ?_
    rintro e w1 ⟨rfl, hB1⟩
    have H1 := Lib.hid (HB.out.trans (hB1.mono HB.out.size))
    have hb1 := HBK.out.same (hB1.block _ HBK.out.lt)
    obtain ⟨d0, d1, d2, d3⟩ := hb1.box
    clear hB1 hm c0 c1 c2 c3 hb1
    go_wp2_with fail
    refine (HW.out _ H1.out).mono ?_
    rintro e w2 ⟨v', rfl, hown, hB2, _⟩
    have H2 := Lib.hid (H1.out.trans (hB2.mono H1.out.size))
    obtain ⟨p', c', rfl⟩ := own_shape hown
    have hconv := conv_own hown
    have hl2 := HOL.out
    clear hB2 d0 d1 d2 d3 hown
    by_cases hlong : 262144 < o.length
    · have tl : decide ((262144 : Int) < (o.length : Int)) = true := decide_eq_true (by omega)
      have hzl : 262144 < z.length := by
        rcases HO.out with e | ⟨_, h2⟩
        · rw [← e]; exact hlong
        · exact h2
      have HZ := Lib.hid hzl
      clear hlong hzl hconv
      go_wp2_with fail
      go_ret2
      exact ⟨by rw [← HR.out, if_pos HZ.out]; rfl, H2.out⟩
    · have tl : decide ((262144 : Int) < (o.length : Int)) = false := decide_eq_false (by omega)
      have hzl : o = z := by
        rcases HO.out with e | ⟨h1, _⟩
        · exact e
        · exact absurd h1 hlong
      have hzn : ¬ 262144 < z.length := by rw [← hzl]; exact hlong
      have HZ := Lib.hid (And.intro hzn hzl)
      clear hlong hzl hzn
      go_wp2_with fail
      go_ret2
      exact ⟨by rw [← HR.out, if_neg HZ.out.1, HZ.out.2]; rfl, H2.out⟩
end Go.Proofs.YtgcdfkoobbijeaaGreatDoor

namespace Go.Proofs.YtgcdfkoobbijeaaGreatDoor
open Go Go.RowKit Go.Lib

def SmallG (s : Nat) (L : Nat) (w : World) (en : Ending) (w' : World) : Prop := ∃ ok : Bool, en = .returned (.bool ok) ∧ (ok = true → s + 1 ≤ L) ∧ Below w.heap.size w w'
set_option maxRecDepth 100000 in
set_option maxHeartbeats 1000000 in
theorem smallG_any (ka : Nat) (xa : ByteArray) (va ua : Value) (la fa : V.T) (A : Nat → Prop) (L D : Nat) (w : World) (hL : L ≤ 1000000) (hD : D ≤ 1000000) (hva : HS w A 0 va la) (hua : HS w A 1 ua fa) :
    Calls Tryz.prog 36 #[.agg #[.int .u8 ka, .string xa, va, ua], .int .i64 L, .int .i64 D] w (SmallG (la.size + fa.size) L w) := by
  obtain ⟨pa, ca, rfl, ba0, ba1, ba2⟩ := hva.len
  obtain ⟨qa, da, rfl, ba5, ba3, ba4⟩ := hua.len
  have hc := fun W hW => count_any (la.size + fa.size + 1) ka xa _ _ la fa L D A W (Nat.lt_succ_self _) (by omega) (by omega) (by omega) (by omega) (hva.below hW) (hua.below hW)
  clear hva hua
  go_enter Tryz.func36, Tryz.ntmps36
  go_wp2_with fail
  have hB := (Below.refl w.heap.size w).alloc (Nat.le_refl _) (.cells #[.int .u8 ka, .string xa, .slice pa la.len ca, .slice qa fa.len da] 25)
  refine (hc _ hB).mono ?_
  rintro e w1 ⟨r, ok, rfl, hr0, _, hok, hB1⟩
  have HK := Lib.hid (And.intro hok hr0)
  have HB1 := Lib.hid (hB.trans (hB1.mono hB.size))
  clear hok hB hB1 hc hr0
  go_wp2_with fail
  go_ret
  exact ⟨ok, rfl, fun h => by have := HK.out.1 h; have := HK.out.2; omega, HB1.out⟩
/-- what is gone through is not great -/
def Fine4 (x : ByteArray) (la fa : V.T) : Prop := (la.len + fa.len = 0 ∧ x.size ≤ 524288) ∨ (la.size + fa.size + 1 ≤ 2000 ∧ x.size + szT la + szT fa ≤ 20000)
def Great4 (x : ByteArray) (la fa : V.T) (w : World) (en : Ending) (w' : World) : Prop := ∃ b : Bool, en = .returned (.bool b) ∧ (b = false → Fine4 x la fa) ∧ Below w.heap.size w w'
set_option maxRecDepth 100000 in
set_option maxHeartbeats 1000000 in
theorem great4_any (k : Nat) (x : ByteArray) (va ua : Value) (la fa : V.T) (A : Nat → Prop) (w : World) (hx : x.size ≤ 140737488355328) (hva : HS w A 0 va la) (hua : HS w A 1 ua fa) :
    Calls Tryz.prog 8 #[.agg #[.int .u8 k, .string x, va, ua]] w (Great4 x la fa w) := by
  have hB := (Below.refl w.heap.size w).alloc (Nat.le_refl _) (.cells #[.int .u8 k, .string x, va, ua] 25)
  have hbk : Blk4 (w.alloc (.cells #[.int .u8 k, .string x, va, ua] 25)) w.heap.size 25 (.int .u8 k) (.string x) va ua := heap_alloc_new _ _
  have hsm := fun W (hW : Below w.heap.size w W) => smallG_any k x va ua la fa A 2000 200 W (by decide) (by decide) (hva.below hW) (hua.below hW)
  have hlg := fun W (hW : Below w.heap.size w W) (h : la.size + fa.size ≤ 4000) => long_with (la.size + fa.size) (sz_ok _) k x va ua la fa A W (Nat.lt_succ_self _) h hx (hva.below hW) (hua.below hW)
  obtain ⟨pa, ca, rfl, ba0, ba1, ba2⟩ := hva.len
  obtain ⟨qa, da, rfl, ba5, ba3, ba4⟩ := hua.len
  have HLE := Lib.hid (And.intro (V.T.len_size la) (V.T.len_size fa))
  generalize ea : la.len = na at *
  generalize fa1 : fa.len = ma at *
  have HE := Lib.hid (And.intro ea fa1)
  obtain ⟨c0, c1, c2, c3⟩ := hbk.box
  have HB := Lib.hid hB
  have HBK := Lib.hid hbk
  have HSM := Lib.hid hsm
  have HLG := Lib.hid hlg
  clear hva hua hB hbk hsm hlg ea fa1
  by_cases h0 : na + ma = 0
  · have t0 : ((na : Int) + (ma : Int) == 0) = true := by simp; omega
    have H0 := Lib.hid h0
    have hna : na = 0 := by omega
    have hma : ma = 0 := by omega
    subst hna hma
    by_cases hl : 524288 < x.size
    · have tl : decide ((524288 : Int) < (x.size : Int)) = true := decide_eq_true (by omega)
      clear hl h0
      go_enter Tryz.func8, Tryz.ntmps8
      go_wp2_with fail
      go_ret
      exact ⟨true, rfl, (fun h => by cases h), HB.out⟩
    · have tl : decide ((524288 : Int) < (x.size : Int)) = false := decide_eq_false (by omega)
      have HL := Lib.hid hl
      clear hl h0
      go_enter Tryz.func8, Tryz.ntmps8
      go_wp2_with fail
      go_ret
      exact ⟨false, rfl, fun _ => .inl ⟨by have := HE.out; omega, by have := HL.out; omega⟩, HB.out⟩
  · have t0 : ((na : Int) + (ma : Int) == 0) = false := by simp; omega
    clear h0
    go_enter Tryz.func8, Tryz.ntmps8
    go_wp2_with fail
    refine (HSM.out _ HB.out).mono ?_
    rintro e w1 ⟨ok, rfl, hok, hB1⟩
    have H1 := Lib.hid (HB.out.trans (hB1.mono HB.out.size))
    have b1 := HBK.out.same (hB1.block _ HBK.out.lt)
    obtain ⟨d0, d1, d2, d3⟩ := b1.box
    clear hB1 c0 c1 c2 c3 b1
    cases ok
    · clear hok
      go_wp2_with fail
      go_ret
      exact ⟨true, rfl, (fun h => by cases h), H1.out⟩
    · have HK := Lib.hid (hok rfl)
      clear hok
      go_wp2_with fail
      refine (HLG.out _ H1.out (by have := HK.out; omega)).mono ?_
      rintro e w2 ⟨rfl, hB2⟩
      have H2 := Lib.hid (H1.out.trans (hB2.mono H1.out.size))
      obtain ⟨b, hb⟩ : ∃ b, b = decide (20000 < x.size + szT la + szT fa) := ⟨_, rfl⟩
      rw [← hb]
      have HBB := Lib.hid hb
      clear hB2 hb d0 d1 d2 d3
      go_wp2_with fail
      go_ret
      exact ⟨b, rfl, fun h => .inr ⟨HK.out, by
        have h2 := HBB.out
        rw [h] at h2
        have := of_decide_eq_false h2.symm
        omega⟩, H2.out⟩
theorem wgt_le : ∀ (t : V.T), wgt t ≤ 6 * szT t + 20 * t.size
  | .nil => Nat.zero_le _
  | .cons nm k x l f tl => by
    have h1 := wgt_le l
    have h2 := wgt_le f
    have h3 := wgt_le tl
    show 6 * nm.size + 6 * x.size + 20 + wgt l + wgt f + wgt tl ≤ 6 * (nm.size + x.size + szT l + szT f + szT tl) + 20 * (l.size + f.size + tl.size + 1)
    omega
theorem sm_of : ∀ (t : V.T), szT t ≤ 1000000000000 → Sm t
  | .nil, _ => trivial
  | .cons nm k x l f tl, h => by
    have h' : nm.size + x.size + szT l + szT f + szT tl ≤ 1000000000000 := h
    exact ⟨by omega, by omega, sm_of l (by omega), sm_of f (by omega), sm_of tl (by omega)⟩
theorem nn_of : ∀ (t : V.T) (d : Nat), Fi t d → Nn t d
  | .nil, _, _ => trivial
  | .cons nm k x l f tl, d, h => ⟨h.1, nn_of l 0 h.2.2.1, nn_of f 1 h.2.2.2.1, nn_of tl d h.2.2.2.2⟩
theorem gv_of {w : World} {A : Nat → Prop} {k : Nat} {x : ByteArray} {v u : Value} {l f : V.T} (hl : HS w A 0 v l) (hf : HS w A 1 u f) (hk : k < 256) (h : Fine4 x l f) : Gv w A k x v u l f := by
  have h1 := wgt_le l
  have h2 := wgt_le f
  rcases h with ⟨h0, hx⟩ | ⟨h0, hx⟩
  · have e1 : l = .nil := V.T.len_nil (by omega)
    have e2 : f = .nil := V.T.len_nil (by omega)
    subst e1 e2
    exact ⟨hl, hf, hk, by omega, trivial, trivial, by show 6 * x.size + 10 + 0 + 0 ≤ _; omega⟩
  · exact ⟨hl, hf, hk, by omega, sm_of l (by omega), sm_of f (by omega), by omega⟩
end Go.Proofs.YtgcdfkoobbijeaaGreatDoor

namespace Go.Proofs
open Go.Shelf

def Tryz.laysAtoi_ren : Go.Shelf.Ren := ⟨fun | 129 => 155 | 171 => 49 | 172 => 41 | 205 => 127 | 243 => 76 | 244 => 69 | 245 => 70 | 246 => 116 | 247 => 108 | 279 => 109 | 280 => 110 | 281 => 111 | 282 => 112 | 283 => 135 | 284 => 136 | 285 => 137 | 286 => 138 | 287 => 126 | 316 => 77 | 317 => 154 | 318 => 156 | 319 => 157 | 320 => 158 | 321 => 144 | 322 => 145 | 337 => 166 | 338 => 167 | n => n, fun | 37 => 59 | 46 => 113 | 51 => 106 | 53 => 128 | 75 => 62 | 76 => 63 | 80 => 147 | 85 => 116 | 127 => 126 | 143 => 163 | 145 => 165 | 167 => 115 | 168 => 118 | 171 => 150 | 173 => 153 | 175 => 140 | 210 => 143 | 212 => 174 | 213 => 175 | 232 => 185 | 233 => 186 | n => n, fun | 15 => 2 | 16 => 3 | 17 => 4 | 18 => 6 | 19 => 7 | n => n⟩
theorem Tryz.laysAtoi : LaysC.n172 Tryz.prog Tryz.laysAtoi_ren := {
  mixed := by kernel_rfl,
  f129 := Tryz.func155.trans (congrArg some (by kernel_rfl)),
  f171 := Tryz.func49.trans (congrArg some (by kernel_rfl)),
  f172 := Tryz.func41.trans (congrArg some (by kernel_rfl)),
  f205 := Tryz.func127.trans (congrArg some (by kernel_rfl)),
  f243 := Tryz.func76.trans (congrArg some (by kernel_rfl)),
  f244 := Tryz.func69.trans (congrArg some (by kernel_rfl)),
  f245 := Tryz.func70.trans (congrArg some (by kernel_rfl)),
  f246 := Tryz.func116.trans (congrArg some (by kernel_rfl)),
  f247 := Tryz.func108.trans (congrArg some (by kernel_rfl)),
  f279 := Tryz.func109.trans (congrArg some (by kernel_rfl)),
  f280 := Tryz.func110.trans (congrArg some (by kernel_rfl)),
  f281 := Tryz.func111.trans (congrArg some (by kernel_rfl)),
  f282 := Tryz.func112.trans (congrArg some (by kernel_rfl)),
  f283 := Tryz.func135.trans (congrArg some (by kernel_rfl)),
  f284 := Tryz.func136.trans (congrArg some (by kernel_rfl)),
  f285 := Tryz.func137.trans (congrArg some (by kernel_rfl)),
  f286 := Tryz.func138.trans (congrArg some (by kernel_rfl)),
  f287 := Tryz.func126.trans (congrArg some (by kernel_rfl)),
  f316 := Tryz.func77.trans (congrArg some (by kernel_rfl)),
  f317 := Tryz.func154.trans (congrArg some (by kernel_rfl)),
  f318 := Tryz.func156.trans (congrArg some (by kernel_rfl)),
  f319 := Tryz.func157.trans (congrArg some (by kernel_rfl)),
  f320 := Tryz.func158.trans (congrArg some (by kernel_rfl)),
  f321 := Tryz.func144.trans (congrArg some (by kernel_rfl)),
  f322 := Tryz.func145.trans (congrArg some (by kernel_rfl)),
  f337 := Tryz.func166.trans (congrArg some (by kernel_rfl)),
  f338 := Tryz.func167.trans (congrArg some (by kernel_rfl)),
  t0 := Tryz.underlying0,
  a0 := Tryz.isAgg0,
  z0 := Tryz.sizeOf0,
  v0 := Tryz.zeroValue0,
  t2 := Tryz.underlying2,
  a2 := Tryz.isAgg2,
  z2 := Tryz.sizeOf2,
  v2 := Tryz.zeroValue2,
  t3 := Tryz.underlying3,
  a3 := Tryz.isAgg3,
  z3 := Tryz.sizeOf3,
  v3 := Tryz.zeroValue3,
  t4 := Tryz.underlying4,
  a4 := Tryz.isAgg4,
  z4 := Tryz.sizeOf4,
  v4 := Tryz.zeroValue4,
  t5 := Tryz.underlying5,
  a5 := Tryz.isAgg5,
  z5 := Tryz.sizeOf5,
  v5 := Tryz.zeroValue5,
  t9 := Tryz.underlying9,
  a9 := Tryz.isAgg9,
  z9 := Tryz.sizeOf9,
  v9 := Tryz.zeroValue9,
  t20 := Tryz.underlying20,
  a20 := Tryz.isAgg20,
  z20 := Tryz.sizeOf20,
  v20 := Tryz.zeroValue20,
  t21 := Tryz.underlying21,
  a21 := Tryz.isAgg21,
  z21 := Tryz.sizeOf21,
  v21 := Tryz.zeroValue21,
  t37 := Tryz.underlying59,
  a37 := Tryz.isAgg59,
  z37 := Tryz.sizeOf59,
  v37 := Tryz.zeroValue59,
  t46 := Tryz.underlying113,
  a46 := Tryz.isAgg113,
  z46 := Tryz.sizeOf113,
  v46 := Tryz.zeroValue113,
  t51 := Tryz.underlying106,
  a51 := Tryz.isAgg106,
  z51 := Tryz.sizeOf106,
  v51 := Tryz.zeroValue106,
  t53 := Tryz.underlying128,
  a53 := Tryz.isAgg128,
  z53 := Tryz.sizeOf128,
  v53 := Tryz.zeroValue128,
  t75 := Tryz.underlying62,
  a75 := Tryz.isAgg62,
  z75 := Tryz.sizeOf62,
  v75 := Tryz.zeroValue62,
  t76 := Tryz.underlying63,
  a76 := Tryz.isAgg63,
  z76 := Tryz.sizeOf63,
  v76 := Tryz.zeroValue63,
  t85 := Tryz.underlying116,
  a85 := Tryz.isAgg116,
  z85 := Tryz.sizeOf116,
  v85 := Tryz.zeroValue116,
  t127 := Tryz.underlying126,
  a127 := Tryz.isAgg126,
  z127 := Tryz.sizeOf126,
  v127 := Tryz.zeroValue126,
  t143 := Tryz.underlying163,
  a143 := Tryz.isAgg163,
  z143 := Tryz.sizeOf163,
  v143 := Tryz.zeroValue163,
  t145 := Tryz.underlying165,
  a145 := Tryz.isAgg165,
  z145 := Tryz.sizeOf165,
  v145 := Tryz.zeroValue165,
  t167 := Tryz.underlying115,
  a167 := Tryz.isAgg115,
  z167 := Tryz.sizeOf115,
  v167 := Tryz.zeroValue115,
  t168 := Tryz.underlying118,
  a168 := Tryz.isAgg118,
  z168 := Tryz.sizeOf118,
  v168 := Tryz.zeroValue118,
  t171 := Tryz.underlying150,
  a171 := Tryz.isAgg150,
  z171 := Tryz.sizeOf150,
  v171 := Tryz.zeroValue150,
  t173 := Tryz.underlying153,
  a173 := Tryz.isAgg153,
  z173 := Tryz.sizeOf153,
  v173 := Tryz.zeroValue153,
  t175 := Tryz.underlying140,
  a175 := Tryz.isAgg140,
  z175 := Tryz.sizeOf140,
  v175 := Tryz.zeroValue140,
  t210 := Tryz.underlying143,
  a210 := Tryz.isAgg143,
  z210 := Tryz.sizeOf143,
  v210 := Tryz.zeroValue143,
  t212 := Tryz.underlying174,
  a212 := Tryz.isAgg174,
  z212 := Tryz.sizeOf174,
  v212 := Tryz.zeroValue174,
  t213 := Tryz.underlying175,
  a213 := Tryz.isAgg175,
  z213 := Tryz.sizeOf175,
  t232 := Tryz.underlying185,
  a232 := Tryz.isAgg185,
  z232 := Tryz.sizeOf185,
  v232 := Tryz.zeroValue185,
  t233 := Tryz.underlying186,
  a233 := Tryz.isAgg186,
  z233 := Tryz.sizeOf186,
  v233 := Tryz.zeroValue186,
  g15 := by kernel_rfl,
  g16 := by kernel_rfl,
  g17 := by kernel_rfl,
  g18 := by kernel_rfl,
  g19 := by kernel_rfl,
  t80 := Tryz.underlying147,
  a80 := Tryz.isAgg147,
  z80 := Tryz.sizeOf147,
  v80 := Tryz.zeroValue147,
  i0 := by kernel_rfl,
  i2 := by kernel_rfl,
  i3 := by kernel_rfl,
  i4 := by kernel_rfl,
  i5 := by kernel_rfl,
  i9 := by kernel_rfl,
  i20 := by kernel_rfl,
  i21 := by kernel_rfl,
  i37 := by kernel_rfl,
  i46 := by kernel_rfl,
  i51 := by kernel_rfl,
  i53 := by kernel_rfl,
  i75 := by kernel_rfl,
  i76 := by kernel_rfl,
  i80 := by kernel_rfl,
  i85 := by kernel_rfl,
  i127 := by kernel_rfl,
  i143 := by kernel_rfl,
  i145 := by kernel_rfl,
  i167 := by kernel_rfl,
  i168 := by kernel_rfl,
  i171 := by kernel_rfl,
  i173 := by kernel_rfl,
  i175 := by kernel_rfl,
  i210 := by kernel_rfl,
  i212 := by kernel_rfl,
  i232 := by kernel_rfl,
  i233 := by kernel_rfl,
  m15 := by kernel_rfl,
  m16 := by kernel_rfl,
  m17 := by kernel_rfl,
  m18 := by kernel_rfl,
  m19 := by kernel_rfl,
  c0 := by kernel_rfl,
  c2 := by kernel_rfl,
  c3 := by kernel_rfl,
  c4 := by kernel_rfl,
  c5 := by kernel_rfl,
  c9 := by kernel_rfl,
  c20 := by kernel_rfl,
  c21 := by kernel_rfl,
  c37 := by kernel_rfl,
  c46 := by kernel_rfl,
  c51 := by kernel_rfl,
  c53 := by kernel_rfl,
  c75 := by kernel_rfl,
  c76 := by kernel_rfl,
  c80 := by kernel_rfl,
  c85 := by kernel_rfl,
  c127 := by kernel_rfl,
  c143 := by kernel_rfl,
  c145 := by kernel_rfl,
  c167 := by kernel_rfl,
  c168 := by kernel_rfl,
  c171 := by kernel_rfl,
  c173 := by kernel_rfl,
  c175 := by kernel_rfl,
  c210 := by kernel_rfl,
  c212 := by kernel_rfl,
  c213 := by kernel_rfl,
  c232 := by kernel_rfl,
  c233 := by kernel_rfl }
end Go.Proofs
