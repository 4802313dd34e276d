/- The program's writer: any value. Conditions: what is written is at most 10^11 bytes. -/
import Derived.Test.YtbkciiogkgndiaaGreatDoorMB47
import Derived.Test.YtbkciiogkgndiaaGreatDoorMB35
import Derived.Test.YtbkciiogkgndiaaGreatDoorMB44
namespace Go.Proofs.YtbkciiogkgndiaaGreatDoor
open Go Go.RowKit Go.Shelf Go.Lib

theorem ent_appendNull : ∀ args w, (callFunc 164 args).run Tryz.prog w = .ok (.enter 164 args) w := enters_of Tryz.func164 (by kernel_rfl) rfl
theorem ent_appendFalse : ∀ args w, (callFunc 165 args).run Tryz.prog w = .ok (.enter 165 args) w := enters_of Tryz.func165 (by kernel_rfl) rfl
theorem ent_appendTrue : ∀ args w, (callFunc 166 args).run Tryz.prog w = .ok (.enter 166 args) w := enters_of Tryz.func166 (by kernel_rfl) rfl
theorem ent_appendNumber : ∀ args w, (callFunc 168 args).run Tryz.prog w = .ok (.enter 168 args) w := enters_of Tryz.func168 (by kernel_rfl) rfl
theorem ent_appendText : ∀ args w, (callFunc 169 args).run Tryz.prog w = .ok (.enter 169 args) w := enters_of Tryz.func169 (by kernel_rfl) rfl
theorem ent_appendList : ∀ args w, (callFunc 171 args).run Tryz.prog w = .ok (.enter 171 args) w := enters_of Tryz.func171 (by kernel_rfl) rfl
theorem ent_appendObject : ∀ args w, (callFunc 173 args).run Tryz.prog w = .ok (.enter 173 args) w := enters_of Tryz.func173 (by kernel_rfl) rfl
theorem own_shape {w : World} {B : Nat} {e : TypeId} {size n : Nat} {v : Value} {xs : List Value} (h : w.ownsRow B e size v n xs) : ∃ p c, v = .slice p n c := by
  rcases h.2 with ⟨rfl, rfl⟩ | ⟨g, cap, cur, rfl, _⟩
  · exact ⟨none, 0, rfl⟩
  · exact ⟨_, cap, rfl⟩
theorem aV_plain {k : Nat} {x : ByteArray} {l f : V.T} {b : List UInt8} (h : ¬ 262144 < b.length) (h5 : ¬ k = 5) (h6 : ¬ k = 6) : aV k x l f b = b ++ lf k x := by
  unfold aV
  rw [if_neg (by omega), if_neg h5, if_neg h6]
theorem aV_list {x : ByteArray} {l f : V.T} {b : List UInt8} (h : ¬ 262144 < b.length) : aV 5 x l f b = aT l 0 true (b ++ [91]) ++ [93] := by
  unfold aV
  rw [if_neg (by omega), if_pos rfl]
theorem aV_obj {x : ByteArray} {l f : V.T} {b : List UInt8} (h : ¬ 262144 < b.length) : aV 6 x l f b = aT f 1 true (b ++ [123]) ++ [125] := by
  unfold aV
  rw [if_neg (by omega), if_neg (by decide), if_pos rfl]
set_option maxRecDepth 100000 in
theorem wr_ok : ∀ N, WrOk N
  | 0 => fun k x va ua l f A B b lb w h => absurd h (Nat.not_lt_zero _)
  | N + 1 => fun k x va ua l f A B b lb w hN hk h3 hkl hkf hlen hl hf hA hown hBw => by
    have ih := wr_ok N
    obtain ⟨p, c, rfl⟩ := own_shape hown
    by_cases hlong : 262144 < lb.length
    · rw [show aV k x l f lb = lb from if_pos hlong]
      exact appendValueK_long B _ va ua k x lb w p c rfl hlong (by omega) hown hBw
    · have own : ∀ W, Below w.heap.size w W → W.ownsRow B 5 1 (.slice p lb.length c) lb.length (U.cellsOf lb) := fun W hW => own8_below hown hW
      have bw : ∀ W, Below w.heap.size w W → B ≤ W.heap.size := fun W hW => Nat.le_trans hBw hW.size
      have hc : k = 0 ∨ k = 1 ∨ k = 2 ∨ k = 3 ∨ k = 4 ∨ k = 5 ∨ k = 6 := by omega
      rcases hc with rfl | rfl | rfl | rfl | rfl | rfl | rfl
      · rw [aV_plain hlong (by decide) (by decide)]
        exact appendValueK_with B _ va ua 0 x lb _ 161 162 163 164 w p c rfl (by decide) (by omega) hBw (fun W => by kernel_rfl) ent_appendNull (fun W hW => appendNull_k B _ va ua 0 x lb W (by omega) (own W hW) (bw W hW))
      · rw [aV_plain hlong (by decide) (by decide)]
        exact appendValueK_with B _ va ua 1 x lb _ 161 162 163 165 w p c rfl (by decide) (by omega) hBw (fun W => by kernel_rfl) ent_appendFalse (fun W hW => appendFalse_k B _ va ua 1 x lb W (by omega) (own W hW) (bw W hW))
      · rw [aV_plain hlong (by decide) (by decide)]
        exact appendValueK_with B _ va ua 2 x lb _ 161 162 163 166 w p c rfl (by decide) (by omega) hBw (fun W => by kernel_rfl) ent_appendTrue (fun W hW => appendTrue_k B _ va ua 2 x lb W (by omega) (own W hW) (bw W hW))
      · rw [aV_plain hlong (by decide) (by decide)]
        exact appendValueK_with B _ va ua 3 x lb _ 167 162 163 168 w p c rfl (by decide) (by omega) hBw (fun W => by kernel_rfl) ent_appendNumber (fun W hW => appendNumber_k B _ va ua 3 x lb W (by omega) (by omega) (own W hW) (bw W hW))
      · rw [aV_plain hlong (by decide) (by decide)]
        exact appendValueK_with B _ va ua 4 x lb _ 97 162 163 169 w p c rfl (by decide) (by omega) hBw (fun W => by kernel_rfl) ent_appendText (fun W hW => appendText_k B _ va ua 4 x lb W (by omega) (by omega) (own W hW) (bw W hW))
      · rw [aV_list hlong]
        exact appendValueK_with B _ va ua 5 x lb _ 161 170 163 171 w p c rfl (by decide) (by omega) hBw (fun W => by kernel_rfl) ent_appendList (fun W hW => appendList_any N ih x va ua l f A B _ lb W (by omega) hkl (by omega) (hl.below hW) (hf.below hW) hA (own W hW) (bw W hW))
      · rw [aV_obj hlong]
        exact appendValueK_with B _ va ua 6 x lb _ 161 162 172 173 w p c rfl (by decide) (by omega) hBw (fun W => by kernel_rfl) ent_appendObject (fun W hW => appendObject_any N ih x va ua l f A B _ lb W (by omega) hkf (by omega) (hl.below hW) (hf.below hW) hA (own W hW) (bw W hW))
end Go.Proofs.YtbkciiogkgndiaaGreatDoor

namespace Go.Proofs.YtbkciiogkgndiaaGreatDoor
open Go Go.RowKit Go.Shelf Go.Lib

/-- the same, or both too long -/
def Eq2 (y z : List UInt8) : Prop := y = z ∨ (262144 < y.length ∧ 262144 < z.length)
theorem Eq2.app {y z : List UInt8} (h : Eq2 y z) (c : List UInt8) : Eq2 (y ++ c) (z ++ c) := by
  rcases h with h | ⟨h1, h2⟩
  · exact .inl (by rw [h])
  · exact .inr ⟨by rw [List.length_append]; omega, by rw [List.length_append]; omega⟩
/-- how the program's writer writes, and what is written -/
theorem aT_wr : ∀ (t : V.T) (d : Nat) (first : Bool) (b z : List UInt8), Eq2 b z → Eq2 (aT t d first b) (z ++ wrT t d first)
  | .nil, _, _, b, z, h => by
    show Eq2 b (z ++ [])
    rw [List.append_nil]
    exact h
  | .cons nm k x l f tl, d, first, b, z, h => by
    rw [aT_cons, wrT_cons, ← List.append_assoc, ← List.append_assoc]
    apply aT_wr tl d false
    have hb := h.app (ahead d first nm)
    generalize b ++ ahead d first nm = y at *
    generalize z ++ ahead d first nm = u at *
    unfold aV wrV
    by_cases hlong : y.length > 262144
    · rw [if_pos hlong]
      rcases hb with e | ⟨_, h2⟩
      · exact .inr ⟨hlong, by rw [← e, List.length_append]; omega⟩
      · exact .inr ⟨hlong, by rw [List.length_append]; omega⟩
    · rw [if_neg hlong]
      split
      · rw [← List.append_assoc, ← List.append_assoc]
        exact (aT_wr l 0 true _ _ (hb.app [91])).app [93]
      split
      · rw [← List.append_assoc, ← List.append_assoc]
        exact (aT_wr f 1 true _ _ (hb.app [123])).app [125]
      · exact hb.app _
theorem aV_wr (k : Nat) (x : ByteArray) (l f : V.T) : Eq2 (aV k x l f []) (wrV k x l f) := by
  have h0 : Eq2 [] [] := .inl rfl
  unfold aV wrV
  rw [if_neg (by decide)]
  split
  · exact (aT_wr l 0 true _ _ (h0.app [91])).app [93]
  split
  · exact (aT_wr f 1 true _ _ (h0.app [123])).app [125]
  · exact h0.app _
theorem kd_of : ∀ {t : V.T} {d : Nat} {seen : List ByteArray} {dep : Nat}, mayT t d seen dep = true → Kd t
  | .nil, _, _, _, _ => trivial
  | .cons nm k x l f tl, d, seen, dep, h => by
    rw [mayT_cons, Bool.and_eq_true, Bool.and_eq_true] at h
    obtain ⟨⟨_, h2⟩, h3⟩ := h
    have hx : k = 3 → 0 < x.size := fun e => by
      subst e
      obtain ⟨_, hn, _, _⟩ := mayV_leaf h2 (by decide) (by decide)
      have h4 := nm_go (s := x) (p := 0) (Nat.zero_le _) (by rw [(numS_iff x).1 (show numS x = true from hn)])
      rw [(numS_iff x).1 (show numS x = true from hn)] at h4
      exact h4
    refine ⟨⟨mayV_six h2, hx⟩, ?_, ?_, kd_of h3⟩
    · by_cases h5 : k = 5
      · subst h5; exact kd_of (mayV_list h2).2.2.1
      by_cases h6 : k = 6
      · subst h6; rw [(mayV_obj h2).2.2.2]; trivial
      · rw [(mayV_leaf h2 h5 h6).2.2.1]; trivial
    · by_cases h5 : k = 5
      · subst h5; rw [(mayV_list h2).2.2.2]; trivial
      by_cases h6 : k = 6
      · subst h6; exact kd_of (mayV_obj h2).2.2.1
      · rw [(mayV_leaf h2 h5 h6).2.2.2]; trivial
theorem kdV_of {k : Nat} {x : ByteArray} {l f : V.T} {dep : Nat} (h : mayV k x l f dep = true) : (k ≤ 6 ∧ (k = 3 → 0 < x.size)) ∧ Kd l ∧ Kd f := by
  have := kd_of (t := .cons ⟨#[]⟩ k x l f .nil) (d := 0) (seen := []) (dep := dep) (by rw [mayT_cons, h]; rfl)
  exact ⟨this.1, this.2.1, this.2.2.1⟩
/-- what is printed: the text, or the error -/
def prn (k : Nat) (x : ByteArray) (l f : V.T) : ByteArray × Nat :=
  if mayV k x l f 0 = true then (if 262144 < (wrV k x l f).length then (⟨#[]⟩, 3) else (⟨(wrV k x l f).toArray⟩, 0)) else (⟨#[]⟩, 40)
def PrIs (r : ByteArray × Nat) (w : World) (e : Ending) (w' : World) : Prop := e = .returned (.tuple #[.string r.1, .int .i64 r.2]) ∧ Below w.heap.size w w'
/-- a value such as is gone through -/
structure Gv (w : World) (A : Nat → Prop) (k : Nat) (x : ByteArray) (v u : Value) (l f : V.T) : Prop where
  hl : HS w A 0 v l
  hf : HS w A 1 u f
  kind : k < 256
  text : x.size ≤ 1000000000000
  sl : Sm l
  sf : Sm f
  len : 6 * x.size + 10 + wgt l + wgt f ≤ 100000000000
theorem Gv.below {w w' : World} {A : Nat → Prop} {k : Nat} {x : ByteArray} {v u : Value} {l f : V.T} (h : Gv w A k x v u l f) (hB : Below w.heap.size w w') : Gv w' A k x v u l f :=
  ⟨h.hl.below hB, h.hf.below hB, h.kind, h.text, h.sl, h.sf, h.len⟩
set_option maxRecDepth 100000 in
theorem may_any (k : Nat) (x : ByteArray) (va ua : Value) (l f : V.T) (A : Nat → Prop) (w : World) (h : Gv w A k x va ua l f) (hT : Tabs w) : Calls Tryz.prog 15 #[.agg #[.int .u8 k, .string x, va, ua]] w (Bools (mayV k x l f 0) w) := by
  have hB := (Below.refl w.heap.size w).alloc (Nat.le_refl _) (.cells #[.int .u8 k, .string x, va, ua] 25)
  have hm := may_ok (l.size + f.size + 1) k x va ua l f A 0 (w.alloc (.cells #[.int .u8 k, .string x, va, ua] 25)) (Nat.lt_succ_self _) h.kind h.text h.sl h.sf (h.hl.below hB) (h.hf.below hB) (Nat.zero_le _) (tabs_below hT hB)
  obtain ⟨p, c, rfl, -⟩ := h.hl.len
  obtain ⟨q, d, rfl, -⟩ := h.hf.len
  have HB := Lib.hid hB
  clear hB h hT
  go_enter Tryz.func15, Tryz.ntmps15
  go_wp2_with fail
  refine hm.mono ?_
  rintro e w1 ⟨rfl, hB1⟩
  have H1 := Lib.hid (HB.out.trans (hB1.mono HB.out.size))
  clear hB1 hm
  go_wp2_with fail
  go_ret
  exact ⟨rfl, H1.out⟩
set_option maxHeartbeats 1000000 in
set_option maxRecDepth 100000 in
theorem print_any (k : Nat) (x : ByteArray) (va ua : Value) (l f : V.T) (A : Nat → Prop) (w : World) (h : Gv w A k x va ua l f) (hT : Tabs w) : Calls Tryz.prog 11 #[.agg #[.int .u8 k, .string x, va, ua]] w (PrIs (prn k x l f) w) := by
  have hB := (Below.refl w.heap.size w).alloc (Nat.le_refl _) (.cells #[.int .u8 k, .string x, va, ua] 25)
  have hm := may_any k x va ua l f A _ (h.below hB) (tabs_below hT hB)
  have hbk : Blk4 (w.alloc (.cells #[.int .u8 k, .string x, va, ua] 25)) w.heap.size 25 (.int .u8 k) (.string x) va ua := heap_alloc_new _ _
  have HV := Lib.hid h
  unfold prn
  have e2 := aV_wr k x l f
  cases hmay : mayV k x l f 0
  · rw [hmay] at hm
    rw [if_neg (by decide)]
    obtain ⟨p, c, rfl, -⟩ := h.hl.len
    obtain ⟨q, d, rfl, -⟩ := h.hf.len
    obtain ⟨c0, c1, c2, c3⟩ := hbk.box
    have HB := Lib.hid hB
    clear hB h hT hmay hbk e2
    go_enter Tryz.func11, Tryz.ntmps11
    go_wp2_with fail
    refine hm.mono ?_
    rintro e w1 ⟨rfl, hB1⟩
    have H1 := Lib.hid (HB.out.trans (hB1.mono HB.out.size))
    clear hB1 hm c0 c1 c2 c3
    go_wp2_with fail
    go_ret2
    exact ⟨rfl, H1.out⟩
  · rw [hmay] at hm
    rw [if_pos rfl]
    obtain ⟨⟨hk6, hk3⟩, hkl, hkf⟩ := kdV_of hmay
    have hw := fun (W : World) (hW : Below w.heap.size w W) => wr_ok (l.size + f.size + 1) k x va ua l f (fun c => c < W.heap.size) W.heap.size (.slice none 0 0) [] W (Nat.lt_succ_self _) hk6 hk3 hkl hkf (by have := HV.out.len; simp only [List.length_nil]; omega)
      ((h.hl.below hW).mono (fun _ _ h => h)) ((h.hf.below hW).mono (fun _ _ h => h)) (fun _ h => h) ⟨rfl, .inl ⟨rfl, rfl⟩⟩ (Nat.le_refl _)
    generalize ho : aV k x l f [] = o at *
    generalize hz : wrV k x l f = z at *
    generalize hr : (if 262144 < z.length then ((⟨#[]⟩ : ByteArray), 3) else (⟨z.toArray⟩, 0)) = r
    have HR := Lib.hid hr
    clear hr
    have hol := aV_len k x l f []
    rw [ho] at hol
    have HOL := Lib.hid (show o.length ≤ 100000000000 by have := HV.out.len; simp only [List.length_nil] at hol; omega)
    obtain ⟨p, c, rfl, -⟩ := h.hl.len
    obtain ⟨q, d, rfl, -⟩ := h.hf.len
    obtain ⟨c0, c1, c2, c3⟩ := hbk.box
    have HB := Lib.hid hB
    have HBK := Lib.hid hbk
    have HO := Lib.hid e2
    have HW := Lib.hid hw
    clear hB h hT hmay hbk e2 ho hz hol hk6 hk3 hkl hkf hw
    go_enter Tryz.func11, Tryz.ntmps11
    go_wp2_with fail
    refine hm.mono ?_
    rintro e w1 ⟨rfl, hB1⟩
    have H1 := Lib.hid (HB.out.trans (hB1.mono HB.out.size))
    have hb1 := HBK.out.same (hB1.block _ HBK.out.lt)
    obtain ⟨d0, d1, d2, d3⟩ := hb1.box
    clear hB1 hm c0 c1 c2 c3 hb1
    go_wp2_with fail
    refine (HW.out _ H1.out).mono ?_
    rintro e w2 ⟨v', rfl, hown, hB2, _⟩
    have H2 := Lib.hid (H1.out.trans (hB2.mono H1.out.size))
    obtain ⟨p', c', rfl⟩ := own_shape hown
    have hconv := conv_own hown
    have hl2 := HOL.out
    clear hB2 d0 d1 d2 d3 hown
    by_cases hlong : 262144 < o.length
    · have tl : decide ((262144 : Int) < (o.length : Int)) = true := decide_eq_true (by omega)
      have hzl : 262144 < z.length := by
        rcases HO.out with e | ⟨_, h2⟩
        · rw [← e]; exact hlong
        · exact h2
      have HZ := Lib.hid hzl
      clear hlong hzl hconv
      go_wp2_with fail
      go_ret2
      exact ⟨by rw [← HR.out, if_pos HZ.out]; rfl, H2.out⟩
    · have tl : decide ((262144 : Int) < (o.length : Int)) = false := decide_eq_false (by omega)
      have hzl : o = z := by
        rcases HO.out with e | ⟨h1, _⟩
        · exact e
        · exact absurd h1 hlong
      have hzn : ¬ 262144 < z.length := by rw [← hzl]; exact hlong
      have HZ := Lib.hid (And.intro hzn hzl)
      clear hlong hzl hzn
      go_wp2_with fail
      go_ret2
      exact ⟨by rw [← HR.out, if_neg HZ.out.1, HZ.out.2]; rfl, H2.out⟩
end Go.Proofs.YtbkciiogkgndiaaGreatDoor

namespace Go.Proofs.YtbkciiogkgndiaaGreatDoor
open Go Go.RowKit Go.Lib

theorem it0 : Lib.itoa (0 : Int) = [48] := (Lib.itoa_nonneg 0).trans ((Lib.decDigits_one (by decide)).trans rfl)
theorem it1 : Lib.itoa (1 : Int) = [49] := (Lib.itoa_nonneg 1).trans ((Lib.decDigits_one (by decide)).trans rfl)
theorem it2 : Lib.itoa (2 : Int) = [50] := (Lib.itoa_nonneg 2).trans ((Lib.decDigits_one (by decide)).trans rfl)
theorem it3 : Lib.itoa (3 : Int) = [51] := (Lib.itoa_nonneg 3).trans ((Lib.decDigits_one (by decide)).trans rfl)
theorem it4 : Lib.itoa (4 : Int) = [52] := (Lib.itoa_nonneg 4).trans ((Lib.decDigits_one (by decide)).trans rfl)
theorem it5 : Lib.itoa (5 : Int) = [53] := (Lib.itoa_nonneg 5).trans ((Lib.decDigits_one (by decide)).trans rfl)
theorem fx1 : U.fixS ⟨#[49]⟩ = ⟨#[49]⟩ := U.fixS_valid _ (by decide +kernel)
theorem fx2 : U.fixS ⟨#[50]⟩ = ⟨#[50]⟩ := U.fixS_valid _ (by decide +kernel)
def w8T1 : V.T := (.cons ⟨#[114, 101, 115, 117, 108, 116, 73, 100]⟩ 4 ⟨#[49]⟩ .nil .nil (.cons ⟨#[100, 97, 116, 97]⟩ 5 ⟨#[]⟩ (.cons ⟨#[]⟩ 3 ⟨#[48]⟩ .nil .nil (.cons ⟨#[]⟩ 3 ⟨#[52]⟩ .nil .nil (.cons ⟨#[]⟩ 3 ⟨#[51]⟩ .nil .nil (.cons ⟨#[]⟩ 3 ⟨#[48]⟩ .nil .nil (.cons ⟨#[]⟩ 3 ⟨#[48]⟩ .nil .nil .nil))))) .nil .nil))
def w8T2 : V.T := (.cons ⟨#[114, 101, 115, 117, 108, 116, 73, 100]⟩ 4 ⟨#[50]⟩ .nil .nil (.cons ⟨#[101, 100, 105, 116, 115]⟩ 5 ⟨#[]⟩ (.cons ⟨#[]⟩ 6 ⟨#[]⟩ .nil (.cons ⟨#[115, 116, 97, 114, 116]⟩ 3 ⟨#[53]⟩ .nil .nil (.cons ⟨#[100, 101, 108, 101, 116, 101, 67, 111, 117, 110, 116]⟩ 3 ⟨#[48]⟩ .nil .nil (.cons ⟨#[100, 97, 116, 97]⟩ 5 ⟨#[]⟩ (.cons ⟨#[]⟩ 3 ⟨#[49]⟩ .nil .nil (.cons ⟨#[]⟩ 3 ⟨#[50]⟩ .nil .nil .nil)) .nil .nil))) .nil) .nil .nil))
def w8T3 : V.T := (.cons ⟨#[]⟩ 6 ⟨#[]⟩ .nil (.cons ⟨#[115, 116, 97, 114, 116, 76, 105, 110, 101]⟩ 3 ⟨#[49]⟩ .nil .nil (.cons ⟨#[101, 110, 100, 76, 105, 110, 101]⟩ 3 ⟨#[51]⟩ .nil .nil .nil)) (.cons ⟨#[]⟩ 6 ⟨#[]⟩ .nil (.cons ⟨#[115, 116, 97, 114, 116, 76, 105, 110, 101]⟩ 3 ⟨#[52]⟩ .nil .nil (.cons ⟨#[101, 110, 100, 76, 105, 110, 101]⟩ 3 ⟨#[53]⟩ .nil .nil (.cons ⟨#[107, 105, 110, 100]⟩ 4 ⟨#[99, 111, 109, 109, 101, 110, 116]⟩ .nil .nil .nil))) .nil))
def w8T4 : V.T := (.cons ⟨#[]⟩ 6 ⟨#[]⟩ .nil (.cons ⟨#[114, 97, 110, 103, 101]⟩ 6 ⟨#[]⟩ .nil (.cons ⟨#[115, 116, 97, 114, 116]⟩ 6 ⟨#[]⟩ .nil (.cons ⟨#[108, 105, 110, 101]⟩ 3 ⟨#[48]⟩ .nil .nil (.cons ⟨#[99, 104, 97, 114, 97, 99, 116, 101, 114]⟩ 3 ⟨#[49]⟩ .nil .nil .nil)) (.cons ⟨#[101, 110, 100]⟩ 6 ⟨#[]⟩ .nil (.cons ⟨#[108, 105, 110, 101]⟩ 3 ⟨#[48]⟩ .nil .nil (.cons ⟨#[99, 104, 97, 114, 97, 99, 116, 101, 114]⟩ 3 ⟨#[50]⟩ .nil .nil .nil)) .nil)) (.cons ⟨#[112, 97, 114, 101, 110, 116]⟩ 6 ⟨#[]⟩ .nil (.cons ⟨#[114, 97, 110, 103, 101]⟩ 6 ⟨#[]⟩ .nil (.cons ⟨#[115, 116, 97, 114, 116]⟩ 6 ⟨#[]⟩ .nil (.cons ⟨#[108, 105, 110, 101]⟩ 3 ⟨#[48]⟩ .nil .nil (.cons ⟨#[99, 104, 97, 114, 97, 99, 116, 101, 114]⟩ 3 ⟨#[48]⟩ .nil .nil .nil)) (.cons ⟨#[101, 110, 100]⟩ 6 ⟨#[]⟩ .nil (.cons ⟨#[108, 105, 110, 101]⟩ 3 ⟨#[49]⟩ .nil .nil (.cons ⟨#[99, 104, 97, 114, 97, 99, 116, 101, 114]⟩ 3 ⟨#[48]⟩ .nil .nil .nil)) .nil)) .nil) .nil)) (.cons ⟨#[]⟩ 0 ⟨#[]⟩ .nil .nil .nil))
theorem w8e1 : full_anyT ⟨#[49]⟩ [0, 4, 3, 0, 0] = w8T1 := by
  unfold full_anyT
  simp only [nmT, fx1, it0, it3, it4]
  rfl
theorem w8e2 (p : Option Addr) (n c : Nat) : delta_anyT ⟨#[50]⟩ [⟨5, 0, p, n, c, [1, 2]⟩] = w8T2 := by
  unfold delta_anyT
  simp only [listSpT, spliceT, nmT, fx2, it0, it1, it2, it5]
  rfl
theorem w8e3 : listFoT [⟨1, 3, false⟩, ⟨4, 5, true⟩] = w8T3 := by
  simp only [listFoT, foldT, it1, it3, it4, it5]
  rfl
theorem w8e4 (p q : Option Addr) (n m c d : Nat) : listChT [⟨p, n, c, [⟨0, 1, 0, 2⟩, ⟨0, 0, 1, 0⟩]⟩, ⟨q, m, d, []⟩] = w8T4 := by
  simp only [listChT, chainT, chT, rangeT, posT, it0, it1, it2]
  rfl
theorem w8p1 : prn 6 ⟨#[]⟩ .nil w8T1 = (⟨#[123, 34, 114, 101, 115, 117, 108, 116, 73, 100, 34, 58, 34, 49, 34, 44, 34, 100, 97, 116, 97, 34, 58, 91, 48, 44, 52, 44, 51, 44, 48, 44, 48, 93, 125]⟩, 0) := by kernel_rfl
theorem w8p2 : prn 6 ⟨#[]⟩ .nil w8T2 = (⟨#[123, 34, 114, 101, 115, 117, 108, 116, 73, 100, 34, 58, 34, 50, 34, 44, 34, 101, 100, 105, 116, 115, 34, 58, 91, 123, 34, 115, 116, 97, 114, 116, 34, 58, 53, 44, 34, 100, 101, 108, 101, 116, 101, 67, 111, 117, 110, 116, 34, 58, 48, 44, 34, 100, 97, 116, 97, 34, 58, 91, 49, 44, 50, 93, 125, 93, 125]⟩, 0) := by kernel_rfl
theorem w8p3 : prn 5 ⟨#[]⟩ w8T3 .nil = (⟨#[91, 123, 34, 115, 116, 97, 114, 116, 76, 105, 110, 101, 34, 58, 49, 44, 34, 101, 110, 100, 76, 105, 110, 101, 34, 58, 51, 125, 44, 123, 34, 115, 116, 97, 114, 116, 76, 105, 110, 101, 34, 58, 52, 44, 34, 101, 110, 100, 76, 105, 110, 101, 34, 58, 53, 44, 34, 107, 105, 110, 100, 34, 58, 34, 99, 111, 109, 109, 101, 110, 116, 34, 125, 93]⟩, 0) := by kernel_rfl
theorem w8p4 : prn 5 ⟨#[]⟩ w8T4 .nil = (⟨#[91, 123, 34, 114, 97, 110, 103, 101, 34, 58, 123, 34, 115, 116, 97, 114, 116, 34, 58, 123, 34, 108, 105, 110, 101, 34, 58, 48, 44, 34, 99, 104, 97, 114, 97, 99, 116, 101, 114, 34, 58, 49, 125, 44, 34, 101, 110, 100, 34, 58, 123, 34, 108, 105, 110, 101, 34, 58, 48, 44, 34, 99, 104, 97, 114, 97, 99, 116, 101, 114, 34, 58, 50, 125, 125, 44, 34, 112, 97, 114, 101, 110, 116, 34, 58, 123, 34, 114, 97, 110, 103, 101, 34, 58, 123, 34, 115, 116, 97, 114, 116, 34, 58, 123, 34, 108, 105, 110, 101, 34, 58, 48, 44, 34, 99, 104, 97, 114, 97, 99, 116, 101, 114, 34, 58, 48, 125, 44, 34, 101, 110, 100, 34, 58, 123, 34, 108, 105, 110, 101, 34, 58, 49, 44, 34, 99, 104, 97, 114, 97, 99, 116, 101, 114, 34, 58, 48, 125, 125, 125, 125, 44, 110, 117, 108, 108, 93]⟩, 0) := by kernel_rfl
theorem w8s1 : Sm w8T1 := by unfold w8T1; simp only [Sm, and_true, true_and]; decide
theorem w8s2 : Sm w8T2 := by unfold w8T2; simp only [Sm, and_true, true_and]; decide
theorem w8s3 : Sm w8T3 := by unfold w8T3; simp only [Sm, and_true, true_and]; decide
theorem w8s4 : Sm w8T4 := by unfold w8T4; simp only [Sm, and_true, true_and]; decide
theorem w8w1 : wgt w8T1 ≤ 10000 := by decide +kernel
theorem w8w2 : wgt w8T2 ≤ 10000 := by decide +kernel
theorem w8w3 : wgt w8T3 ≤ 10000 := by decide +kernel
theorem w8w4 : wgt w8T4 ≤ 10000 := by decide +kernel
theorem printF {N : Nat} {T : V.T} {S : ByteArray} {y : Value} {w : World} (h : VF N 6 ⟨#[]⟩ .nil T y w) (hs : Sm T) (hw : wgt T ≤ 10000) (hp : prn 6 ⟨#[]⟩ .nil T = (S, 0)) (hT : Tabs w) : Calls Tryz.prog 11 #[y] w (PrIs (S, 0) w) := by
  obtain ⟨p, n, c, q, m, d, rfl, h1, h2⟩ := h
  rw [← hp]
  exact print_any 6 _ _ _ .nil T _ w ⟨h1, h2, by decide, by decide, trivial, hs, by show 6 * 0 + 10 + 0 + wgt T ≤ 100000000000; omega⟩ hT
theorem printL {N : Nat} {T : V.T} {S : ByteArray} {y : Value} {w : World} (h : VF N 5 ⟨#[]⟩ T .nil y w) (hs : Sm T) (hw : wgt T ≤ 10000) (hp : prn 5 ⟨#[]⟩ T .nil = (S, 0)) (hT : Tabs w) : Calls Tryz.prog 11 #[y] w (PrIs (S, 0) w) := by
  obtain ⟨p, n, c, q, m, d, rfl, h1, h2⟩ := h
  rw [← hp]
  exact print_any 5 _ _ _ T .nil _ w ⟨h1, h2, by decide, by decide, hs, trivial, by show 6 * 0 + 10 + wgt T + 0 ≤ 100000000000; omega⟩ hT
end Go.Proofs.YtbkciiogkgndiaaGreatDoor
