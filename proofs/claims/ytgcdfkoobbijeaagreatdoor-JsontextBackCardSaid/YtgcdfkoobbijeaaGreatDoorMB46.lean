/- The program's writer: any value. Conditions: what is written is at most 10^11 bytes. -/
import Derived.Test.YtgcdfkoobbijeaaGreatDoorMB45
import Derived.Test.YtgcdfkoobbijeaaGreatDoorMB38
import Derived.Test.YtgcdfkoobbijeaaGreatDoorMB40
import Derived.Test.YtgcdfkoobbijeaaGreatDoorMB41
namespace Go.Proofs.YtgcdfkoobbijeaaGreatDoor
open Go Go.RowKit Go.Shelf Go.Lib

theorem ent_appendNull : ∀ args w, (callFunc 95 args).run Tryz.prog w = .ok (.enter 95 args) w := enters_of Tryz.func95 (by kernel_rfl) rfl
theorem ent_appendFalse : ∀ args w, (callFunc 96 args).run Tryz.prog w = .ok (.enter 96 args) w := enters_of Tryz.func96 (by kernel_rfl) rfl
theorem ent_appendTrue : ∀ args w, (callFunc 97 args).run Tryz.prog w = .ok (.enter 97 args) w := enters_of Tryz.func97 (by kernel_rfl) rfl
theorem ent_appendNumber : ∀ args w, (callFunc 99 args).run Tryz.prog w = .ok (.enter 99 args) w := enters_of Tryz.func99 (by kernel_rfl) rfl
theorem ent_appendText : ∀ args w, (callFunc 100 args).run Tryz.prog w = .ok (.enter 100 args) w := enters_of Tryz.func100 (by kernel_rfl) rfl
theorem ent_appendList : ∀ args w, (callFunc 102 args).run Tryz.prog w = .ok (.enter 102 args) w := enters_of Tryz.func102 (by kernel_rfl) rfl
theorem ent_appendObject : ∀ args w, (callFunc 104 args).run Tryz.prog w = .ok (.enter 104 args) w := enters_of Tryz.func104 (by kernel_rfl) rfl
theorem own_shape {w : World} {B : Nat} {e : TypeId} {size n : Nat} {v : Value} {xs : List Value} (h : w.ownsRow B e size v n xs) : ∃ p c, v = .slice p n c := by
  rcases h.2 with ⟨rfl, rfl⟩ | ⟨g, cap, cur, rfl, _⟩
  · exact ⟨none, 0, rfl⟩
  · exact ⟨_, cap, rfl⟩
theorem aV_plain {k : Nat} {x : ByteArray} {l f : V.T} {b : List UInt8} (h : ¬ 262144 < b.length) (h5 : ¬ k = 5) (h6 : ¬ k = 6) : aV k x l f b = b ++ lf k x := by
  unfold aV
  rw [if_neg (by omega), if_neg h5, if_neg h6]
theorem aV_list {x : ByteArray} {l f : V.T} {b : List UInt8} (h : ¬ 262144 < b.length) : aV 5 x l f b = aT l 0 true (b ++ [91]) ++ [93] := by
  unfold aV
  rw [if_neg (by omega), if_pos rfl]
theorem aV_obj {x : ByteArray} {l f : V.T} {b : List UInt8} (h : ¬ 262144 < b.length) : aV 6 x l f b = aT f 1 true (b ++ [123]) ++ [125] := by
  unfold aV
  rw [if_neg (by omega), if_neg (by decide), if_pos rfl]
set_option maxRecDepth 100000 in
theorem wr_ok : ∀ N, WrOk N
  | 0 => fun k x va ua l f A B b lb w h => absurd h (Nat.not_lt_zero _)
  | N + 1 => fun k x va ua l f A B b lb w hN hk h3 hkl hkf hlen hl hf hA hown hBw => by
    have ih := wr_ok N
    obtain ⟨p, c, rfl⟩ := own_shape hown
    by_cases hlong : 262144 < lb.length
    · rw [show aV k x l f lb = lb from if_pos hlong]
      exact appendValueK_long B _ va ua k x lb w p c rfl hlong (by omega) hown hBw
    · have own : ∀ W, Below w.heap.size w W → W.ownsRow B 5 1 (.slice p lb.length c) lb.length (U.cellsOf lb) := fun W hW => own8_below hown hW
      have bw : ∀ W, Below w.heap.size w W → B ≤ W.heap.size := fun W hW => Nat.le_trans hBw hW.size
      have hc : k = 0 ∨ k = 1 ∨ k = 2 ∨ k = 3 ∨ k = 4 ∨ k = 5 ∨ k = 6 := by omega
      rcases hc with rfl | rfl | rfl | rfl | rfl | rfl | rfl
      · rw [aV_plain hlong (by decide) (by decide)]
        exact appendValueK_with B _ va ua 0 x lb _ 92 93 94 95 w p c rfl (by decide) (by omega) hBw (fun W => by kernel_rfl) ent_appendNull (fun W hW => appendNull_k B _ va ua 0 x lb W (by omega) (own W hW) (bw W hW))
      · rw [aV_plain hlong (by decide) (by decide)]
        exact appendValueK_with B _ va ua 1 x lb _ 92 93 94 96 w p c rfl (by decide) (by omega) hBw (fun W => by kernel_rfl) ent_appendFalse (fun W hW => appendFalse_k B _ va ua 1 x lb W (by omega) (own W hW) (bw W hW))
      · rw [aV_plain hlong (by decide) (by decide)]
        exact appendValueK_with B _ va ua 2 x lb _ 92 93 94 97 w p c rfl (by decide) (by omega) hBw (fun W => by kernel_rfl) ent_appendTrue (fun W hW => appendTrue_k B _ va ua 2 x lb W (by omega) (own W hW) (bw W hW))
      · rw [aV_plain hlong (by decide) (by decide)]
        exact appendValueK_with B _ va ua 3 x lb _ 98 93 94 99 w p c rfl (by decide) (by omega) hBw (fun W => by kernel_rfl) ent_appendNumber (fun W hW => appendNumber_k B _ va ua 3 x lb W (by omega) (by omega) (own W hW) (bw W hW))
      · rw [aV_plain hlong (by decide) (by decide)]
        exact appendValueK_with B _ va ua 4 x lb _ 34 93 94 100 w p c rfl (by decide) (by omega) hBw (fun W => by kernel_rfl) ent_appendText (fun W hW => appendText_k B _ va ua 4 x lb W (by omega) (by omega) (own W hW) (bw W hW))
      · rw [aV_list hlong]
        exact appendValueK_with B _ va ua 5 x lb _ 92 101 94 102 w p c rfl (by decide) (by omega) hBw (fun W => by kernel_rfl) ent_appendList (fun W hW => appendList_any N ih x va ua l f A B _ lb W (by omega) hkl (by omega) (hl.below hW) (hf.below hW) hA (own W hW) (bw W hW))
      · rw [aV_obj hlong]
        exact appendValueK_with B _ va ua 6 x lb _ 92 93 103 104 w p c rfl (by decide) (by omega) hBw (fun W => by kernel_rfl) ent_appendObject (fun W hW => appendObject_any N ih x va ua l f A B _ lb W (by omega) hkf (by omega) (hl.below hW) (hf.below hW) hA (own W hW) (bw W hW))
end Go.Proofs.YtgcdfkoobbijeaaGreatDoor

namespace Go.Proofs.YtgcdfkoobbijeaaGreatDoor
open Go Go.RowKit Go.Shelf Go.Lib

/-- the same, or both too long -/
def Eq2 (y z : List UInt8) : Prop := y = z ∨ (262144 < y.length ∧ 262144 < z.length)
theorem Eq2.app {y z : List UInt8} (h : Eq2 y z) (c : List UInt8) : Eq2 (y ++ c) (z ++ c) := by
  rcases h with h | ⟨h1, h2⟩
  · exact .inl (by rw [h])
  · exact .inr ⟨by rw [List.length_append]; omega, by rw [List.length_append]; omega⟩
/-- how the program's writer writes, and what is written -/
theorem aT_wr : ∀ (t : V.T) (d : Nat) (first : Bool) (b z : List UInt8), Eq2 b z → Eq2 (aT t d first b) (z ++ wrT t d first)
  | .nil, _, _, b, z, h => by
    show Eq2 b (z ++ [])
    rw [List.append_nil]
    exact h
  | .cons nm k x l f tl, d, first, b, z, h => by
    rw [aT_cons, wrT_cons, ← List.append_assoc, ← List.append_assoc]
    apply aT_wr tl d false
    have hb := h.app (ahead d first nm)
    generalize b ++ ahead d first nm = y at *
    generalize z ++ ahead d first nm = u at *
    unfold aV wrV
    by_cases hlong : y.length > 262144
    · rw [if_pos hlong]
      rcases hb with e | ⟨_, h2⟩
      · exact .inr ⟨hlong, by rw [← e, List.length_append]; omega⟩
      · exact .inr ⟨hlong, by rw [List.length_append]; omega⟩
    · rw [if_neg hlong]
      split
      · rw [← List.append_assoc, ← List.append_assoc]
        exact (aT_wr l 0 true _ _ (hb.app [91])).app [93]
      split
      · rw [← List.append_assoc, ← List.append_assoc]
        exact (aT_wr f 1 true _ _ (hb.app [123])).app [125]
      · exact hb.app _
theorem aV_wr (k : Nat) (x : ByteArray) (l f : V.T) : Eq2 (aV k x l f []) (wrV k x l f) := by
  have h0 : Eq2 [] [] := .inl rfl
  unfold aV wrV
  rw [if_neg (by decide)]
  split
  · exact (aT_wr l 0 true _ _ (h0.app [91])).app [93]
  split
  · exact (aT_wr f 1 true _ _ (h0.app [123])).app [125]
  · exact h0.app _
theorem kd_of : ∀ {t : V.T} {d : Nat} {seen : List ByteArray} {dep : Nat}, mayT t d seen dep = true → Kd t
  | .nil, _, _, _, _ => trivial
  | .cons nm k x l f tl, d, seen, dep, h => by
    rw [mayT_cons, Bool.and_eq_true, Bool.and_eq_true] at h
    obtain ⟨⟨_, h2⟩, h3⟩ := h
    have hx : k = 3 → 0 < x.size := fun e => by
      subst e
      obtain ⟨_, hn, _, _⟩ := mayV_leaf h2 (by decide) (by decide)
      have h4 := nm_go (s := x) (p := 0) (Nat.zero_le _) (by rw [(numS_iff x).1 (show numS x = true from hn)])
      rw [(numS_iff x).1 (show numS x = true from hn)] at h4
      exact h4
    refine ⟨⟨mayV_six h2, hx⟩, ?_, ?_, kd_of h3⟩
    · by_cases h5 : k = 5
      · subst h5; exact kd_of (mayV_list h2).2.2.1
      by_cases h6 : k = 6
      · subst h6; rw [(mayV_obj h2).2.2.2]; trivial
      · rw [(mayV_leaf h2 h5 h6).2.2.1]; trivial
    · by_cases h5 : k = 5
      · subst h5; rw [(mayV_list h2).2.2.2]; trivial
      by_cases h6 : k = 6
      · subst h6; exact kd_of (mayV_obj h2).2.2.1
      · rw [(mayV_leaf h2 h5 h6).2.2.2]; trivial
theorem kdV_of {k : Nat} {x : ByteArray} {l f : V.T} {dep : Nat} (h : mayV k x l f dep = true) : (k ≤ 6 ∧ (k = 3 → 0 < x.size)) ∧ Kd l ∧ Kd f := by
  have := kd_of (t := .cons ⟨#[]⟩ k x l f .nil) (d := 0) (seen := []) (dep := dep) (by rw [mayT_cons, h]; rfl)
  exact ⟨this.1, this.2.1, this.2.2.1⟩
/-- what is printed: the text, or the error -/
def prn (k : Nat) (x : ByteArray) (l f : V.T) : ByteArray × Nat :=
  if mayV k x l f 0 = true then (if 262144 < (wrV k x l f).length then (⟨#[]⟩, 3) else (⟨(wrV k x l f).toArray⟩, 0)) else (⟨#[]⟩, 40)
def PrIs (r : ByteArray × Nat) (w : World) (e : Ending) (w' : World) : Prop := e = .returned (.tuple #[.string r.1, .int .i64 r.2]) ∧ Below w.heap.size w w'
/-- a value such as is gone through -/
structure Gv (w : World) (A : Nat → Prop) (k : Nat) (x : ByteArray) (v u : Value) (l f : V.T) : Prop where
  hl : HS w A 0 v l
  hf : HS w A 1 u f
  kind : k < 256
  text : x.size ≤ 1000000000000
  sl : Sm l
  sf : Sm f
  len : 6 * x.size + 10 + wgt l + wgt f ≤ 100000000000
theorem Gv.below {w w' : World} {A : Nat → Prop} {k : Nat} {x : ByteArray} {v u : Value} {l f : V.T} (h : Gv w A k x v u l f) (hB : Below w.heap.size w w') : Gv w' A k x v u l f :=
  ⟨h.hl.below hB, h.hf.below hB, h.kind, h.text, h.sl, h.sf, h.len⟩
set_option maxRecDepth 100000 in
theorem may_any (k : Nat) (x : ByteArray) (va ua : Value) (l f : V.T) (A : Nat → Prop) (w : World) (h : Gv w A k x va ua l f) (hT : Tabs w) : Calls Tryz.prog 14 #[.agg #[.int .u8 k, .string x, va, ua]] w (Bools (mayV k x l f 0) w) := by
  have hB := (Below.refl w.heap.size w).alloc (Nat.le_refl _) (.cells #[.int .u8 k, .string x, va, ua] 25)
  have hm := may_ok (l.size + f.size + 1) k x va ua l f A 0 (w.alloc (.cells #[.int .u8 k, .string x, va, ua] 25)) (Nat.lt_succ_self _) h.kind h.text h.sl h.sf (h.hl.below hB) (h.hf.below hB) (Nat.zero_le _) (tabs_below hT hB)
  obtain ⟨p, c, rfl, -⟩ := h.hl.len
  obtain ⟨q, d, rfl, -⟩ := h.hf.len
  have HB := Lib.hid hB
  clear hB h hT
  go_enter Tryz.func14, Tryz.ntmps14
  go_wp2_with fail
  refine hm.mono ?_
  rintro e w1 ⟨rfl, hB1⟩
  have H1 := Lib.hid (HB.out.trans (hB1.mono HB.out.size))
  clear hB1 hm
  go_wp2_with fail
  go_ret
  exact ⟨rfl, H1.out⟩
set_option maxHeartbeats 1000000 in
set_option maxRecDepth 100000 in
theorem print_any (k : Nat) (x : ByteArray) (va ua : Value) (l f : V.T) (A : Nat → Prop) (w : World) (h : Gv w A k x va ua l f) (hT : Tabs w) : Calls Tryz.prog 10 #[.agg #[.int .u8 k, .string x, va, ua]] w (PrIs (prn k x l f) w) := by
  have hB := (Below.refl w.heap.size w).alloc (Nat.le_refl _) (.cells #[.int .u8 k, .string x, va, ua] 25)
  have hm := may_any k x va ua l f A _ (h.below hB) (tabs_below hT hB)
  have hbk : Blk4 (w.alloc (.cells #[.int .u8 k, .string x, va, ua] 25)) w.heap.size 25 (.int .u8 k) (.string x) va ua := heap_alloc_new _ _
  have HV := Lib.hid h
  unfold prn
  have e2 := aV_wr k x l f
  cases hmay : mayV k x l f 0
  · rw [hmay] at hm
    rw [if_neg (by decide)]
    obtain ⟨p, c, rfl, -⟩ := h.hl.len
    obtain ⟨q, d, rfl, -⟩ := h.hf.len
    obtain ⟨c0, c1, c2, c3⟩ := hbk.box
    have HB := Lib.hid hB
    clear hB h hT hmay hbk e2
    go_enter Tryz.func10, Tryz.ntmps10
    go_wp2_with fail
    refine hm.mono ?_
    rintro e w1 ⟨rfl, hB1⟩
    have H1 := Lib.hid (HB.out.trans (hB1.mono HB.out.size))
    clear hB1 hm c0 c1 c2 c3
    go_wp2_with fail
    go_ret2
    exact ⟨rfl, H1.out⟩
  · rw [hmay] at hm
    rw [if_pos rfl]
    obtain ⟨⟨hk6, hk3⟩, hkl, hkf⟩ := kdV_of hmay
    have hw := fun (W : World) (hW : Below w.heap.size w W) => wr_ok (l.size + f.size + 1) k x va ua l f (fun c => c < W.heap.size) W.heap.size (.slice none 0 0) [] W (Nat.lt_succ_self _) hk6 hk3 hkl hkf (by have := HV.out.len; simp only [List.length_nil]; omega)
      ((h.hl.below hW).mono (fun _ _ h => h)) ((h.hf.below hW).mono (fun _ _ h => h)) (fun _ h => h) ⟨rfl, .inl ⟨rfl, rfl⟩⟩ (Nat.le_refl _)
    generalize ho : aV k x l f [] = o at *
    generalize hz : wrV k x l f = z at *
    generalize hr : (if 262144 < z.length then ((⟨#[]⟩ : ByteArray), 3) else (⟨z.toArray⟩, 0)) = r
    have HR := Lib.hid hr
    clear hr
    have hol := aV_len k x l f []
    rw [ho] at hol
    have HOL := Lib.hid (show o.length ≤ 100000000000 by have := HV.out.len; simp only [List.length_nil] at hol; omega)
    obtain ⟨p, c, rfl, -⟩ := h.hl.len
    obtain ⟨q, d, rfl, -⟩ := h.hf.len
    obtain ⟨c0, c1, c2, c3⟩ := hbk.box
    have HB := Lib.hid hB
    have HBK := Lib.hid hbk
    have HO := Lib.hid e2
    have HW := Lib.hid hw
    clear hB h hT hmay hbk e2 ho hz hol hk6 hk3 hkl hkf hw
    go_enter Tryz.func10, Tryz.ntmps10
    go_wp2_with fail
    refine hm.mono ?_
    rintro e w1 ⟨rfl, hB1⟩
    have H1 := Lib.hid (HB.out.trans (hB1.mono HB.out.size))
    have hb1 := HBK.out.same (hB1.block _ HBK.out.lt)
    obtain ⟨d0, d1, d2, d3⟩ := hb1.box
    clear hB1 hm c0 c1 c2 c3 hb1
    go_wp2_with fail
    refine (HW.out _ H1.out).mono ?_
    rintro e w2 ⟨v', rfl, hown, hB2, _⟩
    have H2 := Lib.hid (H1.out.trans (hB2.mono H1.out.size))
    obtain ⟨p', c', rfl⟩ := own_shape hown
    have hconv := conv_own hown
    have hl2 := HOL.out
    clear hB2 d0 d1 d2 d3 hown
    by_cases hlong : 262144 < o.length
    · have tl : decide ((262144 : Int) < (o.length : Int)) = true := decide_eq_true (by omega)
      have hzl : 262144 < z.length := by
        rcases HO.out with e | ⟨_, h2⟩
        · rw [← e]; exact hlong
        · exact h2
      have HZ := Lib.hid hzl
      clear hlong hzl hconv
      go_wp2_with fail
      go_ret2
      exact ⟨by rw [← HR.out, if_pos HZ.out]; rfl, H2.out⟩
    · have tl : decide ((262144 : Int) < (o.length : Int)) = false := decide_eq_false (by omega)
      have hzl : o = z := by
        rcases HO.out with e | ⟨h1, _⟩
        · exact e
        · exact absurd h1 hlong
      have hzn : ¬ 262144 < z.length := by rw [← hzl]; exact hlong
      have HZ := Lib.hid (And.intro hzn hzl)
      clear hlong hzl hzn
      go_wp2_with fail
      go_ret2
      exact ⟨by rw [← HR.out, if_neg HZ.out.1, HZ.out.2]; rfl, H2.out⟩
end Go.Proofs.YtgcdfkoobbijeaaGreatDoor

namespace Go.Proofs.YtgcdfkoobbijeaaGreatDoor
open Go Go.RowKit Go.Lib

def SmallG (s : Nat) (L : Nat) (w : World) (en : Ending) (w' : World) : Prop := ∃ ok : Bool, en = .returned (.bool ok) ∧ (ok = true → s + 1 ≤ L) ∧ Below w.heap.size w w'
set_option maxRecDepth 100000 in
set_option maxHeartbeats 1000000 in
theorem smallG_any (ka : Nat) (xa : ByteArray) (va ua : Value) (la fa : V.T) (A : Nat → Prop) (L D : Nat) (w : World) (hL : L ≤ 1000000) (hD : D ≤ 1000000) (hva : HS w A 0 va la) (hua : HS w A 1 ua fa) :
    Calls Tryz.prog 36 #[.agg #[.int .u8 ka, .string xa, va, ua], .int .i64 L, .int .i64 D] w (SmallG (la.size + fa.size) L w) := by
  obtain ⟨pa, ca, rfl, ba0, ba1, ba2⟩ := hva.len
  obtain ⟨qa, da, rfl, ba5, ba3, ba4⟩ := hua.len
  have hc := fun W hW => count_any (la.size + fa.size + 1) ka xa _ _ la fa L D A W (Nat.lt_succ_self _) (by omega) (by omega) (by omega) (by omega) (hva.below hW) (hua.below hW)
  clear hva hua
  go_enter Tryz.func36, Tryz.ntmps36
  go_wp2_with fail
  have hB := (Below.refl w.heap.size w).alloc (Nat.le_refl _) (.cells #[.int .u8 ka, .string xa, .slice pa la.len ca, .slice qa fa.len da] 25)
  refine (hc _ hB).mono ?_
  rintro e w1 ⟨r, ok, rfl, hr0, _, hok, hB1⟩
  have HK := Lib.hid (And.intro hok hr0)
  have HB1 := Lib.hid (hB.trans (hB1.mono hB.size))
  clear hok hB hB1 hc hr0
  go_wp2_with fail
  go_ret
  exact ⟨ok, rfl, fun h => by have := HK.out.1 h; have := HK.out.2; omega, HB1.out⟩
/-- what is gone through is not great -/
def Fine4 (x : ByteArray) (la fa : V.T) : Prop := (la.len + fa.len = 0 ∧ x.size ≤ 524288) ∨ (la.size + fa.size + 1 ≤ 2000 ∧ x.size + szT la + szT fa ≤ 20000)
def Great4 (x : ByteArray) (la fa : V.T) (w : World) (en : Ending) (w' : World) : Prop := ∃ b : Bool, en = .returned (.bool b) ∧ (b = false → Fine4 x la fa) ∧ Below w.heap.size w w'
set_option maxRecDepth 100000 in
set_option maxHeartbeats 1000000 in
theorem great4_any (k : Nat) (x : ByteArray) (va ua : Value) (la fa : V.T) (A : Nat → Prop) (w : World) (hx : x.size ≤ 140737488355328) (hva : HS w A 0 va la) (hua : HS w A 1 ua fa) :
    Calls Tryz.prog 8 #[.agg #[.int .u8 k, .string x, va, ua]] w (Great4 x la fa w) := by
  have hB := (Below.refl w.heap.size w).alloc (Nat.le_refl _) (.cells #[.int .u8 k, .string x, va, ua] 25)
  have hbk : Blk4 (w.alloc (.cells #[.int .u8 k, .string x, va, ua] 25)) w.heap.size 25 (.int .u8 k) (.string x) va ua := heap_alloc_new _ _
  have hsm := fun W (hW : Below w.heap.size w W) => smallG_any k x va ua la fa A 2000 200 W (by decide) (by decide) (hva.below hW) (hua.below hW)
  have hlg := fun W (hW : Below w.heap.size w W) (h : la.size + fa.size ≤ 4000) => long_with (la.size + fa.size) (sz_ok _) k x va ua la fa A W (Nat.lt_succ_self _) h hx (hva.below hW) (hua.below hW)
  obtain ⟨pa, ca, rfl, ba0, ba1, ba2⟩ := hva.len
  obtain ⟨qa, da, rfl, ba5, ba3, ba4⟩ := hua.len
  have HLE := Lib.hid (And.intro (V.T.len_size la) (V.T.len_size fa))
  generalize ea : la.len = na at *
  generalize fa1 : fa.len = ma at *
  have HE := Lib.hid (And.intro ea fa1)
  obtain ⟨c0, c1, c2, c3⟩ := hbk.box
  have HB := Lib.hid hB
  have HBK := Lib.hid hbk
  have HSM := Lib.hid hsm
  have HLG := Lib.hid hlg
  clear hva hua hB hbk hsm hlg ea fa1
  by_cases h0 : na + ma = 0
  · have t0 : ((na : Int) + (ma : Int) == 0) = true := by simp; omega
    have H0 := Lib.hid h0
    have hna : na = 0 := by omega
    have hma : ma = 0 := by omega
    subst hna hma
    by_cases hl : 524288 < x.size
    · have tl : decide ((524288 : Int) < (x.size : Int)) = true := decide_eq_true (by omega)
      clear hl h0
      go_enter Tryz.func8, Tryz.ntmps8
      go_wp2_with fail
      go_ret
      exact ⟨true, rfl, (fun h => by cases h), HB.out⟩
    · have tl : decide ((524288 : Int) < (x.size : Int)) = false := decide_eq_false (by omega)
      have HL := Lib.hid hl
      clear hl h0
      go_enter Tryz.func8, Tryz.ntmps8
      go_wp2_with fail
      go_ret
      exact ⟨false, rfl, fun _ => .inl ⟨by have := HE.out; omega, by have := HL.out; omega⟩, HB.out⟩
  · have t0 : ((na : Int) + (ma : Int) == 0) = false := by simp; omega
    clear h0
    go_enter Tryz.func8, Tryz.ntmps8
    go_wp2_with fail
    refine (HSM.out _ HB.out).mono ?_
    rintro e w1 ⟨ok, rfl, hok, hB1⟩
    have H1 := Lib.hid (HB.out.trans (hB1.mono HB.out.size))
    have b1 := HBK.out.same (hB1.block _ HBK.out.lt)
    obtain ⟨d0, d1, d2, d3⟩ := b1.box
    clear hB1 c0 c1 c2 c3 b1
    cases ok
    · clear hok
      go_wp2_with fail
      go_ret
      exact ⟨true, rfl, (fun h => by cases h), H1.out⟩
    · have HK := Lib.hid (hok rfl)
      clear hok
      go_wp2_with fail
      refine (HLG.out _ H1.out (by have := HK.out; omega)).mono ?_
      rintro e w2 ⟨rfl, hB2⟩
      have H2 := Lib.hid (H1.out.trans (hB2.mono H1.out.size))
      obtain ⟨b, hb⟩ : ∃ b, b = decide (20000 < x.size + szT la + szT fa) := ⟨_, rfl⟩
      rw [← hb]
      have HBB := Lib.hid hb
      clear hB2 hb d0 d1 d2 d3
      go_wp2_with fail
      go_ret
      exact ⟨b, rfl, fun h => .inr ⟨HK.out, by
        have h2 := HBB.out
        rw [h] at h2
        have := of_decide_eq_false h2.symm
        omega⟩, H2.out⟩
theorem wgt_le : ∀ (t : V.T), wgt t ≤ 6 * szT t + 20 * t.size
  | .nil => Nat.zero_le _
  | .cons nm k x l f tl => by
    have h1 := wgt_le l
    have h2 := wgt_le f
    have h3 := wgt_le tl
    show 6 * nm.size + 6 * x.size + 20 + wgt l + wgt f + wgt tl ≤ 6 * (nm.size + x.size + szT l + szT f + szT tl) + 20 * (l.size + f.size + tl.size + 1)
    omega
theorem sm_of : ∀ (t : V.T), szT t ≤ 1000000000000 → Sm t
  | .nil, _ => trivial
  | .cons nm k x l f tl, h => by
    have h' : nm.size + x.size + szT l + szT f + szT tl ≤ 1000000000000 := h
    exact ⟨by omega, by omega, sm_of l (by omega), sm_of f (by omega), sm_of tl (by omega)⟩
theorem nn_of : ∀ (t : V.T) (d : Nat), Fi t d → Nn t d
  | .nil, _, _ => trivial
  | .cons nm k x l f tl, d, h => ⟨h.1, nn_of l 0 h.2.2.1, nn_of f 1 h.2.2.2.1, nn_of tl d h.2.2.2.2⟩
theorem gv_of {w : World} {A : Nat → Prop} {k : Nat} {x : ByteArray} {v u : Value} {l f : V.T} (hl : HS w A 0 v l) (hf : HS w A 1 u f) (hk : k < 256) (h : Fine4 x l f) : Gv w A k x v u l f := by
  have h1 := wgt_le l
  have h2 := wgt_le f
  rcases h with ⟨h0, hx⟩ | ⟨h0, hx⟩
  · have e1 : l = .nil := V.T.len_nil (by omega)
    have e2 : f = .nil := V.T.len_nil (by omega)
    subst e1 e2
    exact ⟨hl, hf, hk, by omega, trivial, trivial, by show 6 * x.size + 10 + 0 + 0 ≤ _; omega⟩
  · exact ⟨hl, hf, hk, by omega, sm_of l (by omega), sm_of f (by omega), by omega⟩
end Go.Proofs.YtgcdfkoobbijeaaGreatDoor
