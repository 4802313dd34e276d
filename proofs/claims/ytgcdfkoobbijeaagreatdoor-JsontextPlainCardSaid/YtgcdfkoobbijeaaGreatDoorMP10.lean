/- Plain arithmetic of UTF-8: whether a scan finds no invalid byte; where the item begins that has a byte. Conditions: none. -/
import Derived.Test.YtgcdfkoobbijeaaGreatDoorMP09
import Derived.Lib.TrimUEq
import Derived.Lib.ValidU
import Derived.Lib.ValidAsc
namespace Go.Proofs.YtgcdfkoobbijeaaGreatDoor.U
open Go

theorem bad_wd {s : ByteArray} {i : Nat} (h : bad s i = true) : wd s i = 1 := ((bad_iff s i).1 h).2
theorem good_of_wd {s : ByteArray} {i : Nat} (h : wd s i ≠ 1) : bad s i = false := by
  cases hb : bad s i
  · rfl
  · exact absurd (bad_wd hb) h
theorem ext_decode (s : ByteArray) (k : Nat) : Utf8.decode (s.extract k s.size) 0 = Utf8.decode s k := by
  rw [← Lib.decodeL_drop s k, ← Lib.ext_list s k, ← Lib.decodeL_drop (s.extract k s.size) 0]
  rfl

/-! ### valid -/
def vFrom (s : ByteArray) : Nat → Nat → Bool
  | 0, _ => true
  | f + 1, pos => if pos < s.size then (if bad s pos = true then false else vFrom s f (pos + wd s pos)) else true
def valid (s : ByteArray) : Bool := vFrom s s.size 0
theorem vFrom_end (s : ByteArray) (f pos : Nat) (h : ¬ pos < s.size) : vFrom s f pos = true := by
  cases f <;> simp [vFrom, h]
theorem vFrom_bad (s : ByteArray) (f pos : Nat) (h : pos < s.size) (hb : bad s pos = true) : vFrom s (f + 1) pos = false := by
  simp only [vFrom, if_pos h, if_pos hb]
theorem vFrom_step (s : ByteArray) (f pos : Nat) (h : pos < s.size) (hb : bad s pos = false) : vFrom s (f + 1) pos = vFrom s f (pos + wd s pos) := by
  simp only [vFrom, if_pos h, hb, Bool.false_eq_true, if_false]
theorem validGo_eq (s : ByteArray) : ∀ f pos, Lib.validGoD f (s.data.toList.drop pos) = vFrom s f pos
  | 0, _ => rfl
  | f + 1, pos => by
    by_cases h : pos < s.size
    · have hl : s.data.toList.drop pos ≠ [] := by
        intro hh
        have := congrArg List.length hh
        rw [List.length_drop, ← Lib.size_eq] at this
        simp only [List.length_nil] at this
        omega
      rw [Lib.validGoD, if_neg hl, Lib.decodeL_drop]
      show (if ch s pos = 65533 ∧ wd s pos = 1 then false else Lib.validGoD f (List.drop (wd s pos) (List.drop pos s.data.toList))) = _
      by_cases hb : bad s pos = true
      · rw [vFrom_bad s f pos h hb, if_pos ((bad_iff s pos).1 hb)]
      · rw [vFrom_step s f pos h (by simpa using hb), if_neg (fun hx => hb ((bad_iff s pos).2 hx)), List.drop_drop]
        exact validGo_eq s f (pos + wd s pos)
    · have hl : s.data.toList.drop pos = [] := List.drop_eq_nil_of_le (by rw [← Lib.size_eq]; omega)
      rw [Lib.validGoD, if_pos hl, vFrom_end s _ pos h]
theorem validD_eq (s : ByteArray) : Lib.validD s.data.toList = valid s := by
  have := validGo_eq s s.data.toList.length 0
  rw [List.drop_zero] at this
  unfold Lib.validD valid
  rw [this, Lib.size_eq]

/-! ### where an item begins -/
def bg (s : ByteArray) : Nat → Nat → Nat → Nat
  | 0, pos, _ => pos
  | f + 1, pos, i => if i < pos + wd s pos then pos else bg s f (pos + wd s pos) i
def bgn (s : ByteArray) (i : Nat) : Nat := bg s s.size 0 i
theorem bg_stop (s : ByteArray) (f pos i : Nat) (h : i < pos + wd s pos) : bg s (f + 1) pos i = pos := by simp only [bg, if_pos h]
theorem bg_step (s : ByteArray) (f pos i : Nat) (h : ¬ i < pos + wd s pos) : bg s (f + 1) pos i = bg s f (pos + wd s pos) i := by simp only [bg, if_neg h]
theorem bg_has (s : ByteArray) : ∀ f pos i, pos ≤ i → i < s.size → s.size ≤ pos + f → pos ≤ bg s f pos i ∧ bg s f pos i ≤ i ∧ i < bg s f pos i + wd s (bg s f pos i)
  | 0, pos, i, h1, h2, h3 => by omega
  | f + 1, pos, i, h1, h2, h3 => by
    by_cases h : i < pos + wd s pos
    · rw [bg_stop s f pos i h]; omega
    · rw [bg_step s f pos i h]
      have hp := wd_pos (s := s) (i := pos) (by omega)
      have := bg_has s f (pos + wd s pos) i (by omega) h2 (by omega)
      omega
theorem bg_uni (s : ByteArray) : ∀ f pos q i, bg s f pos q = q → q ≤ i → i < q + wd s q → bg s f pos i = q
  | 0, pos, q, i, h, _, _ => h
  | f + 1, pos, q, i, h, h1, h2 => by
    by_cases hq : q < pos + wd s pos
    · rw [bg_stop s f pos q hq] at h
      subst h
      exact bg_stop s f pos i h2
    · rw [bg_step s f pos q hq] at h
      rw [bg_step s f pos i (by omega)]
      exact bg_uni s f _ q i h h1 h2
theorem bgn_has (s : ByteArray) (i : Nat) (h : i < s.size) : bgn s i ≤ i ∧ i < bgn s i + wd s (bgn s i) := (bg_has s s.size 0 i (Nat.zero_le _) h (by omega)).2

set_option maxRecDepth 100000 in
set_option maxHeartbeats 2000000 in
theorem dn_inner (n b0 b1 b2 b3 : Nat) : (2 ≤ (Lib.decodeN n b0 b1 b2 b3).2 → b1 / 64 = 2) ∧ (3 ≤ (Lib.decodeN n b0 b1 b2 b3).2 → b2 / 64 = 2) ∧ (4 ≤ (Lib.decodeN n b0 b1 b2 b3).2 → b3 / 64 = 2) := by
  unfold Lib.decodeN
  repeat' split
  all_goals (refine ⟨?_, ?_, ?_⟩ <;> intro <;> (try simp only at *) <;> omega)
/-- a byte within an item, behind its first one, goes on with a character -/
theorem inner (s : ByteArray) (p q : Nat) (hp : p < s.size) (h1 : p < q) (h2 : q < p + wd s p) : (s.get! q).toNat / 64 = 2 := by
  have h4 := (facts s p hp).2.1
  have hd := dn_inner (s.size - p) (s.get! p).toNat (s.get! (p + 1)).toNat (s.get! (p + 2)).toNat (s.get! (p + 3)).toNat
  rw [← wd_eq] at hd
  obtain ⟨k, rfl⟩ : ∃ k, q = p + k := ⟨q - p, by omega⟩
  have hk : k = 1 ∨ k = 2 ∨ k = 3 := by omega
  rcases hk with rfl | rfl | rfl
  · exact hd.1 (by omega)
  · exact hd.2.1 (by omega)
  · exact hd.2.2 (by omega)
theorem cont_bad (s : ByteArray) (q : Nat) (h : (s.get! q).toNat / 64 = 2) : bad s q = true := by
  rw [bad_iff, ch_eq, wd_eq, Lib.decodeN_cont _ _ _ _ _ h]
  exact ⟨rfl, rfl⟩
/-- a character is begun by the scan, wherever it stands -/
theorem good_start (s : ByteArray) (q : Nat) (hq : q < s.size) (hg : bad s q = false) : bgn s q = q := by
  have hb := bgn_has s q hq
  by_cases h : bgn s q = q
  · exact h
  · have := cont_bad s q (inner s (bgn s q) q (by omega) (by omega) hb.2)
    rw [hg] at this
    cases this
theorem good_bgn (s : ByteArray) (q i : Nat) (hq : q < s.size) (hg : bad s q = false) (h1 : q ≤ i) (h2 : i < q + wd s q) : bgn s i = q :=
  bg_uni s s.size 0 q i (good_start s q hq hg) h1 h2
theorem bgn_self (s : ByteArray) (i : Nat) (hi : i < s.size) (h : ∀ q, i ≤ q + 3 → q < i → ¬ (bad s q = false ∧ i < q + wd s q)) : bgn s i = i := by
  have hb := bgn_has s i hi
  by_cases hx : bgn s i = i
  · exact hx
  · have h4 := (facts s (bgn s i) (by omega)).2.1
    exact absurd ⟨good_of_wd (by omega), hb.2⟩ (h (bgn s i) (by omega) (by omega))
end Go.Proofs.YtgcdfkoobbijeaaGreatDoor.U

namespace Go.Proofs.YtgcdfkoobbijeaaGreatDoor
open Go Go.RowKit Go.Shelf Go.Lib

set_option maxRecDepth 100000 in
theorem noText_any (s : ByteArray) (w : World) : Calls Tryz.prog 92 #[.string s] w (Bools (decide (s.size = 0)) w) := by
  go_enter Tryz.func92, Tryz.ntmps92
  go_wp2_with fail
  go_ret
  refine ⟨?_, Below.refl _ _⟩
  first | (show Ending.returned (.bool s.toList.isEmpty) = _; rw [empty_isE]) | (show Ending.returned (.bool (decide (s = ByteArray.empty))) = _; rw [empty_dec])
set_option maxRecDepth 100000 in
theorem noList_any (p : Option Addr) (n c : Nat) (d : Int) (w : World) (h : n ≤ 2000000000000) (h2 : n ≤ c) (h3 : c ≤ 9223372036854775807) : Calls Tryz.prog 93 #[.slice p n c, .int .i64 d] w (Bools (decide (n = 0)) w) := by
  go_enter Tryz.func93, Tryz.ntmps93
  go_wp2_with fail
  go_ret
  refine ⟨?_, Below.refl _ _⟩
  by_cases h0 : n = 0
  · subst h0; rfl
  · show Ending.returned (.bool _) = _
    congr 2
    simp [h0]
set_option maxRecDepth 100000 in
theorem noFields_any (p : Option Addr) (n c : Nat) (d : Int) (w : World) (h : n ≤ 2000000000000) (h2 : n ≤ c) (h3 : c ≤ 9223372036854775807) : Calls Tryz.prog 94 #[.slice p n c, .int .i64 d] w (Bools (decide (n = 0)) w) := by
  go_enter Tryz.func94, Tryz.ntmps94
  go_wp2_with fail
  go_ret
  refine ⟨?_, Below.refl _ _⟩
  by_cases h0 : n = 0
  · subst h0; rfl
  · show Ending.returned (.bool _) = _
    congr 2
    simp [h0]
/-- a kind's text -/
def txk (k : Nat) (x : ByteArray) : Bool := if k = 3 then numS x else if k = 4 then U.valid x else decide (x.size = 0)
/-- a row of values, or of fields whose names are none of some -/
def mayT : V.T → Nat → List ByteArray → Nat → Bool
  | .nil, _, _, _ => true
  | .cons nm k x l f tl, d, seen, dep => (if d = 1 then !(seen.contains nm) && U.valid nm else true) &&
      (decide (k ≤ 6) && (txk k x && (if k = 5 then !(decide (dep = 64)) && mayT l 0 [] (dep + 1) else decide (l.len = 0)) && (if k = 6 then !(decide (dep = 64)) && mayT f 1 [] (dep + 1) else decide (f.len = 0)))) && mayT tl d (nm :: seen) dep
def mayV (k : Nat) (x : ByteArray) (l f : V.T) (dep : Nat) : Bool := decide (k ≤ 6) && (txk k x && (if k = 5 then !(decide (dep = 64)) && mayT l 0 [] (dep + 1) else decide (l.len = 0)) && (if k = 6 then !(decide (dep = 64)) && mayT f 1 [] (dep + 1) else decide (f.len = 0)))
theorem mayT_val {nm : ByteArray} {k : Nat} {x : ByteArray} {l f tl : V.T} {seen : List ByteArray} {dep : Nat} : mayT (.cons nm k x l f tl) 0 seen dep = (mayV k x l f dep && mayT tl 0 (nm :: seen) dep) := by
  unfold mayV
  conv => lhs; unfold mayT
  rw [if_neg (by decide), Bool.true_and]
theorem mayT_seen : ∀ (t : V.T) (a b : List ByteArray) (dep : Nat), mayT t 0 a dep = mayT t 0 b dep
  | .nil, _, _, _ => rfl
  | .cons nm k x l f tl, a, b, dep => by rw [mayT_val, mayT_val, mayT_seen tl (nm :: a) (nm :: b) dep]
/-- strings of a size that is gone through -/
def Sm : V.T → Prop
  | .nil => True
  | .cons nm _ x l f tl => nm.size ≤ 1000000000000 ∧ x.size ≤ 1000000000000 ∧ Sm l ∧ Sm f ∧ Sm tl
theorem Sm.drop {t : V.T} {i : Nat} {nm : ByteArray} {k : Nat} {x : ByteArray} {l f tl : V.T} (h : Sm t) (hd : t.drop i = .cons nm k x l f tl) : nm.size ≤ 1000000000000 ∧ x.size ≤ 1000000000000 ∧ Sm l ∧ Sm f ∧ Sm tl := by
  induction i generalizing t with
  | zero => rw [V.T.drop_zero] at hd; subst hd; exact h
  | succ i ih =>
    cases t with
    | nil => cases hd
    | cons a b c d e tl2 => exact ih (t := tl2) h.2.2.2.2 hd
/-- valid serves values of fewer than N elements -/
def MayOk (P : World → Prop) (N : Nat) : Prop := ∀ (k : Nat) (x : ByteArray) (va ua : Value) (l f : V.T) (A : Nat → Prop) (d : Nat) (w : World), l.size + f.size < N → k < 256 → x.size ≤ 1000000000000 → Sm l → Sm f → HS w A 0 va l → HS w A 1 ua f → d ≤ 64 → P w →
  Calls Tryz.prog 43 #[.agg #[.int .u8 k, .string x, va, ua], .int .i64 d] w (Bools (mayV k x l f d) w)

set_option maxHeartbeats 1000000 in
set_option maxRecDepth 100000 in
theorem validList_any (P : World → Prop) (hP : ∀ W W', P W → Below W.heap.size W W' → P W') (N : Nat) (ih : MayOk P N) (v : Value) (t : V.T) (A : Nat → Prop) (d : Nat) (w : World) (ht : t.size ≤ N) (hs : Sm t) (hv : HS w A 0 v t) (hd : d ≤ 64) (hPw : P w) :
    Calls Tryz.prog 101 #[v, .int .i64 d] w (Bools (!(decide (d = 64)) && mayT t 0 [] (d + 1)) w) := by
  obtain ⟨p, c, rfl, b0, b1, b2⟩ := hv.len
  by_cases h64 : d = 64
  · have td : ((d : Int) == 64) = true := by simp; omega
    rw [decide_eq_true h64]
    clear h64 hd
    go_enter Tryz.func101, Tryz.ntmps101
    go_wp2_with fail
    go_ret
    exact ⟨rfl, Below.refl _ _⟩
  · have td : ((d : Int) == 64) = false := by simp; omega
    rw [decide_eq_false h64]
    generalize hn : t.len = n at *
    have HN := Lib.hid hn
    have HA := Lib.hid hv
    have hd2 : d + 1 ≤ 64 := by omega
    have HH := Lib.hid (And.intro ht (And.intro hs hd2))
    have HP := Lib.hid (And.intro hP hPw)
    clear hn hv ht hs h64 hd hP hPw
    go_enter Tryz.func101, Tryz.ntmps101
    go_wp2_with fail
    go_loopw [11] (fun q wr => ∃ i : Nat, q = .int .i64 i ∧ i ≤ n ∧ Hid (mayT (t.drop i) 0 [] (d + 1) = mayT t 0 [] (d + 1)) ∧ Hid (Below w.heap.size w wr)) (fun q _ => n - (RowKit.intOf q).toNat)
    case atStart => exact ⟨0, rfl, Nat.zero_le _, Lib.hid (by rw [V.T.drop_zero]), Lib.hid (Below.refl _ _)⟩
    case round =>
      obtain ⟨i, rfl, hi, HR, HB⟩ := hrel
      by_cases hlt : i < n
      · obtain ⟨nm1, k1, x1, l1, f1, tl1, hd1⟩ := V.T.drop_some (t := t) (i := i) (by rw [HN.out]; exact hlt)
        obtain ⟨b1, o1, v1, u1, rfl, E1⟩ := (HA.out.below HB.out).elem (by rw [HN.out]; exact hlt) hd1
        obtain ⟨p1, c5, rfl, -⟩ := E1.hl.len
        obtain ⟨p2, c6, rfl, -⟩ := E1.hf.len
        have e1 := E1.kind
        have e2 := E1.text
        have e3 := E1.list
        have e4 := E1.fields
        simp only [Nat.add_zero] at e1 e2 e3 e4
        have hsz := V.T.drop_size hd1
        have hsm := HH.out.2.1.drop hd1
        have IH := fun W (hB : Below wr.heap.size wr W) => ih k1 x1 _ _ l1 f1 A (d + 1) W (by have := HH.out.1; omega) E1.small.1 hsm.2.1 hsm.2.2.1 hsm.2.2.2.1 (E1.hl.below hB) (E1.hf.below hB) HH.out.2.2 (HP.out.1 _ _ (HP.out.1 _ _ HP.out.2 HB.out) hB)
        have hcast : ((d + 1 : Nat) : Int) = (d : Int) + 1 := by omega
        simp only [hcast] at IH
        clear hcast
        have hstep : mayT (t.drop i) 0 [] (d + 1) = (mayV k1 x1 l1 f1 (d + 1) && mayT (t.drop (i + 1)) 0 [] (d + 1)) := by
          rw [hd1, V.T.drop_step hd1, mayT_val, mayT_seen tl1 [nm1] []]
        have HS := Lib.hid hstep
        have HL := Lib.hid hlt
        clear hstep hsz hsm E1 hd1
        cases hv : mayV k1 x1 l1 f1 (d + 1)
        · have hno : mayT t 0 [] (d + 1) = false := by rw [← HR.out, HS.out, hv]; rfl
          rw [hv] at IH
          have HNo := Lib.hid hno
          have hBa := Lib.hid ((Below.refl wr.heap.size wr).alloc (Nat.le_refl _) (.cells #[.int .u8 k1, .string x1, .slice p1 l1.len c5, .slice p2 f1.len c6] 25))
          clear hno hv
          go_wp2_with fail
          (with_reducible refine (IH _ hBa.out).mono ?_)
          rintro e w1 ⟨rfl, hB1⟩
          have HB2 := Lib.hid (HB.out.trans ((hBa.out.trans (hB1.mono hBa.out.size)).mono HB.out.size))
          clear hB1 IH e1 e2 e3 e4
          go_wp2_with fail
          go_ret
          refine ⟨?_, HB2.out⟩
          rw [HNo.out]
          rfl
        · have hyes : mayT (t.drop (i + 1)) 0 [] (d + 1) = mayT t 0 [] (d + 1) := by rw [← HR.out, HS.out, hv, Bool.true_and]
          rw [hv] at IH
          have HY := Lib.hid hyes
          have hBa := Lib.hid ((Below.refl wr.heap.size wr).alloc (Nat.le_refl _) (.cells #[.int .u8 k1, .string x1, .slice p1 l1.len c5, .slice p2 f1.len c6] 25))
          clear hyes hv
          go_wp2_with fail
          (with_reducible refine (IH _ hBa.out).mono ?_)
          rintro e w1 ⟨rfl, hB1⟩
          have HB2 := Lib.hid (HB.out.trans ((hBa.out.trans (hB1.mono hBa.out.size)).mono HB.out.size))
          clear hB1 IH e1 e2 e3 e4
          go_wp2_with fail
          go_roundw
          case rel => exact ⟨i + 1, by go_num, HL.out, HY, HB2⟩
          case measure => have := HL.out; simp [RowKit.intOf]; omega
      · obtain rfl : i = n := by omega
        have hyes : mayT t 0 [] (d + 1) = true := by rw [← HR.out, ← HN.out, V.T.drop_len]; rfl
        have HY := Lib.hid hyes
        clear hyes
        go_wp2_with fail
        go_ret
        refine ⟨?_, HB.out⟩
        rw [HY.out]
        rfl
end Go.Proofs.YtgcdfkoobbijeaaGreatDoor
