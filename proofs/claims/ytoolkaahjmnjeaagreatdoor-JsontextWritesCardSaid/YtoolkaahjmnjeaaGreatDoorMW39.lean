/- The program's May and Print. Conditions: strings of at most 10^12 bytes; what is written is at most 10^11 bytes; the library's tables of UTF-8 as its text lays them. -/
import Derived.Test.YtoolkaahjmnjeaaGreatDoorMW25
import Derived.Test.YtoolkaahjmnjeaaGreatDoorMW38
import Derived.Test.YtoolkaahjmnjeaaGreatDoorMW18
namespace Go.Proofs.YtoolkaahjmnjeaaGreatDoor
open Go Go.RowKit Go.Shelf Go.Lib

/-- the same, or both too long -/
def Eq2 (y z : List UInt8) : Prop := y = z ∨ (262144 < y.length ∧ 262144 < z.length)
theorem Eq2.app {y z : List UInt8} (h : Eq2 y z) (c : List UInt8) : Eq2 (y ++ c) (z ++ c) := by
  rcases h with h | ⟨h1, h2⟩
  · exact .inl (by rw [h])
  · exact .inr ⟨by rw [List.length_append]; omega, by rw [List.length_append]; omega⟩
/-- how the program's writer writes, and what is written -/
theorem aT_wr : ∀ (t : V.T) (d : Nat) (first : Bool) (b z : List UInt8), Eq2 b z → Eq2 (aT t d first b) (z ++ wrT t d first)
  | .nil, _, _, b, z, h => by
    show Eq2 b (z ++ [])
    rw [List.append_nil]
    exact h
  | .cons nm k x l f tl, d, first, b, z, h => by
    rw [aT_cons, wrT_cons, ← List.append_assoc, ← List.append_assoc]
    apply aT_wr tl d false
    have hb := h.app (ahead d first nm)
    generalize b ++ ahead d first nm = y at *
    generalize z ++ ahead d first nm = u at *
    unfold aV wrV
    by_cases hlong : y.length > 262144
    · rw [if_pos hlong]
      rcases hb with e | ⟨_, h2⟩
      · exact .inr ⟨hlong, by rw [← e, List.length_append]; omega⟩
      · exact .inr ⟨hlong, by rw [List.length_append]; omega⟩
    · rw [if_neg hlong]
      split
      · rw [← List.append_assoc, ← List.append_assoc]
        exact (aT_wr l 0 true _ _ (hb.app [91])).app [93]
      split
      · rw [← List.append_assoc, ← List.append_assoc]
        exact (aT_wr f 1 true _ _ (hb.app [123])).app [125]
      · exact hb.app _
theorem aV_wr (k : Nat) (x : ByteArray) (l f : V.T) : Eq2 (aV k x l f []) (wrV k x l f) := by
  have h0 : Eq2 [] [] := .inl rfl
  unfold aV wrV
  rw [if_neg (by decide)]
  split
  · exact (aT_wr l 0 true _ _ (h0.app [91])).app [93]
  split
  · exact (aT_wr f 1 true _ _ (h0.app [123])).app [125]
  · exact h0.app _
theorem kd_of : ∀ {t : V.T} {d : Nat} {seen : List ByteArray} {dep : Nat}, mayT t d seen dep = true → Kd t
  | .nil, _, _, _, _ => trivial
  | .cons nm k x l f tl, d, seen, dep, h => by
    rw [mayT_cons, Bool.and_eq_true, Bool.and_eq_true] at h
    obtain ⟨⟨_, h2⟩, h3⟩ := h
    have hx : k = 3 → 0 < x.size := fun e => by
      subst e
      obtain ⟨_, hn, _, _⟩ := mayV_leaf h2 (by decide) (by decide)
      have h4 := nm_go (s := x) (p := 0) (Nat.zero_le _) (by rw [(numS_iff x).1 (show numS x = true from hn)])
      rw [(numS_iff x).1 (show numS x = true from hn)] at h4
      exact h4
    refine ⟨⟨mayV_six h2, hx⟩, ?_, ?_, kd_of h3⟩
    · by_cases h5 : k = 5
      · subst h5; exact kd_of (mayV_list h2).2.2.1
      by_cases h6 : k = 6
      · subst h6; rw [(mayV_obj h2).2.2.2]; trivial
      · rw [(mayV_leaf h2 h5 h6).2.2.1]; trivial
    · by_cases h5 : k = 5
      · subst h5; rw [(mayV_list h2).2.2.2]; trivial
      by_cases h6 : k = 6
      · subst h6; exact kd_of (mayV_obj h2).2.2.1
      · rw [(mayV_leaf h2 h5 h6).2.2.2]; trivial
theorem kdV_of {k : Nat} {x : ByteArray} {l f : V.T} {dep : Nat} (h : mayV k x l f dep = true) : (k ≤ 6 ∧ (k = 3 → 0 < x.size)) ∧ Kd l ∧ Kd f := by
  have := kd_of (t := .cons ⟨#[]⟩ k x l f .nil) (d := 0) (seen := []) (dep := dep) (by rw [mayT_cons, h]; rfl)
  exact ⟨this.1, this.2.1, this.2.2.1⟩
/-- what is printed: the text, or the error -/
def prn (k : Nat) (x : ByteArray) (l f : V.T) : ByteArray × Nat :=
  if mayV k x l f 0 = true then (if 262144 < (wrV k x l f).length then (⟨#[]⟩, 3) else (⟨(wrV k x l f).toArray⟩, 0)) else (⟨#[]⟩, 40)
def PrIs (r : ByteArray × Nat) (w : World) (e : Ending) (w' : World) : Prop := e = .returned (.tuple #[.string r.1, .int .i64 r.2]) ∧ Below w.heap.size w w'
/-- a value such as is gone through -/
structure Gv (w : World) (A : Nat → Prop) (k : Nat) (x : ByteArray) (v u : Value) (l f : V.T) : Prop where
  hl : HS w A 0 v l
  hf : HS w A 1 u f
  kind : k < 256
  text : x.size ≤ 1000000000000
  sl : Sm l
  sf : Sm f
  len : 6 * x.size + 10 + wgt l + wgt f ≤ 100000000000
theorem Gv.below {w w' : World} {A : Nat → Prop} {k : Nat} {x : ByteArray} {v u : Value} {l f : V.T} (h : Gv w A k x v u l f) (hB : Below w.heap.size w w') : Gv w' A k x v u l f :=
  ⟨h.hl.below hB, h.hf.below hB, h.kind, h.text, h.sl, h.sf, h.len⟩
set_option maxRecDepth 100000 in
theorem may_any (k : Nat) (x : ByteArray) (va ua : Value) (l f : V.T) (A : Nat → Prop) (w : World) (h : Gv w A k x va ua l f) (hT : Tabs w) : Calls Tryz.prog 14 #[.agg #[.int .u8 k, .string x, va, ua]] w (Bools (mayV k x l f 0) w) := by
  have hB := (Below.refl w.heap.size w).alloc (Nat.le_refl _) (.cells #[.int .u8 k, .string x, va, ua] 25)
  have hm := may_ok (l.size + f.size + 1) k x va ua l f A 0 (w.alloc (.cells #[.int .u8 k, .string x, va, ua] 25)) (Nat.lt_succ_self _) h.kind h.text h.sl h.sf (h.hl.below hB) (h.hf.below hB) (Nat.zero_le _) (tabs_below hT hB)
  obtain ⟨p, c, rfl, -⟩ := h.hl.len
  obtain ⟨q, d, rfl, -⟩ := h.hf.len
  have HB := Lib.hid hB
  clear hB h hT
  go_enter Tryz.func14, Tryz.ntmps14
  go_wp2_with fail
  refine hm.mono ?_
  rintro e w1 ⟨rfl, hB1⟩
  have H1 := Lib.hid (HB.out.trans (hB1.mono HB.out.size))
  clear hB1 hm
  go_wp2_with fail
  go_ret
  exact ⟨rfl, H1.out⟩
set_option maxHeartbeats 1000000 in
set_option maxRecDepth 100000 in
theorem print_any (k : Nat) (x : ByteArray) (va ua : Value) (l f : V.T) (A : Nat → Prop) (w : World) (h : Gv w A k x va ua l f) (hT : Tabs w) : Calls Tryz.prog 10 #[.agg #[.int .u8 k, .string x, va, ua]] w (PrIs (prn k x l f) w) := by
  have hB := (Below.refl w.heap.size w).alloc (Nat.le_refl _) (.cells #[.int .u8 k, .string x, va, ua] 25)
  have hm := may_any k x va ua l f A _ (h.below hB) (tabs_below hT hB)
  have hbk : Blk4 (w.alloc (.cells #[.int .u8 k, .string x, va, ua] 25)) w.heap.size 25 (.int .u8 k) (.string x) va ua := heap_alloc_new _ _
  have HV := Lib.hid h
  unfold prn
  have e2 := aV_wr k x l f
  cases hmay : mayV k x l f 0
  · rw [hmay] at hm
    rw [if_neg (by decide)]
    obtain ⟨p, c, rfl, -⟩ := h.hl.len
    obtain ⟨q, d, rfl, -⟩ := h.hf.len
    obtain ⟨c0, c1, c2, c3⟩ := hbk.box
    have HB := Lib.hid hB
    clear hB h hT hmay hbk e2
    go_enter Tryz.func10, Tryz.ntmps10
    go_wp2_with fail
    refine hm.mono ?_
    rintro e w1 ⟨rfl, hB1⟩
    have H1 := Lib.hid (HB.out.trans (hB1.mono HB.out.size))
    clear hB1 hm c0 c1 c2 c3
    go_wp2_with fail
    go_ret2
    exact ⟨rfl, H1.out⟩
  · rw [hmay] at hm
    rw [if_pos rfl]
    obtain ⟨⟨hk6, hk3⟩, hkl, hkf⟩ := kdV_of hmay
    have hw := fun (W : World) (hW : Below w.heap.size w W) => wr_ok (l.size + f.size + 1) k x va ua l f (fun c => c < W.heap.size) W.heap.size (.slice none 0 0) [] W (Nat.lt_succ_self _) hk6 hk3 hkl hkf (by have := HV.out.len; simp only [List.length_nil]; omega)
      ((h.hl.below hW).mono (fun _ _ h => h)) ((h.hf.below hW).mono (fun _ _ h => h)) (fun _ h => h) ⟨rfl, .inl ⟨rfl, rfl⟩⟩ (Nat.le_refl _)
    generalize ho : aV k x l f [] = o at *
    generalize hz : wrV k x l f = z at *
    generalize hr : (if 262144 < z.length then ((⟨#[]⟩ : ByteArray), 3) else (⟨z.toArray⟩, 0)) = r
    have HR := Lib.hid hr
    clear hr
    have hol := aV_len k x l f []
    rw [ho] at hol
    have HOL := Lib.hid (show o.length ≤ 100000000000 by have := HV.out.len; simp only [List.length_nil] at hol; omega)
    obtain ⟨p, c, rfl, -⟩ := h.hl.len
    obtain ⟨q, d, rfl, -⟩ := h.hf.len
    obtain ⟨c0, c1, c2, c3⟩ := hbk.box
    have HB := Lib.hid hB
    have HBK := Lib.hid hbk
    have HO := Lib.hid e2
    have HW := Lib.hid hw
    clear hB h hT hmay hbk e2 ho hz hol hk6 hk3 hkl hkf hw
    go_enter Tryz.func10, Tryz.ntmps10
    go_wp2_with fail
    refine hm.mono ?_
    rintro e w1 ⟨rfl, hB1⟩
    have H1 := Lib.hid (HB.out.trans (hB1.mono HB.out.size))
    have hb1 := HBK.out.same (hB1.block _ HBK.out.lt)
    obtain ⟨d0, d1, d2, d3⟩ := hb1.box
    clear hB1 hm c0 c1 c2 c3 hb1
    go_wp2_with fail
    refine (HW.out _ H1.out).mono ?_
    rintro e w2 ⟨v', rfl, hown, hB2, _⟩
    have H2 := Lib.hid (H1.out.trans (hB2.mono H1.out.size))
    obtain ⟨p', c', rfl⟩ := own_shape hown
    have hconv := conv_own hown
    have hl2 := HOL.out
    clear hB2 d0 d1 d2 d3 hown
    by_cases hlong : 262144 < o.length
    · have tl : decide ((262144 : Int) < (o.length : Int)) = true := decide_eq_true (by omega)
      have hzl : 262144 < z.length := by
        rcases HO.out with e | ⟨_, h2⟩
        · rw [← e]; exact hlong
        · exact h2
      have HZ := Lib.hid hzl
      clear hlong hzl hconv
      go_wp2_with fail
      go_ret2
      exact ⟨by rw [← HR.out, if_pos HZ.out]; rfl, H2.out⟩
    · have tl : decide ((262144 : Int) < (o.length : Int)) = false := decide_eq_false (by omega)
      have hzl : o = z := by
        rcases HO.out with e | ⟨h1, _⟩
        · exact e
        · exact absurd h1 hlong
      have hzn : ¬ 262144 < z.length := by rw [← hzl]; exact hlong
      have HZ := Lib.hid (And.intro hzn hzl)
      clear hlong hzl hzn
      go_wp2_with fail
      go_ret2
      exact ⟨by rw [← HR.out, if_neg HZ.out.1, HZ.out.2]; rfl, H2.out⟩
end Go.Proofs.YtoolkaahjmnjeaaGreatDoor

namespace Go.Proofs
open Go Go.RowKit Go.Shelf Go.Lib

namespace YtoolkaahjmnjeaaGreatDoor
set_option maxHeartbeats 1000000 in
set_option maxRecDepth 100000 in
theorem refFix_any (s : ByteArray) (w : World) (hs : s.size ≤ 1000000000000) :
    Calls Tryz.prog 147 #[.string s] w (StrIs (U.fixS s) w) := by
  obtain ⟨i0, hi, hz0, hz1, hz2⟩ := info_parts infoByte
  go_enter Tryz.func147, Tryz.ntmps147
  go_wp2_with fail
  go_loopw [3, 4] (fun v p wr => ∃ (f pos : Nat) (l : List UInt8), p = .int .i64 pos ∧ pos ≤ s.size ∧ l.length ≤ 3 * pos ∧ wr.ownsRow w.heap.size 5 1 v l.length (U.cellsOf l) ∧ Hid (l ++ U.fixFrom s f pos = U.fixL s ∧ s.size ≤ pos + f) ∧ Below w.heap.size w wr) (fun _ p _ => s.size - (RowKit.intOf p).toNat)
  case atStart => exact ⟨s.size, 0, [], rfl, by omega, by simp, World.ownsRow_nil _ _ _ _, Lib.hid ⟨rfl, by omega⟩, Below.refl _ _⟩
  case round =>
    obtain ⟨f, pos, l, rfl, hp, hl, hown, HU, hbl⟩ := hrel
    by_cases hlt : pos < s.size
    · have hw1 := U.wd_pos hlt
      have hw2 := U.wd_le hlt
      obtain ⟨f', rfl⟩ : ∃ f', f = f' + 1 := ⟨f - 1, by have := HU.out.2; omega⟩
      have HS := Lib.hid (U.fixFrom_step s f' pos hlt)
      have hpl := (U.piece_le hlt).1
      cases hbad : U.bad s pos
      · have hc := fun W => refNext_good s pos W hlt hs hbad
        have HC := Lib.hid (U.strCells_ext s pos (U.wd s pos) hw2)
        have HP := Lib.hid (U.piece_good hbad)
        clear hbad
        have hz : (s.extract pos (pos + U.wd s pos)).size = U.wd s pos := by rw [ByteArray.size_extract]; omega
        generalize hd : U.wd s pos = d at *
        have HD := Lib.hid hd
        have HZ := Lib.hid hz
        clear hd hz
        generalize U.ch s pos = c at *
        go_wp2_with fail
        refine (hc _).mono ?_
        rintro e w1 ⟨rfl, hb⟩
        have hown1 := own8_below hown hb
        have hbl1 := hbl.trans (hb.mono hbl.size)
        clear hown hb hbl hc
        go_wp2_with (at_builtin; refine wpList_append_own_string _ rfl _ _ 81 9 rfl w.heap.size 5 i0 Tryz.underlying81 Tryz.underlying9 hi hz0 hz1 hz2 _ l.length (U.cellsOf l) rfl hown1 _ rfl ?c3 ?c4 hbl1.size ?_)
        case c3 => rw [HZ.out]; unfold maxLen; omega
        case c4 => rw [HZ.out]; omega
        intro v' w2 hown2 hgrow _
        go_wp2_with fail
        go_roundw
        case rel =>
          refine ⟨f', pos + d, l ++ U.piece s pos, by go_num, by omega, by rw [List.length_append]; omega, ?_, Lib.hid ⟨?_, ?_⟩, hbl1.grown hgrow hbl1.size (fun k hk => (hown1.lt k hk).1)⟩
          · have h1 : (U.piece s pos).length = d := by rw [HP.out]; unfold U.stretch; rw [List.length_map, List.length_range]
            rw [List.length_append, h1, ← U.cellsOf_append, HP.out, ← HC.out]
            exact hown2
          · rw [List.append_assoc, ← HS.out]; exact HU.out.1
          · have := HU.out.2; omega
        case measure => simp [RowKit.intOf]; omega
      · have hc := fun W => refNext_bad s pos W hlt hs hbad
        have HP := Lib.hid (U.piece_bad hbad)
        have HW := Lib.hid (U.bad_wd hbad)
        clear hbad
        go_wp2_with fail
        refine (hc _).mono ?_
        rintro e w1 ⟨rfl, hb⟩
        have hown1 := own8_below hown hb
        have hbl1 := hbl.trans (hb.mono hbl.size)
        clear hown hb hbl hc
        go_wp2_with (at_builtin; refine wpList_append_own _ rfl _ _ 81 rfl w.heap.size 5 i0 (.int .u8 0) 1 1 Tryz.underlying81 hi hz0 hz1 hz2 rfl (by decide) _ l.length (U.cellsOf l) rfl (hown1.alloc _) ⟨w1.heap.size, 0, none⟩ 3 3 [.int .u8 239, .int .u8 191, .int .u8 189] rfl rfl ?c1 ?c2 ?c3 ?c4 ?c5 ?_)
        case c1 =>
          intro j u hj
          match j, hj with
          | 0, hj => simp at hj; subst hj; simp [Addr.add]
          | 1, hj => simp at hj; subst hj; simp [Addr.add]
          | 2, hj => simp at hj; subst hj; simp [Addr.add]
          | (j + 3), hj => simp at hj
        case c2 => intro u hu; simp at hu; rcases hu with rfl | rfl | rfl <;> rfl
        case c3 => unfold maxLen; omega
        case c4 => omega
        case c5 => have := hbl1.size; simp; omega
        intro v' w2 hown2 hgrow _
        go_wp2_with fail
        go_roundw
        case rel =>
          refine ⟨f', pos + 1, l ++ U.piece s pos, by go_num, by omega, by rw [List.length_append, HP.out]; simp; omega, ?_, Lib.hid ⟨?_, ?_⟩, (hbl1.alloc hbl1.size _).grown hgrow (hbl1.alloc hbl1.size _).size (fun k hk => (hown1.lt k hk).1)⟩
          · rw [List.length_append, ← U.cellsOf_append, HP.out]
            exact hown2
          · rw [List.append_assoc, ← HW.out, ← HS.out]; exact HU.out.1
          · have := HU.out.2; omega
        case measure => simp [RowKit.intOf]; omega
    · have hconv := conv_own hown
      have HE := Lib.hid (U.fixFrom_end s f pos hlt)
      clear hown
      go_wp2_with fail
      go_ret
      refine ⟨?_, hbl⟩
      have := HU.out.1
      rw [HE.out, List.append_nil] at this
      unfold U.fixS
      rw [← this]
      rfl
end YtoolkaahjmnjeaaGreatDoor
end Go.Proofs
