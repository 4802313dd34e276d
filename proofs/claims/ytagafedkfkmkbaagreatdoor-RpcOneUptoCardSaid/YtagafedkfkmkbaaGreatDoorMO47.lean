/- The chapter's examples hold: awake of layer 6's statements answers true, whole. Conditions: the library's tables as its text lays them; strconv.ErrRange holds an error. -/
import Derived.Test.YtagafedkfkmkbaaGreatDoorMO45
import Derived.Test.YtagafedkfkmkbaaGreatDoorMO46
import Derived.Test.YtagafedkfkmkbaaGreatDoorMO27
namespace Go.Proofs.YtagafedkfkmkbaaGreatDoor
open Go Go.RowKit Go.Shelf Go.Lib

theorem r5_eq {d : Fd} {k : Nat} {x : ByteArray} {l f : V.T} {b : Bool} (h : d.r = (k, x, l, f, b)) : d.k = k ∧ d.x = x ∧ d.l = l ∧ d.f = f ∧ d.b = b := by
  cases h
  exact ⟨rfl, rfl, rfl, rfl, rfl⟩
theorem fd_len {d : Fd} {A : Nat → Prop} {w : World} (h : d.Ok A w) : d.n = d.l.len ∧ d.m = d.f.len := by
  obtain ⟨p, c, e, -⟩ := h.l.len
  obtain ⟨q, d', e', -⟩ := h.f.len
  injection e with _ e1 _
  injection e' with _ e2 _
  exact ⟨e1, e2⟩
theorem k1 : (sixOf 6 rt1).kind = 1 := by decide +kernel
theorem k2 : (sixOf 6 rt2).kind = 2 := by decide +kernel
theorem k3 : (sixOf 6 rt3).kind = 3 := by decide +kernel
theorem f1 : (sixOf 6 rt1).callF = ⟨#[97]⟩ := by
  unfold Six.callF
  rw [k1, if_neg (by decide), show (sixOf 6 rt1).m.2.1 = ⟨#[97]⟩ by kernel_rfl, fix_a]
theorem f2 : (sixOf 6 rt2).callF = ⟨#[97]⟩ := by
  unfold Six.callF
  rw [k2, if_neg (by decide), show (sixOf 6 rt2).m.2.1 = ⟨#[97]⟩ by kernel_rfl, fix_a]
theorem f3 : (sixOf 6 rt3).callF = ⟨#[]⟩ := by
  unfold Six.callF
  rw [k3, if_pos rfl]
theorem p1 : (sixOf 6 rt1).callP = (5, ⟨#[]⟩, .cons ⟨#[]⟩ 3 ⟨#[50]⟩ .nil .nil .nil, .nil, true) := by
  unfold Six.callP
  rw [k1, if_neg (by decide), if_neg (by decide +kernel)]
  kernel_rfl
theorem p2 : (sixOf 6 rt2).callP = r0 := by
  unfold Six.callP
  rw [k2, if_neg (by decide), if_pos (by decide +kernel)]
theorem i1 : (sixOf 6 rt1).i = (3, ⟨#[49]⟩, .nil, .nil, true) := by kernel_rfl
theorem zm (n : Nat) (s : ByteArray) (h : U.fixS s = s) (hs : s.size ≤ 100) : s.size ≤ 1000000000000 ∧ (U.fixS s).size ≤ 140737488355328 := ⟨by omega, by rw [h]; omega⟩
theorem m1 : (sixOf 6 rt1).m.2.1 = ⟨#[97]⟩ := by kernel_rfl
theorem m2 : (sixOf 6 rt2).m.2.1 = ⟨#[97]⟩ := by kernel_rfl
theorem m3 : (sixOf 6 rt3).m.2.1 = ⟨#[]⟩ := by kernel_rfl
theorem m4 : (sixOf 6 rt4).m.2.1 = ⟨#[97]⟩ := by kernel_rfl
theorem x1 : (sixOf 6 rt1).i.2.1.size ≤ 140737488355328 := by decide +kernel
theorem x2 : (sixOf 6 rt2).i.2.1.size ≤ 140737488355328 := by decide +kernel
theorem x3 : (sixOf 6 rt3).i.2.1.size ≤ 140737488355328 := by decide +kernel
theorem x4 : (sixOf 6 rt4).i.2.1.size ≤ 140737488355328 := by decide +kernel
theorem rd1 (w : World) (hT : Tabs w) (hE : ErrC w) : Calls Tryz.prog 78 #[.string ⟨#[123, 34, 106, 115, 111, 110, 114, 112, 99, 34, 58, 34, 50, 46, 48, 34, 44, 34, 105, 100, 34, 58, 49, 44, 34, 109, 101, 116, 104, 111, 100, 34, 58, 34, 97, 34, 44, 34, 112, 97, 114, 97, 109, 115, 34, 58, 91, 50, 93, 125]⟩] w (fun e w' => ∃ (a1 : Nat) (a2 : Option Addr) (a3 a4 : Nat) (a5 : Option Addr) (a6 a7 a8 : Nat) (a9 : ByteArray) (a10 : Option Addr) (a11 : Nat) (a12 : Option Addr) (a13 a14 : Nat), e = .returned (.tuple #[.agg #[.int .u8 1, .int .u8 a1, .string ⟨#[49]⟩, .slice a2 a3 a4, .slice a5 a6 a7, .string ⟨#[97]⟩, .int .u8 a8, .string a9, .slice a10 1 a11, .slice a12 a13 a14], .int .i64 0]) ∧ Below w.heap.size w w') := by
  have h := read6_any rx1 rt1 w rp1 (by decide) x1 (by rw [m1]; decide) (by rw [m1, fix_a]; decide) hT hE
  rw [rs1, k1, f1, p1, i1] at h
  refine h.mono fun e w' he => ?_
  obtain ⟨di, dp, rfl, hdi, hdp, oi, op, hB⟩ := readIs_yes.1 he
  have e1 := r5_eq hdi
  have e2 := r5_eq hdp
  exact ⟨di.k, di.p, di.n, di.c, di.q, di.m, di.e, dp.k, dp.x, dp.p, dp.c, dp.q, dp.m, dp.e, by rw [e1.2.1, show dp.n = 1 by rw [(fd_len op).1, e2.2.2.1]; rfl]; rfl, hB⟩
theorem rd2 (w : World) (hT : Tabs w) (hE : ErrC w) : Calls Tryz.prog 78 #[.string ⟨#[123, 34, 109, 101, 116, 104, 111, 100, 34, 58, 34, 97, 34, 44, 34, 106, 115, 111, 110, 114, 112, 99, 34, 58, 34, 50, 46, 48, 34, 44, 34, 112, 97, 114, 97, 109, 115, 34, 58, 110, 117, 108, 108, 44, 34, 120, 34, 58, 49, 125]⟩] w (fun e w' => ∃ (a1 : Nat) (a0 : ByteArray) (a2 : Option Addr) (a3 a4 : Nat) (a5 : Option Addr) (a6 a7 : Nat) (a9 : ByteArray) (a10 : Option Addr) (a8 a11 : Nat) (a12 : Option Addr) (a13 a14 : Nat), e = .returned (.tuple #[.agg #[.int .u8 2, .int .u8 a1, .string a0, .slice a2 a3 a4, .slice a5 a6 a7, .string ⟨#[97]⟩, .int .u8 0, .string a9, .slice a10 a8 a11, .slice a12 a13 a14], .int .i64 0]) ∧ Below w.heap.size w w') := by
  have h := read6_any rx2 rt2 w rp2 (by decide) x2 (by rw [m2]; decide) (by rw [m2, fix_a]; decide) hT hE
  rw [rs2, k2, f2, p2] at h
  refine h.mono fun e w' he => ?_
  obtain ⟨di, dp, rfl, hdi, hdp, oi, op, hB⟩ := readIs_yes.1 he
  have e2 := r5_eq hdp
  exact ⟨di.k, di.x, di.p, di.n, di.c, di.q, di.m, di.e, dp.x, dp.p, dp.n, dp.c, dp.q, dp.m, dp.e, by rw [e2.1]; rfl, hB⟩
theorem rd3 (w : World) (hT : Tabs w) (hE : ErrC w) : Calls Tryz.prog 78 #[.string ⟨#[123, 34, 106, 115, 111, 110, 114, 112, 99, 34, 58, 34, 50, 46, 48, 34, 44, 34, 105, 100, 34, 58, 110, 117, 108, 108, 44, 34, 101, 114, 114, 111, 114, 34, 58, 123, 125, 125]⟩] w (fun e w' => ∃ (a1 : Nat) (a0 : ByteArray) (a2 : Option Addr) (a3 a4 : Nat) (a5 : Option Addr) (a6 a7 : Nat) (b1 : Nat) (a9 : ByteArray) (a10 : Option Addr) (a8 a11 : Nat) (a12 : Option Addr) (a13 a14 : Nat), e = .returned (.tuple #[.agg #[.int .u8 3, .int .u8 a1, .string a0, .slice a2 a3 a4, .slice a5 a6 a7, .string ⟨#[]⟩, .int .u8 b1, .string a9, .slice a10 a8 a11, .slice a12 a13 a14], .int .i64 0]) ∧ Below w.heap.size w w') := by
  have h := read6_any rx3 rt3 w rp3 (by decide) x3 (by rw [m3]; decide) (by rw [m3, fix_e]; decide) hT hE
  rw [rs3, k3, f3] at h
  refine h.mono fun e w' he => ?_
  obtain ⟨di, dp, rfl, hdi, hdp, oi, op, hB⟩ := readIs_yes.1 he
  exact ⟨di.k, di.x, di.p, di.n, di.c, di.q, di.m, di.e, dp.k, dp.x, dp.p, dp.n, dp.c, dp.q, dp.m, dp.e, rfl, hB⟩
theorem rd4 (w : World) (hT : Tabs w) (hE : ErrC w) : Calls Tryz.prog 78 #[.string ⟨#[123, 34, 106, 115, 111, 110, 114, 112, 99, 34, 58, 34, 49, 46, 48, 34, 44, 34, 109, 101, 116, 104, 111, 100, 34, 58, 34, 97, 34, 125]⟩] w (fun e w' => e = .returned (.tuple #[.agg #[.int .u8 0, .int .u8 0, .string ⟨#[]⟩, .slice none 0 0, .slice none 0 0, .string ⟨#[]⟩, .int .u8 0, .string ⟨#[]⟩, .slice none 0 0, .slice none 0 0], .int .i64 60]) ∧ Below w.heap.size w w') := by
  have h := read6_any rx4 rt4 w rp4 (by decide) x4 (by rw [m4]; decide) (by rw [m4, fix_a]; decide) hT hE
  rw [rs4] at h
  exact h.mono fun e w' he => readIs_no.1 he
theorem row_on {W W' : World} {b : Nat} {cs : Array Value} {t : TypeId} (h : W.heap[b]? = some (.cells cs t (0, 0))) (hB : Below W.heap.size W W') : W'.heap[b]? = some (.cells cs t (0, 0)) := (hB.block b (Array.getElem?_eq_some_iff.1 h).1).trans h
theorem num_one : Lib.itoa 1 = [49] := by decide +kernel
set_option maxHeartbeats 2000000 in
set_option maxRecDepth 100000 in
theorem awake6_any (w : World) (hT : Tabs w) (hP : PowTab w) (hE : ErrC w) : Calls Tryz.prog 21 #[] w (Bools true w) := by
  have H1 := Lib.hid (fun W (h : Below w.heap.size w W) => rd1 W (tabs_below hT h) (hE.on h))
  have H2 := Lib.hid (fun W (h : Below w.heap.size w W) => rd2 W (tabs_below hT h) (hE.on h))
  have H3 := Lib.hid (fun W (h : Below w.heap.size w W) => rd3 W (tabs_below hT h) (hE.on h))
  have H4 := Lib.hid (fun W (h : Below w.heap.size w W) => rd4 W (tabs_below hT h) (hE.on h))
  have hnum := fun W (h : Below w.heap.size w W) => numberJ_any 1 (by decide) (by decide) W (fun w' hB => pow_on hP (h.trans (hB.mono h.size)))
  rw [num_one] at hnum
  unfold NumIs at hnum
  have HN := Lib.hid hnum
  have hfail := fun W (h : Below w.heap.size w W) => fail_any 3 ⟨#[49]⟩ (.slice none 0 0) (.slice none 0 0) .nil .nil (fun _ => True) (-32601) ⟨#[110, 111]⟩ W ⟨by decide, by decide, by decide⟩ (HS.nil _ _ _) (HS.nil _ _ _) (by decide) (by decide) (pow_on hP h) (tabs_below hT h)
  rw [fix_no] at hfail
  have HF := Lib.hid hfail
  have hprint := fun W (h : Below w.heap.size w W) (v u : Value) (hl : HS W (fun _ => True) 0 v .nil) (hf : HS W (fun _ => True) 1 u (failT 3 ⟨#[49]⟩ .nil .nil (-32601) ⟨#[110, 111]⟩)) => print_any 6 ⟨#[]⟩ v u .nil (failT 3 ⟨#[49]⟩ .nil .nil (-32601) ⟨#[110, 111]⟩) (fun _ => True) W (gv_of hl hf (by decide) (.inr ⟨by decide +kernel, by decide +kernel⟩)) (tabs_below hT h)
  rw [rpL] at hprint
  have HPR := Lib.hid hprint
  clear hT hP hE hnum hfail hprint
  go_enter Tryz.func21, Tryz.ntmps21
  go_wp2_with fail
  refine (H1.out _ (Below.refl _ _)).mono ?_
  rintro e w1 ⟨a1x, a2x, a3x, a4x, a5x, a6x, a7x, a8x, a9x, a10x, a11x, a12x, a13x, a14x, rfl, hB1⟩
  have hBa := (Below.refl w1.heap.size w1).alloc (Nat.le_refl _) (.cells #[.int .u8 1, .int .u8 a1x, .string ⟨#[49]⟩, .slice a2x a3x a4x, .slice a5x a6x a7x, .string ⟨#[97]⟩, .int .u8 a8x, .string a9x, .slice a10x 1 a11x, .slice a12x a13x a14x] 39)
  have hrow1 : (w1.alloc (.cells #[.int .u8 1, .int .u8 a1x, .string ⟨#[49]⟩, .slice a2x a3x a4x, .slice a5x a6x a7x, .string ⟨#[97]⟩, .int .u8 a8x, .string a9x, .slice a10x 1 a11x, .slice a12x a13x a14x] 39)).heap[w1.heap.size]? = some (.cells #[.int .u8 1, .int .u8 a1x, .string ⟨#[49]⟩, .slice a2x a3x a4x, .slice a5x a6x a7x, .string ⟨#[97]⟩, .int .u8 a8x, .string a9x, .slice a10x 1 a11x, .slice a12x a13x a14x] 39 (0, 0)) := heap_alloc_new _ _
  have G1 := Lib.hid (And.intro (hB1.trans (hBa.mono hB1.size)) hrow1)
  clear hB1 hBa hrow1
  go_wp2_with fail
  generalize w1.alloc (.cells #[.int .u8 1, .int .u8 a1x, .string ⟨#[49]⟩, .slice a2x a3x a4x, .slice a5x a6x a7x, .string ⟨#[97]⟩, .int .u8 a8x, .string a9x, .slice a10x 1 a11x, .slice a12x a13x a14x] 39) = W1 at *
  generalize w1.heap.size = n1 at *
  refine (H2.out _ G1.out.1).mono ?_
  rintro e w2 ⟨a1y, a0y, a2y, a3y, a4y, a5y, a6y, a7y, a9y, a10y, a8y, a11y, a12y, a13y, a14y, rfl, hB2⟩
  have hBa := (Below.refl w2.heap.size w2).alloc (Nat.le_refl _) (.cells #[.int .u8 2, .int .u8 a1y, .string a0y, .slice a2y a3y a4y, .slice a5y a6y a7y, .string ⟨#[97]⟩, .int .u8 0, .string a9y, .slice a10y a8y a11y, .slice a12y a13y a14y] 39)
  have hrow : (w2.alloc (.cells #[.int .u8 2, .int .u8 a1y, .string a0y, .slice a2y a3y a4y, .slice a5y a6y a7y, .string ⟨#[97]⟩, .int .u8 0, .string a9y, .slice a10y a8y a11y, .slice a12y a13y a14y] 39)).heap[w2.heap.size]? = some (.cells #[.int .u8 2, .int .u8 a1y, .string a0y, .slice a2y a3y a4y, .slice a5y a6y a7y, .string ⟨#[97]⟩, .int .u8 0, .string a9y, .slice a10y a8y a11y, .slice a12y a13y a14y] 39 (0, 0)) := heap_alloc_new _ _
  have hBB := hB2.trans (hBa.mono hB2.size)
  have G2 := Lib.hid (And.intro (G1.out.1.trans (hBB.mono G1.out.1.size)) hrow)
  have G1 := Lib.hid (And.intro True.intro (row_on G1.out.2 hBB))
  clear hB2 hBa hrow hBB
  go_wp2_with fail
  generalize w2.alloc (.cells #[.int .u8 2, .int .u8 a1y, .string a0y, .slice a2y a3y a4y, .slice a5y a6y a7y, .string ⟨#[97]⟩, .int .u8 0, .string a9y, .slice a10y a8y a11y, .slice a12y a13y a14y] 39) = W2 at *
  generalize w2.heap.size = n2 at *
  refine (H3.out _ G2.out.1).mono ?_
  rintro e w3 ⟨a1z, a0z, a2z, a3z, a4z, a5z, a6z, a7z, b1z, a9z, a10z, a8z, a11z, a12z, a13z, a14z, rfl, hB3⟩
  have hBa := (Below.refl w3.heap.size w3).alloc (Nat.le_refl _) (.cells #[.int .u8 3, .int .u8 a1z, .string a0z, .slice a2z a3z a4z, .slice a5z a6z a7z, .string ⟨#[]⟩, .int .u8 b1z, .string a9z, .slice a10z a8z a11z, .slice a12z a13z a14z] 39)
  have hrow : (w3.alloc (.cells #[.int .u8 3, .int .u8 a1z, .string a0z, .slice a2z a3z a4z, .slice a5z a6z a7z, .string ⟨#[]⟩, .int .u8 b1z, .string a9z, .slice a10z a8z a11z, .slice a12z a13z a14z] 39)).heap[w3.heap.size]? = some (.cells #[.int .u8 3, .int .u8 a1z, .string a0z, .slice a2z a3z a4z, .slice a5z a6z a7z, .string ⟨#[]⟩, .int .u8 b1z, .string a9z, .slice a10z a8z a11z, .slice a12z a13z a14z] 39 (0, 0)) := heap_alloc_new _ _
  have hBB := hB3.trans (hBa.mono hB3.size)
  have G3 := Lib.hid (And.intro (G2.out.1.trans (hBB.mono G2.out.1.size)) hrow)
  have G1 := Lib.hid (And.intro True.intro (row_on G1.out.2 hBB))
  have G2 := Lib.hid (And.intro True.intro (row_on G2.out.2 hBB))
  clear hB3 hBa hrow hBB
  go_wp2_with fail
  generalize w3.alloc (.cells #[.int .u8 3, .int .u8 a1z, .string a0z, .slice a2z a3z a4z, .slice a5z a6z a7z, .string ⟨#[]⟩, .int .u8 b1z, .string a9z, .slice a10z a8z a11z, .slice a12z a13z a14z] 39) = W3 at *
  generalize w3.heap.size = n3 at *
  refine (H4.out _ G3.out.1).mono ?_
  rintro e w4 ⟨rfl, hB4⟩
  have hBa := (Below.refl w4.heap.size w4).alloc (Nat.le_refl _) (.cells #[.int .u8 0, .int .u8 0, .string ⟨#[]⟩, .slice none 0 0, .slice none 0 0, .string ⟨#[]⟩, .int .u8 0, .string ⟨#[]⟩, .slice none 0 0, .slice none 0 0] 39)
  have hBB := hB4.trans (hBa.mono hB4.size)
  have G4 := Lib.hid (And.intro (G3.out.1.trans (hBB.mono G3.out.1.size)) (And.intro (row_on G1.out.2 hBB) (And.intro (row_on G2.out.2 hBB) (row_on G3.out.2 hBB))))
  clear hB4 hBa hBB G1 G2 G3
  go_wp2_with fail
  generalize w4.alloc (.cells #[.int .u8 0, .int .u8 0, .string ⟨#[]⟩, .slice none 0 0, .slice none 0 0, .string ⟨#[]⟩, .int .u8 0, .string ⟨#[]⟩, .slice none 0 0, .slice none 0 0] 39) = W4 at *
  generalize w4.heap.size = n4 at *
  refine (HN.out _ G4.out.1).mono ?_
  rintro e w5 ⟨rfl, hB5⟩
  have G5 := Lib.hid (And.intro (G4.out.1.trans (hB5.mono G4.out.1.size)) (And.intro (row_on G4.out.2.1 hB5) (And.intro (row_on G4.out.2.2.1 hB5) (row_on G4.out.2.2.2 hB5))))
  clear hB5 G4
  go_wp2_with fail
  refine (HF.out _ G5.out.1).mono ?_
  rintro e w6 ⟨v6, u6, rfl, hl6, hf6, hB6⟩
  have G6 := Lib.hid (And.intro (G5.out.1.trans (hB6.mono G5.out.1.size)) (And.intro (row_on G5.out.2.1 hB6) (And.intro (row_on G5.out.2.2.1 hB6) (row_on G5.out.2.2.2 hB6))))
  clear hB6 G5
  have HC := Lib.hid (HPR.out w6 G6.out.1 v6 u6 (hl6.mono (fun _ _ _ => trivial)) (hf6.mono (fun _ _ _ => trivial)))
  obtain ⟨pp, cc, rfl, -⟩ := hl6.len
  obtain ⟨qq, dd, rfl, -⟩ := hf6.len
  clear hl6 hf6
  go_wp2_with fail
  refine HC.out.mono ?_
  rintro e w7 ⟨rfl, hB7⟩
  have G7 := Lib.hid (And.intro (G6.out.1.trans (hB7.mono G6.out.1.size)) (And.intro (row_on G6.out.2.1 hB7) (And.intro (row_on G6.out.2.2.1 hB7) (row_on G6.out.2.2.2 hB7))))
  clear hB7 G6 HC
  have c0 := (cell_of_row w7 n1 0 _ _ (0, 0) G7.out.2.1).trans rfl
  have c2 := (cell_of_row w7 n1 2 _ _ (0, 0) G7.out.2.1).trans rfl
  have c5 := (cell_of_row w7 n1 5 _ _ (0, 0) G7.out.2.1).trans rfl
  have c8 := (cell_of_row w7 n1 8 _ _ (0, 0) G7.out.2.1).trans rfl
  have d0 := (cell_of_row w7 n2 0 _ _ (0, 0) G7.out.2.2.1).trans rfl
  have d6 := (cell_of_row w7 n2 6 _ _ (0, 0) G7.out.2.2.1).trans rfl
  have e0 := (cell_of_row w7 n3 0 _ _ (0, 0) G7.out.2.2.2).trans rfl
  unfold rxL
  go_wp2_with fail
  go_ret
  exact ⟨rfl, G7.out.1⟩
end Go.Proofs.YtagafedkfkmkbaaGreatDoor

namespace Go.Proofs.YtagafedkfkmkbaaGreatDoor
open Go Go.RowKit Go.Lib

/-- two values, one behind the other -/
structure Two8 (b k : Nat) (x : ByteArray) (v u : Value) (k2 : Nat) (x2 : ByteArray) (v2 u2 : Value) (W : World) : Prop where
  lt : b < W.heap.size
  c : W.cell? ⟨b, 0, none⟩ = some (.int .u8 k) ∧ W.cell? ⟨b, 1, none⟩ = some (.string x) ∧ W.cell? ⟨b, 2, none⟩ = some v ∧ W.cell? ⟨b, 3, none⟩ = some u
  d : W.cell? ⟨b, 4, none⟩ = some (.int .u8 k2) ∧ W.cell? ⟨b, 5, none⟩ = some (.string x2) ∧ W.cell? ⟨b, 6, none⟩ = some v2 ∧ W.cell? ⟨b, 7, none⟩ = some u2
theorem Two8.on {b k : Nat} {x : ByteArray} {v u : Value} {k2 : Nat} {x2 : ByteArray} {v2 u2 : Value} {W W' : World} (h : Two8 b k x v u k2 x2 v2 u2 W) (hB : Below W.heap.size W W') : Two8 b k x v u k2 x2 v2 u2 W' := by
  have hc : ∀ j y, W.cell? ⟨b, j, none⟩ = some y → W'.cell? ⟨b, j, none⟩ = some y := fun j y hy => (hB.cell (p := ⟨b, j, none⟩) h.lt).trans hy
  obtain ⟨h1, ⟨c0, c1, c2, c3⟩, d0, d1, d2, d3⟩ := h
  exact ⟨Nat.lt_of_lt_of_le h1 hB.size, ⟨hc _ _ c0, hc _ _ c1, hc _ _ c2, hc _ _ c3⟩, hc _ _ d0, hc _ _ d1, hc _ _ d2, hc _ _ d3⟩
def GreatIs (n1 n2 : Nat) (w : World) (e : Ending) (w' : World) : Prop := ∃ r : Bool, e = .returned (.bool r) ∧ (r = false → n1 + 1 ≤ 1000 ∧ n2 + 1 ≤ 1000) ∧ Below w.heap.size w w'

set_option maxHeartbeats 1000000 in
set_option maxRecDepth 100000 in
theorem great6_any (b c k : Nat) (x : ByteArray) (v u : Value) (l f : V.T) (k2 : Nat) (x2 : ByteArray) (v2 u2 : Value) (l2 f2 : V.T) (A A2 : Nat → Prop) (w : World) (hc : 2 ≤ c ∧ c ≤ 9223372036854775807) (h8 : Two8 b k x v u k2 x2 v2 u2 w) (hl : HS w A 0 v l) (hf : HS w A 1 u f) (hl2 : HS w A2 0 v2 l2) (hf2 : HS w A2 1 u2 f2) :
    Calls Tryz.prog 22 #[.slice (some ⟨b, 0, none⟩) 2 c] w (GreatIs (l.size + f.size) (l2.size + f2.size) w) := by
  have HS1 := Lib.hid (fun W (h : Below w.heap.size w W) => smallG_any k x v u l f A 1000 120 W (by decide) (by decide) (hl.below h) (hf.below h))
  have HS2 := Lib.hid (fun W (h : Below w.heap.size w W) => smallG_any k2 x2 v2 u2 l2 f2 A2 1000 120 W (by decide) (by decide) (hl2.below h) (hf2.below h))
  obtain ⟨p, e1, rfl, -⟩ := hl.len
  obtain ⟨q, e2, rfl, -⟩ := hf.len
  obtain ⟨p', e3, rfl, -⟩ := hl2.len
  obtain ⟨q', e4, rfl, -⟩ := hf2.len
  have H0 := Lib.hid h8
  clear h8
  go_enter Tryz.func22, Tryz.ntmps22
  go_wp2_with fail
  go_loopw [3] (fun y wr => ∃ i : Nat, y = .int .i64 i ∧ i ≤ 2 ∧ Hid (Below w.heap.size w wr ∧ Two8 b k x (.slice p l.len e1) (.slice q f.len e2) k2 x2 (.slice p' l2.len e3) (.slice q' f2.len e4) wr ∧ (1 ≤ i → l.size + f.size + 1 ≤ 1000) ∧ (2 ≤ i → l2.size + f2.size + 1 ≤ 1000))) (fun y _ => 2 - (RowKit.intOf y).toNat)
  case atStart => exact ⟨0, rfl, by decide, Lib.hid ⟨Below.refl _ _, H0.out, fun h => by omega, fun h => by omega⟩⟩
  case round =>
    obtain ⟨i, rfl, hi, HR⟩ := hrel
    obtain rfl | rfl | rfl : i = 0 ∨ i = 1 ∨ i = 2 := by omega
    · obtain ⟨g0, g1, g2, g3⟩ := HR.out.2.1.c
      have HQ := Lib.hid HR.out
      clear HR
      go_wp2_with fail
      refine (HS1.out _ HQ.out.1).mono ?_
      rintro e w1 ⟨ok, rfl, hok, hB1⟩
      have H1 := Lib.hid (And.intro (HQ.out.1.trans (hB1.mono HQ.out.1.size)) (HQ.out.2.1.on hB1))
      have HO := Lib.hid hok
      clear hB1 hok g0 g1 g2 g3
      cases ok
      case false =>
        go_wp2_with fail
        go_ret
        exact ⟨true, rfl, (fun h => by cases h), H1.out.1⟩
      case true =>
        go_wp2_with fail
        go_roundw
        case rel => exact ⟨1, rfl, by decide, Lib.hid ⟨H1.out.1, H1.out.2, (fun _ => HO.out (by simp)), (fun h => by omega)⟩⟩
        case measure => simp [RowKit.intOf]
    · obtain ⟨g0, g1, g2, g3⟩ := HR.out.2.1.d
      have HQ := Lib.hid HR.out
      clear HR
      go_wp2_with fail
      refine (HS2.out _ HQ.out.1).mono ?_
      rintro e w1 ⟨ok, rfl, hok, hB1⟩
      have H1 := Lib.hid (And.intro (HQ.out.1.trans (hB1.mono HQ.out.1.size)) (HQ.out.2.1.on hB1))
      have HO := Lib.hid hok
      clear hB1 hok g0 g1 g2 g3
      cases ok
      case false =>
        go_wp2_with fail
        go_ret
        exact ⟨true, rfl, (fun h => by cases h), H1.out.1⟩
      case true =>
        go_wp2_with fail
        go_roundw
        case rel => exact ⟨2, rfl, by decide, Lib.hid ⟨H1.out.1, H1.out.2, (fun _ => HQ.out.2.2.1 (by decide)), (fun _ => HO.out (by simp))⟩⟩
        case measure => simp [RowKit.intOf]
    · have HQ := Lib.hid HR.out
      clear HR
      go_wp2_with fail
      go_ret
      exact ⟨false, rfl, fun _ => ⟨HQ.out.2.2.1 (by decide), HQ.out.2.2.2 (by decide)⟩, HQ.out.1⟩
end Go.Proofs.YtagafedkfkmkbaaGreatDoor
