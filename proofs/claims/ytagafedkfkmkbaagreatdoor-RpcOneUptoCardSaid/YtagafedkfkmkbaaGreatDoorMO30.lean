/- The program makes an error's reply. Conditions: such as Go can hold; a text of at most 10000 bytes. -/
import Derived.Test.YtagafedkfkmkbaaGreatDoorMO29
import Derived.Lib.ItoaMem
import Derived.Lib.ItoaLen
import Derived.Test.YtagafedkfkmkbaaGreatDoorMO28
namespace Go.Proofs.YtagafedkfkmkbaaGreatDoor
open Go Go.RowKit Go.Lib

def numT (n : Int) : ByteArray := ⟨(Lib.itoa n).toArray⟩
def codeF (n : Int) : Fe := ⟨⟨#[99, 111, 100, 101]⟩, 3, numT n, .slice none 0 0, .slice none 0 0, .nil, .nil⟩
def msgF (F : ByteArray) : Fe := ⟨⟨#[109, 101, 115, 115, 97, 103, 101]⟩, 4, F, .slice none 0 0, .slice none 0 0, .nil, .nil⟩
def idF (k : Nat) (x : ByteArray) (v u : Value) (l f : V.T) : Fe := ⟨⟨#[105, 100]⟩, k, x, v, u, l, f⟩
def errF (v : Value) (n : Int) (F : ByteArray) : Fe := ⟨⟨#[101, 114, 114, 111, 114]⟩, 6, ⟨#[]⟩, .slice none 0 0, v, .nil, treeOf [codeF n, msgF F]⟩
/-- the fields of an error's reply -/
def failT (k : Nat) (x : ByteArray) (l f : V.T) (n : Int) (F : ByteArray) : V.T := treeOf [verF, idF k x (.slice none 0 0) (.slice none 0 0) l f, errF (.slice none 0 0) n F]
theorem num_fit (n : Int) (h0 : -9223372036854775808 ≤ n) (h1 : n ≤ 9223372036854775807) (nm : ByteArray) (h : nm.size ≤ 140737488355328) : Fit nm 3 (numT n) := by
  refine ⟨by decide, ?_, h⟩
  have := Lib.itoa_length_le n h0 h1
  show (Lib.itoa n).toArray.size ≤ _
  rw [List.size_toArray]
  omega
theorem pow_on {w w' : World} (h : PowTab w) (hb : Below w.heap.size w w') : PowTab w' := Lib.tabBelow_of_tabIs h w' hb

structure FaSt (w : World) (k : Nat) (x : ByteArray) (v u : Value) (l f : V.T) (W : World) : Prop where
  below : Below w.heap.size w W
  size : w.heap.size + 2 ≤ W.heap.size
  b0 : Blk4 W w.heap.size 25 (.int .u8 k) (.string x) v u
  b1 : Blk4 W (w.heap.size + 1) 25 (.int .u8 0) (.string ⟨#[]⟩) (.slice none 0 0) (.slice none 0 0)
  l : HS W (fun _ => True) 0 v l
  f : HS W (fun _ => True) 1 u f
theorem FaSt.on {w : World} {k : Nat} {x : ByteArray} {v u : Value} {l f : V.T} {W W' : World} (h : FaSt w k x v u l f W) (hB : Below W.heap.size W W') : FaSt w k x v u l f W' :=
  ⟨h.below.trans (hB.mono h.below.size), Nat.le_trans h.size hB.size, h.b0.same (hB.block _ h.b0.lt), h.b1.same (hB.block _ h.b1.lt), h.l.below hB, h.f.below hB⟩

set_option maxHeartbeats 2000000 in
set_option maxRecDepth 100000 in
theorem fail_any (k : Nat) (x : ByteArray) (v u : Value) (l f : V.T) (A : Nat → Prop) (n : Int) (s : ByteArray) (w : World) (hk : Fit ⟨#[]⟩ k x) (hl : HS w A 0 v l) (hf : HS w A 1 u f)
    (hn : -9223372036854775808 ≤ n ∧ n ≤ 9223372036854775807) (hs : s.size ≤ 10000) (hP : PowTab w) (hT : Tabs w) :
    Calls Tryz.prog 79 #[.agg #[.int .u8 k, .string x, v, u], .int .i64 n, .string s] w (Own4G 6 ⟨#[]⟩ .nil (failT k x l f n (U.fixS s)) w) := by
  obtain ⟨p, c, rfl, -⟩ := hl.len
  obtain ⟨q, d, rfl, -⟩ := hf.len
  have hz : (U.fixS s).size ≤ 30000 := by have := U.fix_size s; omega
  have HO := Lib.hid (fun W p n c => object_any p n c W)
  have hnu : ∀ W, FaSt w k x (.slice p l.len c) (.slice q f.len d) l f W → Calls Tryz.prog 80 #[.int .i64 n] W (fun e w' => e = .returned (.agg #[.int .u8 3, .string (numT n), .slice none 0 0, .slice none 0 0]) ∧ Below W.heap.size W w') := fun W h => numberJ_any n hn.1 hn.2 W (fun w' hb => pow_on (pow_on hP h.below) hb)
  have HN := Lib.hid hnu
  have HT := Lib.hid (fun W (h : FaSt w k x (.slice p l.len c) (.slice q f.len d) l f W) => text4_any s W (by omega) (by omega) (tabs_below hT h.below))
  have HM := Lib.hid (fun W p c es (h : es.length = 2) (hb : Below w.heap.size w W) (hL : Lies W (.slice p 2 c) es) (ho : ∀ e ∈ es, e.Ok W (fun _ => True)) => made_any p 2 c es (fun _ => True) W h.symm (by omega) hL ho (tabs_below hT hb))
  have H0 := Lib.hid (show FaSt w k x (.slice p l.len c) (.slice q f.len d) l f ((w.alloc (.cells #[.int .u8 k, .string x, .slice p l.len c, .slice q f.len d] 25)).alloc (.cells #[.int .u8 0, .string ⟨#[]⟩, .slice none 0 0, .slice none 0 0] 25)) from
    ⟨two_below _ _ _, by rw [two_size]; omega, (two_new _ _ _).1, (two_new _ _ _).2, (hl.mono (fun _ _ _ => trivial)).below (two_below _ _ _), (hf.mono (fun _ _ _ => trivial)).below (two_below _ _ _)⟩)
  have HK := Lib.hid hk
  have HC := Lib.hid (num_fit n hn.1 hn.2)
  have HZ := Lib.hid hz
  clear hl hf hn hs hP hT hk hz hnu
  generalize U.fixS s = F at *
  go_enter Tryz.func79, Tryz.ntmps79
  go_wp2_with fail
  refine (HN.out _ H0.out).mono ?_
  rintro e w1 ⟨rfl, hB1⟩
  have H1 := Lib.hid (H0.out.on hB1)
  clear hB1 H0
  go_wp2_with fail
  refine (HT.out _ H1.out).mono ?_
  rintro e w2 ⟨rfl, hB2⟩
  have H2 := Lib.hid (H1.out.on hB2)
  clear hB2 H1
  go_wp2_with fail
  refine (HO.out _ _ _ _).mono ?_
  rintro e w3 ⟨rfl, hB3⟩
  have L2 := lies_new (w := w2) (cs := #[.string ⟨#[99, 111, 100, 101]⟩, .int .u8 3, .string (numT n), .slice none 0 0, .slice none 0 0, .string ⟨#[109, 101, 115, 115, 97, 103, 101]⟩, .int .u8 4, .string F, .slice none 0 0, .slice none 0 0]) (es := [codeF n, msgF F]) (t := 109) (n := 2) rfl rfl (by decide)
  have S2 := (L2.below hB3).hs (A := fun _ => True) (fun e he => by
    simp only [List.mem_cons, List.mem_nil_iff, or_false] at he
    rcases he with rfl | rfl
    · exact ⟨HS.nil _ _ _, HS.nil _ _ _, HC.out _ (by show (4 : Nat) ≤ _; decide)⟩
    · exact ⟨HS.nil _ _ _, HS.nil _ _ _, by show (4 : Nat) < 256; decide, by show F.size ≤ _; have := HZ.out; omega, by show (7 : Nat) ≤ _; decide⟩) (fun _ _ => trivial) (by show (2 : Nat) ≤ _; decide)
  have H3 := Lib.hid (And.intro ((H2.out.on ((Below.refl w2.heap.size w2).alloc (Nat.le_refl _) (.cells #[.string ⟨#[99, 111, 100, 101]⟩, .int .u8 3, .string (numT n), .slice none 0 0, .slice none 0 0, .string ⟨#[109, 101, 115, 115, 97, 103, 101]⟩, .int .u8 4, .string F, .slice none 0 0, .slice none 0 0] 109))).on hB3) S2)
  clear S2 L2 hB3 H2
  have hB4 := (Below.refl w3.heap.size w3).alloc (Nat.le_refl _) (.cells #[.int .u8 6, .string ⟨#[]⟩, .slice none 0 0, .slice (some ⟨w2.heap.size, 0, none⟩) 2 2] 25)
  have H4 := Lib.hid (And.intro (H3.out.1.on hB4) (H3.out.2.below hB4))
  obtain ⟨x0, x1, x2, x3⟩ := H4.out.1.b0.box
  clear hB4
  go_wp2_with fail
  have hB5 := (Below.refl (w3.alloc (.cells #[.int .u8 6, .string ⟨#[]⟩, .slice none 0 0, .slice (some ⟨w2.heap.size, 0, none⟩) 2 2] 25)).heap.size (w3.alloc (.cells #[.int .u8 6, .string ⟨#[]⟩, .slice none 0 0, .slice (some ⟨w2.heap.size, 0, none⟩) 2 2] 25))).alloc (Nat.le_refl _) (.cells #[.string ⟨#[105, 100]⟩, .int .u8 k, .string x, .slice p l.len c, .slice q f.len d, .string ⟨#[101, 114, 114, 111, 114]⟩, .int .u8 6, .string ⟨#[]⟩, .slice none 0 0, .slice (some ⟨w2.heap.size, 0, none⟩) 2 2] 109)
  have H5 := Lib.hid (And.intro (H4.out.1.on hB5) (H4.out.2.below hB5))
  have L5 := lies_new (w := w3.alloc (.cells #[.int .u8 6, .string ⟨#[]⟩, .slice none 0 0, .slice (some ⟨w2.heap.size, 0, none⟩) 2 2] 25)) (cs := #[.string ⟨#[105, 100]⟩, .int .u8 k, .string x, .slice p l.len c, .slice q f.len d, .string ⟨#[101, 114, 114, 111, 114]⟩, .int .u8 6, .string ⟨#[]⟩, .slice none 0 0, .slice (some ⟨w2.heap.size, 0, none⟩) 2 2]) (es := [idF k x (.slice p l.len c) (.slice q f.len d) l f, errF (.slice (some ⟨w2.heap.size, 0, none⟩) 2 2) n F]) (t := 109) (n := 2) rfl rfl (by decide)
  rw [World.size_alloc] at L5
  have hfields : ∀ e ∈ [idF k x (.slice p l.len c) (.slice q f.len d) l f, errF (.slice (some ⟨w2.heap.size, 0, none⟩) 2 2) n F], e.Ok ((w3.alloc (.cells #[.int .u8 6, .string ⟨#[]⟩, .slice none 0 0, .slice (some ⟨w2.heap.size, 0, none⟩) 2 2] 25)).alloc (.cells #[.string ⟨#[105, 100]⟩, .int .u8 k, .string x, .slice p l.len c, .slice q f.len d, .string ⟨#[101, 114, 114, 111, 114]⟩, .int .u8 6, .string ⟨#[]⟩, .slice none 0 0, .slice (some ⟨w2.heap.size, 0, none⟩) 2 2] 109)) (fun _ => True) := fun e he => by
    simp only [List.mem_cons, List.mem_nil_iff, or_false] at he
    rcases he with rfl | rfl
    · exact ⟨H5.out.1.l, H5.out.1.f, HK.out.1, HK.out.2.1, by show (2 : Nat) ≤ _; decide⟩
    · exact ⟨HS.nil _ _ _, H5.out.2, by show (6 : Nat) < 256; decide, by show (0 : Nat) ≤ _; decide, by show (5 : Nat) ≤ _; decide⟩
  refine (HM.out _ _ _ _ rfl H5.out.1.below L5 hfields).mono ?_
  rintro e w6 ⟨v2, u2, rfl, hl2, hf2, hB6⟩
  have H6 := Lib.hid (H5.out.1.on hB6)
  have hs5 := H5.out.1.size
  obtain ⟨p2, c2, rfl, -⟩ := hl2.len
  obtain ⟨q2, d2, rfl, -⟩ := hf2.len
  clear L5 hfields hB5 hB6 H4 H3 x0 x1 x2 x3
  generalize (w3.alloc (.cells #[.int .u8 6, .string ⟨#[]⟩, .slice none 0 0, .slice (some ⟨w2.heap.size, 0, none⟩) 2 2] 25)).alloc (.cells #[.string ⟨#[105, 100]⟩, .int .u8 k, .string x, .slice p l.len c, .slice q f.len d, .string ⟨#[101, 114, 114, 111, 114]⟩, .int .u8 6, .string ⟨#[]⟩, .slice none 0 0, .slice (some ⟨w2.heap.size, 0, none⟩) 2 2] 109) = w5 at *
  obtain ⟨y0, y1, y2, y3⟩ := H6.out.b1.box
  have f1 := H6.out.b1.free
  go_wp2_with fail
  obtain ⟨g1, g2, g3⟩ := H6.out.b1.all (.int .u8 6) (.string ⟨#[]⟩) (.slice p2 V.T.nil.len c2) (.slice q2 (treeOf [verF, idF k x (.slice p l.len c) (.slice q f.len d) l f, errF (.slice (some ⟨w2.heap.size, 0, none⟩) 2 2) n F]).len d2)
  have hw3 := set4_else w6 (w.heap.size + 1) (.int .u8 6) (.string ⟨#[]⟩) (.slice p2 V.T.nil.len c2) (.slice q2 (treeOf [verF, idF k x (.slice p l.len c) (.slice q f.len d) l f, errF (.slice (some ⟨w2.heap.size, 0, none⟩) 2 2) n F]).len d2)
  have g3' := g3 w.heap.size (Nat.le_succ _)
  clear y0 y1 y2 y3 f1
  generalize (((w6.setCell ⟨w.heap.size + 1, 0, none⟩ (.int .u8 6)).setCell ⟨w.heap.size + 1, 1, none⟩ (.string ⟨#[]⟩)).setCell ⟨w.heap.size + 1, 2, none⟩ (.slice p2 V.T.nil.len c2)).setCell ⟨w.heap.size + 1, 3, none⟩ (.slice q2 (treeOf [verF, idF k x (.slice p l.len c) (.slice q f.len d) l f, errF (.slice (some ⟨w2.heap.size, 0, none⟩) 2 2) n F]).len d2) = w7 at *
  obtain ⟨y0, y1, y2, y3⟩ := g1.box
  have keep : ∀ b, w5.heap.size ≤ b → b < w6.heap.size → w7.heap[b]? = w6.heap[b]? := fun b hb _ => hw3 b (by omega)
  refine bodyPost_ret (v := .agg #[.int .u8 6, .string ⟨#[]⟩, .slice p2 V.T.nil.len c2, .slice q2 (treeOf [verF, idF k x (.slice p l.len c) (.slice q f.len d) l f, errF (.slice (some ⟨w2.heap.size, 0, none⟩) 2 2) n F]).len d2]) (by simp [results, Tryz.results79, go_sem, y0, y1, y2, y3]) rfl ?_
  exact ⟨_, _, rfl, hl2.fre (fun b hb => by omega) keep, hf2.fre (fun b hb => by omega) keep, H6.out.below.trans g3'⟩
end Go.Proofs.YtagafedkfkmkbaaGreatDoor

namespace Go.Proofs.YtagafedkfkmkbaaGreatDoor
open Go Go.RowKit Go.Lib

/-- the first place of a byte from i on, or -1 -/
def ix8 (x : Nat) : List Nat → Nat → Int
  | [], _ => -1
  | z :: r, i => if z = x then i else ix8 x r (i + 1)
theorem ix8_has (x : Nat) : ∀ (l : List Nat) (i : Nat), decide (0 ≤ ix8 x l i) = decide (x ∈ l)
  | [], _ => by simp [ix8]
  | z :: r, i => by
    unfold ix8
    by_cases h : z = x
    · rw [if_pos h]; subst h; simp
    · rw [if_neg h, ix8_has x r (i + 1)]
      have h2 : ¬ x = z := fun e => h e.symm
      simp [h2]
def SameW (w w' : World) : Prop := w' = w
theorem SameW.refl (w : World) : SameW w w := rfl
theorem ix8_on {x : Nat} {l : List Nat} {i : Nat} (h : i < l.length) : ix8 x (l.drop i) i = if l.getD i 0 = x then (i : Int) else ix8 x (l.drop (i + 1)) (i + 1) := by
  rw [List.drop_eq_getElem_cons h, List.getD_eq_getElem?_getD, List.getElem?_eq_getElem h]
  rfl

set_option maxHeartbeats 1000000 in
set_option maxRecDepth 100000 in
theorem index8_any (b o n c : Nat) (l : List Nat) (x : Nat) (w : World) (hn : l.length = n) (hc : n ≤ c ∧ c ≤ 9223372036854775807) (hz : ∀ j, j < n → w.cell? ⟨b, o + j, none⟩ = some (.int .u8 (l.getD j 0 : Nat))) :
    Calls Tryz.prog 214 #[.slice (some ⟨b, o, none⟩) n c, .int .u8 x] w (fun e w' => e = .returned (.int .i64 (ix8 x l 0)) ∧ SameW w w') := by
  have HZ := Lib.hid hz
  have HN := Lib.hid hn
  clear hz hn
  go_enter Tryz.func214, Tryz.ntmps214
  go_wp2_with fail
  go_loopw [8] (fun p wr => ∃ i : Nat, p = .int .i64 i ∧ i ≤ n ∧ Hid (SameW w wr ∧ ix8 x (l.drop i) i = ix8 x l 0)) (fun p _ => n - (RowKit.intOf p).toNat)
  case atStart => exact ⟨0, rfl, Nat.zero_le _, Lib.hid ⟨SameW.refl _, rfl⟩⟩
  case round =>
    obtain ⟨i, rfl, hi, HR⟩ := hrel
    by_cases hlt : i < n
    · have hx := HR.out.2
      obtain rfl : wr = w := HR.out.1
      rw [ix8_on (by rw [HN.out]; exact hlt)] at hx
      have c1 := HZ.out i hlt
      generalize l.getD i 0 = z at *
      have HL := Lib.hid hlt
      by_cases hzx : z = x
      · subst hzx
        rw [if_pos rfl] at hx
        have t1 : ((z : Int) == z) = true := by simp
        have HX := Lib.hid hx
        clear hx HR
        go_wp2_with fail
        go_ret
        exact ⟨by rw [← HX.out]; rfl, SameW.refl _⟩
      · rw [if_neg hzx] at hx
        have t1 : ((x : Int) == z) = false := by simp; omega
        have HX := Lib.hid hx
        clear hx HR hzx
        go_wp2_with fail
        go_roundw
        case rel => exact ⟨i + 1, by go_num, HL.out, Lib.hid ⟨SameW.refl _, HX.out⟩⟩
        case measure => have := HL.out; simp [RowKit.intOf]; omega
    · obtain rfl : i = n := by omega
      have hx := HR.out.2
      obtain rfl : wr = w := HR.out.1
      rw [← HN.out, List.drop_length] at hx
      have HX := Lib.hid hx
      clear hx HR
      go_wp2_with fail
      go_ret
      exact ⟨by rw [← HX.out]; rfl, SameW.refl _⟩
set_option maxHeartbeats 1000000 in
set_option maxRecDepth 100000 in
theorem contains8_any (b o n c : Nat) (l : List Nat) (x : Nat) (w : World) (hn : l.length = n) (hc : n ≤ c ∧ c ≤ 9223372036854775807) (hz : ∀ j, j < n → w.cell? ⟨b, o + j, none⟩ = some (.int .u8 (l.getD j 0 : Nat))) :
    Calls Tryz.prog 156 #[.slice (some ⟨b, o, none⟩) n c, .int .u8 x] w (fun e w' => e = .returned (.bool (decide (x ∈ l))) ∧ SameW w w') := by
  have HI := Lib.hid (index8_any b o n c l x w hn hc hz)
  have HB := Lib.hid (ix8_has x l 0)
  clear hz hn hc
  go_enter Tryz.func156, Tryz.ntmps156
  go_wp2_with fail
  refine HI.out.mono ?_
  rintro e w1 ⟨rfl, hs⟩
  obtain rfl : w1 = w := hs
  go_wp2_with fail
  go_ret
  exact ⟨by rw [← HB.out]; rfl, SameW.refl _⟩
set_option maxHeartbeats 1000000 in
set_option maxRecDepth 100000 in
theorem isOf_any (k : Nat) (x : ByteArray) (v u : Value) (l f : V.T) (A : Nat → Prop) (b n c : Nat) (ks : List Nat) (w : World) (hl : HS w A 0 v l) (hf : HS w A 1 u f) (hn : ks.length = n) (hc : n ≤ c ∧ c ≤ 9223372036854775807) (hb : b < w.heap.size) (hz : ∀ j, j < n → w.cell? ⟨b, 0 + j, none⟩ = some (.int .u8 (ks.getD j 0 : Nat))) :
    Calls Tryz.prog 87 #[.agg #[.int .u8 k, .string x, v, u], .slice (some ⟨b, 0, none⟩) n c] w (fun e w' => e = .returned (.bool (decide (k ∈ ks))) ∧ Below w.heap.size w w') := by
  obtain ⟨p, d, rfl, -⟩ := hl.len
  obtain ⟨q, g, rfl, -⟩ := hf.len
  have hB := (Below.refl w.heap.size w).alloc (Nat.le_refl _) (.cells #[.int .u8 k, .string x, .slice p l.len d, .slice q f.len g] 25)
  have HC := Lib.hid (contains8_any b 0 n c ks k (w.alloc (.cells #[.int .u8 k, .string x, .slice p l.len d, .slice q f.len g] 25)) hn hc (fun j hj => (hB.cell (p := ⟨b, 0 + j, none⟩) hb).trans (hz j hj)))
  have HB := Lib.hid hB
  clear hl hf hz hB hn hc
  go_enter Tryz.func87, Tryz.ntmps87
  go_wp2_with fail
  refine HC.out.mono ?_
  rintro e w1 ⟨rfl, hs⟩
  obtain rfl : w1 = _ := hs
  go_wp2_with fail
  go_ret
  exact ⟨rfl, HB.out⟩
end Go.Proofs.YtagafedkfkmkbaaGreatDoor

namespace Go.Proofs.YtagafedkfkmkbaaGreatDoor
open Go Go.RowKit Go.Lib

theorem is_four (k : Nat) (x : ByteArray) (v u : Value) (l f : V.T) (A : Nat → Prop) (W : World) (b : Nat) (hb : W.heap.size = b) (hl : HS W A 0 v l) (hf : HS W A 1 u f) :
    Calls Tryz.prog 87 #[.agg #[.int .u8 k, .string x, v, u], .slice (some ⟨b, 0, none⟩) 1 1] (W.alloc (.cells #[.int .u8 4] 5)) (Bools (decide (k ∈ [4])) W) := by
  subst hb
  have hB2 := (Below.refl W.heap.size W).alloc (Nat.le_refl _) (.cells #[.int .u8 4] 5)
  refine (isOf_any k x v u l f A W.heap.size 1 1 [4] (W.alloc (.cells #[.int .u8 4] 5)) (hl.below hB2) (hf.below hB2) rfl (by decide) (by simp) (fun j hj => ?_)).mono ?_
  · have hj' : j = 0 := by omega
    rcases hj' with rfl <;> exact (cell_of_row _ _ _ _ _ (0, 0) (heap_alloc_new _ _)).trans rfl
  · rintro e w' ⟨rfl, hb⟩
    exact ⟨rfl, hB2.trans (hb.mono hB2.size)⟩
theorem is_zero (k : Nat) (x : ByteArray) (v u : Value) (l f : V.T) (A : Nat → Prop) (W : World) (b : Nat) (hb : W.heap.size = b) (hl : HS W A 0 v l) (hf : HS W A 1 u f) :
    Calls Tryz.prog 87 #[.agg #[.int .u8 k, .string x, v, u], .slice (some ⟨b, 0, none⟩) 1 1] (W.alloc (.cells #[.int .u8 0] 5)) (Bools (decide (k ∈ [0])) W) := by
  subst hb
  have hB2 := (Below.refl W.heap.size W).alloc (Nat.le_refl _) (.cells #[.int .u8 0] 5)
  refine (isOf_any k x v u l f A W.heap.size 1 1 [0] (W.alloc (.cells #[.int .u8 0] 5)) (hl.below hB2) (hf.below hB2) rfl (by decide) (by simp) (fun j hj => ?_)).mono ?_
  · have hj' : j = 0 := by omega
    rcases hj' with rfl <;> exact (cell_of_row _ _ _ _ _ (0, 0) (heap_alloc_new _ _)).trans rfl
  · rintro e w' ⟨rfl, hb⟩
    exact ⟨rfl, hB2.trans (hb.mono hB2.size)⟩
theorem is_six (k : Nat) (x : ByteArray) (v u : Value) (l f : V.T) (A : Nat → Prop) (W : World) (b : Nat) (hb : W.heap.size = b) (hl : HS W A 0 v l) (hf : HS W A 1 u f) :
    Calls Tryz.prog 87 #[.agg #[.int .u8 k, .string x, v, u], .slice (some ⟨b, 0, none⟩) 1 1] (W.alloc (.cells #[.int .u8 6] 5)) (Bools (decide (k ∈ [6])) W) := by
  subst hb
  have hB2 := (Below.refl W.heap.size W).alloc (Nat.le_refl _) (.cells #[.int .u8 6] 5)
  refine (isOf_any k x v u l f A W.heap.size 1 1 [6] (W.alloc (.cells #[.int .u8 6] 5)) (hl.below hB2) (hf.below hB2) rfl (by decide) (by simp) (fun j hj => ?_)).mono ?_
  · have hj' : j = 0 := by omega
    rcases hj' with rfl <;> exact (cell_of_row _ _ _ _ _ (0, 0) (heap_alloc_new _ _)).trans rfl
  · rintro e w' ⟨rfl, hb⟩
    exact ⟨rfl, hB2.trans (hb.mono hB2.size)⟩
theorem is_par (k : Nat) (x : ByteArray) (v u : Value) (l f : V.T) (A : Nat → Prop) (W : World) (b : Nat) (hb : W.heap.size = b) (hl : HS W A 0 v l) (hf : HS W A 1 u f) :
    Calls Tryz.prog 87 #[.agg #[.int .u8 k, .string x, v, u], .slice (some ⟨b, 0, none⟩) 3 3] (W.alloc (.cells #[.int .u8 5, .int .u8 6, .int .u8 0] 5)) (Bools (decide (k ∈ [5, 6, 0])) W) := by
  subst hb
  have hB2 := (Below.refl W.heap.size W).alloc (Nat.le_refl _) (.cells #[.int .u8 5, .int .u8 6, .int .u8 0] 5)
  refine (isOf_any k x v u l f A W.heap.size 3 3 [5, 6, 0] (W.alloc (.cells #[.int .u8 5, .int .u8 6, .int .u8 0] 5)) (hl.below hB2) (hf.below hB2) rfl (by decide) (by simp) (fun j hj => ?_)).mono ?_
  · have hj' : j = 0 ∨ j = 1 ∨ j = 2 := by omega
    rcases hj' with rfl | rfl | rfl <;> exact (cell_of_row _ _ _ _ _ (0, 0) (heap_alloc_new _ _)).trans rfl
  · rintro e w' ⟨rfl, hb⟩
    exact ⟨rfl, hB2.trans (hb.mono hB2.size)⟩

theorem str_beq (s : ByteArray) (l : List UInt8) : (s.toList == l) = decide (s = ⟨l.toArray⟩) := by
  rw [Lib.toList_data]
  refine (Bool.eq_iff_iff.2 ?_)
  rw [beq_iff_eq, decide_eq_true_eq]
  constructor
  · intro h
    apply ByteArray.ext
    show s.data = l.toArray
    rw [← h, Array.toArray_toList]
  · intro h
    rw [h]
theorem msBlk_new (w : World) (M : Ms) : MsBlk (w.alloc (.cells #[.int .u8 M.j.k, .string M.j.x, .slice M.j.p M.j.n M.j.c, .slice M.j.q M.j.m M.j.e, .bool M.j.b, .int .u8 M.m.k, .string M.m.x, .slice M.m.p M.m.n M.m.c, .slice M.m.q M.m.m M.m.e, .bool M.m.b, .int .u8 M.p.k, .string M.p.x, .slice M.p.p M.p.n M.p.c, .slice M.p.q M.p.m M.p.e, .bool M.p.b, .int .u8 M.i.k, .string M.i.x, .slice M.i.p M.i.n M.i.c, .slice M.i.q M.i.m M.i.e, .bool M.i.b, .int .u8 M.r.k, .string M.r.x, .slice M.r.p M.r.n M.r.c, .slice M.r.q M.r.m M.r.e, .bool M.r.b, .int .u8 M.o.k, .string M.o.x, .slice M.o.p M.o.n M.o.c, .slice M.o.q M.o.m M.o.e, .bool M.o.b] 128)) w.heap.size M := heap_alloc_new _ _
structure MsSt (w : World) (A : Nat → Prop) (M : Ms) (W : World) : Prop where
  below : Below w.heap.size w W
  b0 : MsBlk W w.heap.size M
  ok : M.Ok A W
theorem MsSt.on {w : World} {A : Nat → Prop} {M : Ms} {W W' : World} (h : MsSt w A M W) (hB : Below W.heap.size W W') : MsSt w A M W' :=
  ⟨h.below.trans (hB.mono h.below.size), h.b0.same hB, h.ok.below hB⟩
theorem MsSt.start {w : World} {A : Nat → Prop} {M : Ms} (h : M.Ok A w) : MsSt w A M (w.alloc (.cells #[.int .u8 M.j.k, .string M.j.x, .slice M.j.p M.j.n M.j.c, .slice M.j.q M.j.m M.j.e, .bool M.j.b, .int .u8 M.m.k, .string M.m.x, .slice M.m.p M.m.n M.m.c, .slice M.m.q M.m.m M.m.e, .bool M.m.b, .int .u8 M.p.k, .string M.p.x, .slice M.p.p M.p.n M.p.c, .slice M.p.q M.p.m M.p.e, .bool M.p.b, .int .u8 M.i.k, .string M.i.x, .slice M.i.p M.i.n M.i.c, .slice M.i.q M.i.m M.i.e, .bool M.i.b, .int .u8 M.r.k, .string M.r.x, .slice M.r.p M.r.n M.r.c, .slice M.r.q M.r.m M.r.e, .bool M.r.b, .int .u8 M.o.k, .string M.o.x, .slice M.o.p M.o.n M.o.c, .slice M.o.q M.o.m M.o.e, .bool M.o.b] 128)) :=
  ⟨(Below.refl w.heap.size w).alloc (Nat.le_refl _) _, msBlk_new w M, h.below ((Below.refl w.heap.size w).alloc (Nat.le_refl _) _)⟩
set_option maxHeartbeats 2000000 in
set_option maxRecDepth 100000 in
theorem hasMethod_any (M : Ms) (A : Nat → Prop) (w : World) (h : M.Ok A w) :
    Calls Tryz.prog 149 #[.agg #[.int .u8 M.j.k, .string M.j.x, .slice M.j.p M.j.n M.j.c, .slice M.j.q M.j.m M.j.e, .bool M.j.b, .int .u8 M.m.k, .string M.m.x, .slice M.m.p M.m.n M.m.c, .slice M.m.q M.m.m M.m.e, .bool M.m.b, .int .u8 M.p.k, .string M.p.x, .slice M.p.p M.p.n M.p.c, .slice M.p.q M.p.m M.p.e, .bool M.p.b, .int .u8 M.i.k, .string M.i.x, .slice M.i.p M.i.n M.i.c, .slice M.i.q M.i.m M.i.e, .bool M.i.b, .int .u8 M.r.k, .string M.r.x, .slice M.r.p M.r.n M.r.c, .slice M.r.q M.r.m M.r.e, .bool M.r.b, .int .u8 M.o.k, .string M.o.x, .slice M.o.p M.o.n M.o.c, .slice M.o.q M.o.m M.o.e, .bool M.o.b]] w (Bools (methB M.m.r) w) := by
  have H0 := Lib.hid (MsSt.start h)
  have HIS := Lib.hid (fun W b hb (g : MsSt w A M W) => is_four M.m.k M.m.x (.slice M.m.p M.m.n M.m.c) (.slice M.m.q M.m.m M.m.e) M.m.l M.m.f A W b hb g.ok.m.l g.ok.m.f)
  clear h
  go_enter Tryz.func149, Tryz.ntmps149
  go_wp2_with fail
  refine (HIS.out _ _ (by simp) H0.out).mono ?_
  rintro e w1 ⟨rfl, hB1⟩
  have H1 := Lib.hid (H0.out.on hB1)
  obtain ⟨r, hr⟩ : ∃ r, r = decide (M.m.k ∈ [4]) := ⟨_, rfl⟩
  rw [← hr]
  have HR := Lib.hid hr
  clear hr hB1
  go_wp2_with fail
  go_ret
  exact ⟨by rw [HR.out]; exact congrArg (fun b => Ending.returned (.bool b)) (decide_eq_decide.2 (by simp [Fd.r])), H1.out.below⟩
set_option maxHeartbeats 2000000 in
set_option maxRecDepth 100000 in
theorem mayPar_any (M : Ms) (A : Nat → Prop) (w : World) (h : M.Ok A w) :
    Calls Tryz.prog 150 #[.agg #[.int .u8 M.j.k, .string M.j.x, .slice M.j.p M.j.n M.j.c, .slice M.j.q M.j.m M.j.e, .bool M.j.b, .int .u8 M.m.k, .string M.m.x, .slice M.m.p M.m.n M.m.c, .slice M.m.q M.m.m M.m.e, .bool M.m.b, .int .u8 M.p.k, .string M.p.x, .slice M.p.p M.p.n M.p.c, .slice M.p.q M.p.m M.p.e, .bool M.p.b, .int .u8 M.i.k, .string M.i.x, .slice M.i.p M.i.n M.i.c, .slice M.i.q M.i.m M.i.e, .bool M.i.b, .int .u8 M.r.k, .string M.r.x, .slice M.r.p M.r.n M.r.c, .slice M.r.q M.r.m M.r.e, .bool M.r.b, .int .u8 M.o.k, .string M.o.x, .slice M.o.p M.o.n M.o.c, .slice M.o.q M.o.m M.o.e, .bool M.o.b]] w (Bools (parB M.p.r) w) := by
  have H0 := Lib.hid (MsSt.start h)
  have HIS := Lib.hid (fun W b hb (g : MsSt w A M W) => is_par M.p.k M.p.x (.slice M.p.p M.p.n M.p.c) (.slice M.p.q M.p.m M.p.e) M.p.l M.p.f A W b hb g.ok.p.l g.ok.p.f)
  clear h
  go_enter Tryz.func150, Tryz.ntmps150
  go_wp2_with fail
  refine (HIS.out _ _ (by simp) H0.out).mono ?_
  rintro e w1 ⟨rfl, hB1⟩
  have H1 := Lib.hid (H0.out.on hB1)
  obtain ⟨r, hr⟩ : ∃ r, r = decide (M.p.k ∈ [5, 6, 0]) := ⟨_, rfl⟩
  rw [← hr]
  have HR := Lib.hid hr
  clear hr hB1
  go_wp2_with fail
  go_ret
  exact ⟨by rw [HR.out]; rfl, H1.out.below⟩
set_option maxHeartbeats 2000000 in
set_option maxRecDepth 100000 in
theorem outcome_any (M : Ms) (A : Nat → Prop) (w : World) (h : M.Ok A w) :
    Calls Tryz.prog 153 #[.agg #[.int .u8 M.j.k, .string M.j.x, .slice M.j.p M.j.n M.j.c, .slice M.j.q M.j.m M.j.e, .bool M.j.b, .int .u8 M.m.k, .string M.m.x, .slice M.m.p M.m.n M.m.c, .slice M.m.q M.m.m M.m.e, .bool M.m.b, .int .u8 M.p.k, .string M.p.x, .slice M.p.p M.p.n M.p.c, .slice M.p.q M.p.m M.p.e, .bool M.p.b, .int .u8 M.i.k, .string M.i.x, .slice M.i.p M.i.n M.i.c, .slice M.i.q M.i.m M.i.e, .bool M.i.b, .int .u8 M.r.k, .string M.r.x, .slice M.r.p M.r.n M.r.c, .slice M.r.q M.r.m M.r.e, .bool M.r.b, .int .u8 M.o.k, .string M.o.x, .slice M.o.p M.o.n M.o.c, .slice M.o.q M.o.m M.o.e, .bool M.o.b]] w (Bools (outB M.r.r M.o.r) w) := by
  have H0 := Lib.hid (MsSt.start h)
  clear h
  go_enter Tryz.func153, Tryz.ntmps153
  go_wp2_with fail
  go_ret
  exact ⟨rfl, H0.out.below⟩
set_option maxHeartbeats 2000000 in
set_option maxRecDepth 100000 in
theorem fault_any (M : Ms) (A : Nat → Prop) (w : World) (h : M.Ok A w) :
    Calls Tryz.prog 154 #[.agg #[.int .u8 M.j.k, .string M.j.x, .slice M.j.p M.j.n M.j.c, .slice M.j.q M.j.m M.j.e, .bool M.j.b, .int .u8 M.m.k, .string M.m.x, .slice M.m.p M.m.n M.m.c, .slice M.m.q M.m.m M.m.e, .bool M.m.b, .int .u8 M.p.k, .string M.p.x, .slice M.p.p M.p.n M.p.c, .slice M.p.q M.p.m M.p.e, .bool M.p.b, .int .u8 M.i.k, .string M.i.x, .slice M.i.p M.i.n M.i.c, .slice M.i.q M.i.m M.i.e, .bool M.i.b, .int .u8 M.r.k, .string M.r.x, .slice M.r.p M.r.n M.r.c, .slice M.r.q M.r.m M.r.e, .bool M.r.b, .int .u8 M.o.k, .string M.o.x, .slice M.o.p M.o.n M.o.c, .slice M.o.q M.o.m M.o.e, .bool M.o.b]] w (Bools (fauB M.o.r) w) := by
  have H0 := Lib.hid (MsSt.start h)
  have HIS := Lib.hid (fun W b hb (g : MsSt w A M W) => is_six M.o.k M.o.x (.slice M.o.p M.o.n M.o.c) (.slice M.o.q M.o.m M.o.e) M.o.l M.o.f A W b hb g.ok.o.l g.ok.o.f)
  obtain ⟨b, hb⟩ : ∃ b, M.o.b = b := ⟨_, rfl⟩
  have HBB := Lib.hid hb
  clear h
  cases b
  · rw [hb] at H0
    go_enter Tryz.func154, Tryz.ntmps154
    go_wp2_with fail
    go_ret
    exact ⟨by simp [fauB, Fd.r, HBB.out], H0.out.below⟩
  · rw [hb] at H0
    go_enter Tryz.func154, Tryz.ntmps154
    go_wp2_with fail
    refine (HIS.out _ _ (by simp) H0.out).mono ?_
    rintro e w1 ⟨rfl, hB1⟩
    have H1 := Lib.hid (H0.out.on hB1)
    obtain ⟨r, hr⟩ : ∃ r, r = decide (M.o.k ∈ [6]) := ⟨_, rfl⟩
    rw [← hr]
    have HR := Lib.hid hr
    clear hr hB1
    go_wp2_with fail
    go_ret
    exact ⟨by rw [HR.out]; simp [fauB, Fd.r, HBB.out], H1.out.below⟩
set_option maxHeartbeats 2000000 in
set_option maxRecDepth 100000 in
theorem version_any (M : Ms) (A : Nat → Prop) (w : World) (h : M.Ok A w) :
    Calls Tryz.prog 148 #[.agg #[.int .u8 M.j.k, .string M.j.x, .slice M.j.p M.j.n M.j.c, .slice M.j.q M.j.m M.j.e, .bool M.j.b, .int .u8 M.m.k, .string M.m.x, .slice M.m.p M.m.n M.m.c, .slice M.m.q M.m.m M.m.e, .bool M.m.b, .int .u8 M.p.k, .string M.p.x, .slice M.p.p M.p.n M.p.c, .slice M.p.q M.p.m M.p.e, .bool M.p.b, .int .u8 M.i.k, .string M.i.x, .slice M.i.p M.i.n M.i.c, .slice M.i.q M.i.m M.i.e, .bool M.i.b, .int .u8 M.r.k, .string M.r.x, .slice M.r.p M.r.n M.r.c, .slice M.r.q M.r.m M.r.e, .bool M.r.b, .int .u8 M.o.k, .string M.o.x, .slice M.o.p M.o.n M.o.c, .slice M.o.q M.o.m M.o.e, .bool M.o.b]] w (Bools (verB M.j.r) w) := by
  have H0 := Lib.hid (MsSt.start h)
  have HIS := Lib.hid (fun W b hb (g : MsSt w A M W) => is_four M.j.k M.j.x (.slice M.j.p M.j.n M.j.c) (.slice M.j.q M.j.m M.j.e) M.j.l M.j.f A W b hb g.ok.j.l g.ok.j.f)
  clear h
  go_enter Tryz.func148, Tryz.ntmps148
  go_wp2_with fail
  refine (HIS.out _ _ (by simp) H0.out).mono ?_
  rintro e w1 ⟨rfl, hB1⟩
  have H1 := Lib.hid (H0.out.on hB1)
  obtain ⟨r, hr⟩ : ∃ r, r = decide (M.j.k ∈ [4]) := ⟨_, rfl⟩
  rw [← hr]
  have HR := Lib.hid hr
  clear hr hB1
  have c1 := H1.out.b0.c 1 _ rfl
  cases r
  · go_wp2_with fail
    go_ret
    exact ⟨by have := HR.out; simp [verB, Fd.r] at this ⊢; simp [this], H1.out.below⟩
  · obtain ⟨z, hz⟩ : ∃ z, z = decide (M.j.x = ⟨#[50, 46, 48]⟩) := ⟨_, rfl⟩
    have HZ := Lib.hid hz
    have tz : (M.j.x.toList == [50, 46, 48]) = z := by rw [hz, str_beq]
    go_wp2_with fail
    go_ret
    exact ⟨by have := HR.out; simp [verB, Fd.r] at this ⊢; simp [this, HZ.out]; try exact decide_eq_decide.2 Iff.rfl, H1.out.below⟩
end Go.Proofs.YtagafedkfkmkbaaGreatDoor
