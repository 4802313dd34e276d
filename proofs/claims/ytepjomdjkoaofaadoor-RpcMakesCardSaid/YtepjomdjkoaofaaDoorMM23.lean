/- The program makes an error's reply. Conditions: such as Go can hold; a text of at most 10000 bytes. -/
import Derived.Test.YtepjomdjkoaofaaDoorMM21
import Derived.Test.YtepjomdjkoaofaaDoorMM22
import Derived.Lib.ItoaMem
import Derived.Lib.ItoaLen
namespace Go.Proofs.YtepjomdjkoaofaaDoor
open Go Go.RowKit Go.Lib

def numT (n : Int) : ByteArray := ⟨(Lib.itoa n).toArray⟩
def codeF (n : Int) : Fe := ⟨⟨#[99, 111, 100, 101]⟩, 3, numT n, .slice none 0 0, .slice none 0 0, .nil, .nil⟩
def msgF (F : ByteArray) : Fe := ⟨⟨#[109, 101, 115, 115, 97, 103, 101]⟩, 4, F, .slice none 0 0, .slice none 0 0, .nil, .nil⟩
def idF (k : Nat) (x : ByteArray) (v u : Value) (l f : V.T) : Fe := ⟨⟨#[105, 100]⟩, k, x, v, u, l, f⟩
def errF (v : Value) (n : Int) (F : ByteArray) : Fe := ⟨⟨#[101, 114, 114, 111, 114]⟩, 6, ⟨#[]⟩, .slice none 0 0, v, .nil, treeOf [codeF n, msgF F]⟩
/-- the fields of an error's reply -/
def failT (k : Nat) (x : ByteArray) (l f : V.T) (n : Int) (F : ByteArray) : V.T := treeOf [verF, idF k x (.slice none 0 0) (.slice none 0 0) l f, errF (.slice none 0 0) n F]
theorem num_fit (n : Int) (h0 : -9223372036854775808 ≤ n) (h1 : n ≤ 9223372036854775807) (nm : ByteArray) (h : nm.size ≤ 140737488355328) : Fit nm 3 (numT n) := by
  refine ⟨by decide, ?_, h⟩
  have := Lib.itoa_length_le n h0 h1
  show (Lib.itoa n).toArray.size ≤ _
  rw [List.size_toArray]
  omega
theorem pow_on {w w' : World} (h : PowTab w) (hb : Below w.heap.size w w') : PowTab w' := Lib.tabBelow_of_tabIs h w' hb

structure FaSt (w : World) (k : Nat) (x : ByteArray) (v u : Value) (l f : V.T) (W : World) : Prop where
  below : Below w.heap.size w W
  size : w.heap.size + 2 ≤ W.heap.size
  b0 : Blk4 W w.heap.size 25 (.int .u8 k) (.string x) v u
  b1 : Blk4 W (w.heap.size + 1) 25 (.int .u8 0) (.string ⟨#[]⟩) (.slice none 0 0) (.slice none 0 0)
  l : HS W (fun _ => True) 0 v l
  f : HS W (fun _ => True) 1 u f
theorem FaSt.on {w : World} {k : Nat} {x : ByteArray} {v u : Value} {l f : V.T} {W W' : World} (h : FaSt w k x v u l f W) (hB : Below W.heap.size W W') : FaSt w k x v u l f W' :=
  ⟨h.below.trans (hB.mono h.below.size), Nat.le_trans h.size hB.size, h.b0.same (hB.block _ h.b0.lt), h.b1.same (hB.block _ h.b1.lt), h.l.below hB, h.f.below hB⟩

set_option maxHeartbeats 2000000 in
set_option maxRecDepth 100000 in
theorem fail_any (k : Nat) (x : ByteArray) (v u : Value) (l f : V.T) (A : Nat → Prop) (n : Int) (s : ByteArray) (w : World) (hk : Fit ⟨#[]⟩ k x) (hl : HS w A 0 v l) (hf : HS w A 1 u f)
    (hn : -9223372036854775808 ≤ n ∧ n ≤ 9223372036854775807) (hs : s.size ≤ 10000) (hP : PowTab w) (hT : Tabs w) :
    Calls Tryd.prog 14 #[.agg #[.int .u8 k, .string x, v, u], .int .i64 n, .string s] w (Own4G 6 ⟨#[]⟩ .nil (failT k x l f n (U.fixS s)) w) := by
  obtain ⟨p, c, rfl, -⟩ := hl.len
  obtain ⟨q, d, rfl, -⟩ := hf.len
  have hz : (U.fixS s).size ≤ 30000 := by have := U.fix_size s; omega
  have HO := Lib.hid (fun W p n c => object_any p n c W)
  have hnu : ∀ W, FaSt w k x (.slice p l.len c) (.slice q f.len d) l f W → Calls Tryd.prog 39 #[.int .i64 n] W (fun e w' => e = .returned (.agg #[.int .u8 3, .string (numT n), .slice none 0 0, .slice none 0 0]) ∧ Below W.heap.size W w') := fun W h => numberJ_any n hn.1 hn.2 W (fun w' hb => pow_on (pow_on hP h.below) hb)
  have HN := Lib.hid hnu
  have HT := Lib.hid (fun W (h : FaSt w k x (.slice p l.len c) (.slice q f.len d) l f W) => text4_any s W (by omega) (by omega) (tabs_below hT h.below))
  have HM := Lib.hid (fun W p c es (h : es.length = 2) (hb : Below w.heap.size w W) (hL : Lies W (.slice p 2 c) es) (ho : ∀ e ∈ es, e.Ok W (fun _ => True)) => made_any p 2 c es (fun _ => True) W h.symm (by omega) hL ho (tabs_below hT hb))
  have H0 := Lib.hid (show FaSt w k x (.slice p l.len c) (.slice q f.len d) l f ((w.alloc (.cells #[.int .u8 k, .string x, .slice p l.len c, .slice q f.len d] 25)).alloc (.cells #[.int .u8 0, .string ⟨#[]⟩, .slice none 0 0, .slice none 0 0] 25)) from
    ⟨two_below _ _ _, by rw [two_size]; omega, (two_new _ _ _).1, (two_new _ _ _).2, (hl.mono (fun _ _ _ => trivial)).below (two_below _ _ _), (hf.mono (fun _ _ _ => trivial)).below (two_below _ _ _)⟩)
  have HK := Lib.hid hk
  have HC := Lib.hid (num_fit n hn.1 hn.2)
  have HZ := Lib.hid hz
  clear hl hf hn hs hP hT hk hz hnu
  generalize U.fixS s = F at *
  go_enter Tryd.func14, Tryd.ntmps14
  go_wp2_with fail
  refine (HN.out _ H0.out).mono ?_
  rintro e w1 ⟨rfl, hB1⟩
  have H1 := Lib.hid (H0.out.on hB1)
  clear hB1 H0
  go_wp2_with fail
  refine (HT.out _ H1.out).mono ?_
  rintro e w2 ⟨rfl, hB2⟩
  have H2 := Lib.hid (H1.out.on hB2)
  clear hB2 H1
  go_wp2_with fail
  refine (HO.out _ _ _ _).mono ?_
  rintro e w3 ⟨rfl, hB3⟩
  have L2 := lies_new (w := w2) (cs := #[.string ⟨#[99, 111, 100, 101]⟩, .int .u8 3, .string (numT n), .slice none 0 0, .slice none 0 0, .string ⟨#[109, 101, 115, 115, 97, 103, 101]⟩, .int .u8 4, .string F, .slice none 0 0, .slice none 0 0]) (es := [codeF n, msgF F]) (t := 50) (n := 2) rfl rfl (by decide)
  have S2 := (L2.below hB3).hs (A := fun _ => True) (fun e he => by
    simp only [List.mem_cons, List.mem_nil_iff, or_false] at he
    rcases he with rfl | rfl
    · exact ⟨HS.nil _ _ _, HS.nil _ _ _, HC.out _ (by show (4 : Nat) ≤ _; decide)⟩
    · exact ⟨HS.nil _ _ _, HS.nil _ _ _, by show (4 : Nat) < 256; decide, by show F.size ≤ _; have := HZ.out; omega, by show (7 : Nat) ≤ _; decide⟩) (fun _ _ => trivial) (by show (2 : Nat) ≤ _; decide)
  have H3 := Lib.hid (And.intro ((H2.out.on ((Below.refl w2.heap.size w2).alloc (Nat.le_refl _) (.cells #[.string ⟨#[99, 111, 100, 101]⟩, .int .u8 3, .string (numT n), .slice none 0 0, .slice none 0 0, .string ⟨#[109, 101, 115, 115, 97, 103, 101]⟩, .int .u8 4, .string F, .slice none 0 0, .slice none 0 0] 50))).on hB3) S2)
  clear S2 L2 hB3 H2
  have hB4 := (Below.refl w3.heap.size w3).alloc (Nat.le_refl _) (.cells #[.int .u8 6, .string ⟨#[]⟩, .slice none 0 0, .slice (some ⟨w2.heap.size, 0, none⟩) 2 2] 25)
  have H4 := Lib.hid (And.intro (H3.out.1.on hB4) (H3.out.2.below hB4))
  obtain ⟨x0, x1, x2, x3⟩ := H4.out.1.b0.box
  clear hB4
  go_wp2_with fail
  have hB5 := (Below.refl (w3.alloc (.cells #[.int .u8 6, .string ⟨#[]⟩, .slice none 0 0, .slice (some ⟨w2.heap.size, 0, none⟩) 2 2] 25)).heap.size (w3.alloc (.cells #[.int .u8 6, .string ⟨#[]⟩, .slice none 0 0, .slice (some ⟨w2.heap.size, 0, none⟩) 2 2] 25))).alloc (Nat.le_refl _) (.cells #[.string ⟨#[105, 100]⟩, .int .u8 k, .string x, .slice p l.len c, .slice q f.len d, .string ⟨#[101, 114, 114, 111, 114]⟩, .int .u8 6, .string ⟨#[]⟩, .slice none 0 0, .slice (some ⟨w2.heap.size, 0, none⟩) 2 2] 50)
  have H5 := Lib.hid (And.intro (H4.out.1.on hB5) (H4.out.2.below hB5))
  have L5 := lies_new (w := w3.alloc (.cells #[.int .u8 6, .string ⟨#[]⟩, .slice none 0 0, .slice (some ⟨w2.heap.size, 0, none⟩) 2 2] 25)) (cs := #[.string ⟨#[105, 100]⟩, .int .u8 k, .string x, .slice p l.len c, .slice q f.len d, .string ⟨#[101, 114, 114, 111, 114]⟩, .int .u8 6, .string ⟨#[]⟩, .slice none 0 0, .slice (some ⟨w2.heap.size, 0, none⟩) 2 2]) (es := [idF k x (.slice p l.len c) (.slice q f.len d) l f, errF (.slice (some ⟨w2.heap.size, 0, none⟩) 2 2) n F]) (t := 50) (n := 2) rfl rfl (by decide)
  rw [World.size_alloc] at L5
  have hfields : ∀ e ∈ [idF k x (.slice p l.len c) (.slice q f.len d) l f, errF (.slice (some ⟨w2.heap.size, 0, none⟩) 2 2) n F], e.Ok ((w3.alloc (.cells #[.int .u8 6, .string ⟨#[]⟩, .slice none 0 0, .slice (some ⟨w2.heap.size, 0, none⟩) 2 2] 25)).alloc (.cells #[.string ⟨#[105, 100]⟩, .int .u8 k, .string x, .slice p l.len c, .slice q f.len d, .string ⟨#[101, 114, 114, 111, 114]⟩, .int .u8 6, .string ⟨#[]⟩, .slice none 0 0, .slice (some ⟨w2.heap.size, 0, none⟩) 2 2] 50)) (fun _ => True) := fun e he => by
    simp only [List.mem_cons, List.mem_nil_iff, or_false] at he
    rcases he with rfl | rfl
    · exact ⟨H5.out.1.l, H5.out.1.f, HK.out.1, HK.out.2.1, by show (2 : Nat) ≤ _; decide⟩
    · exact ⟨HS.nil _ _ _, H5.out.2, by show (6 : Nat) < 256; decide, by show (0 : Nat) ≤ _; decide, by show (5 : Nat) ≤ _; decide⟩
  refine (HM.out _ _ _ _ rfl H5.out.1.below L5 hfields).mono ?_
  rintro e w6 ⟨v2, u2, rfl, hl2, hf2, hB6⟩
  have H6 := Lib.hid (H5.out.1.on hB6)
  have hs5 := H5.out.1.size
  obtain ⟨p2, c2, rfl, -⟩ := hl2.len
  obtain ⟨q2, d2, rfl, -⟩ := hf2.len
  clear L5 hfields hB5 hB6 H4 H3 x0 x1 x2 x3
  generalize (w3.alloc (.cells #[.int .u8 6, .string ⟨#[]⟩, .slice none 0 0, .slice (some ⟨w2.heap.size, 0, none⟩) 2 2] 25)).alloc (.cells #[.string ⟨#[105, 100]⟩, .int .u8 k, .string x, .slice p l.len c, .slice q f.len d, .string ⟨#[101, 114, 114, 111, 114]⟩, .int .u8 6, .string ⟨#[]⟩, .slice none 0 0, .slice (some ⟨w2.heap.size, 0, none⟩) 2 2] 50) = w5 at *
  obtain ⟨y0, y1, y2, y3⟩ := H6.out.b1.box
  have f1 := H6.out.b1.free
  go_wp2_with fail
  obtain ⟨g1, g2, g3⟩ := H6.out.b1.all (.int .u8 6) (.string ⟨#[]⟩) (.slice p2 V.T.nil.len c2) (.slice q2 (treeOf [verF, idF k x (.slice p l.len c) (.slice q f.len d) l f, errF (.slice (some ⟨w2.heap.size, 0, none⟩) 2 2) n F]).len d2)
  have hw3 := set4_else w6 (w.heap.size + 1) (.int .u8 6) (.string ⟨#[]⟩) (.slice p2 V.T.nil.len c2) (.slice q2 (treeOf [verF, idF k x (.slice p l.len c) (.slice q f.len d) l f, errF (.slice (some ⟨w2.heap.size, 0, none⟩) 2 2) n F]).len d2)
  have g3' := g3 w.heap.size (Nat.le_succ _)
  clear y0 y1 y2 y3 f1
  generalize (((w6.setCell ⟨w.heap.size + 1, 0, none⟩ (.int .u8 6)).setCell ⟨w.heap.size + 1, 1, none⟩ (.string ⟨#[]⟩)).setCell ⟨w.heap.size + 1, 2, none⟩ (.slice p2 V.T.nil.len c2)).setCell ⟨w.heap.size + 1, 3, none⟩ (.slice q2 (treeOf [verF, idF k x (.slice p l.len c) (.slice q f.len d) l f, errF (.slice (some ⟨w2.heap.size, 0, none⟩) 2 2) n F]).len d2) = w7 at *
  obtain ⟨y0, y1, y2, y3⟩ := g1.box
  have keep : ∀ b, w5.heap.size ≤ b → b < w6.heap.size → w7.heap[b]? = w6.heap[b]? := fun b hb _ => hw3 b (by omega)
  refine bodyPost_ret (v := .agg #[.int .u8 6, .string ⟨#[]⟩, .slice p2 V.T.nil.len c2, .slice q2 (treeOf [verF, idF k x (.slice p l.len c) (.slice q f.len d) l f, errF (.slice (some ⟨w2.heap.size, 0, none⟩) 2 2) n F]).len d2]) (by simp [results, Tryd.results14, go_sem, y0, y1, y2, y3]) rfl ?_
  exact ⟨_, _, rfl, hl2.fre (fun b hb => by omega) keep, hf2.fre (fun b hb => by omega) keep, H6.out.below.trans g3'⟩
end Go.Proofs.YtepjomdjkoaofaaDoor
