/- What lists are made of. Conditions: none. -/
import Derived.Test.YtbkciiogkgndiaaGreatDoorMB04
import Derived.Test.YtbkciiogkgndiaaGreatDoorMB07
import Derived.Test.YtbkciiogkgndiaaGreatDoorMB02
import Derived.Laws.MakeOwn
import Derived.Deep.AppendLies
namespace Go.Proofs.YtbkciiogkgndiaaGreatDoor
open Go Go.RowKit Go.Lib

def StrsLie (w : World) (b : Nat) (l : List ByteArray) : Prop := ∀ j s, l[j]? = some s → w.cell? ⟨b, j, none⟩ = some (.string s)
def txT : List ByteArray → V.T
  | [] => .nil
  | s :: r => .cons ⟨#[]⟩ 4 (U.fixS s) .nil .nil (txT r)
theorem txT_len (l : List ByteArray) : (txT l).len = l.length := by
  induction l with
  | nil => rfl
  | cons s r ih => show (txT r).len + 1 = _; rw [ih]; rfl
theorem txT_drop : ∀ (l : List ByteArray) (i : Nat) (s : ByteArray), l[i]? = some s → (txT l).drop i = .cons ⟨#[]⟩ 4 (U.fixS s) .nil .nil (txT (l.drop (i + 1)))
  | [], _, _, h => by simp at h
  | s' :: r, 0, s, h => by
    simp at h; subst h
    rfl
  | s' :: r, i + 1, s, h => txT_drop r i s (by simpa using h)
theorem fix_fit {s : ByteArray} (h : s.size ≤ 1000000000000) : Fit ⟨#[]⟩ 4 (U.fixS s) := ⟨by decide, by have := U.fix_size s; omega, Nat.zero_le _⟩
/-- a list is handed back -/
def ListR (t : V.T) (w : World) (e : Ending) (w' : World) : Prop :=
  ∃ v, e = .returned (.agg #[.int .u8 5, .string ⟨#[]⟩, v, .slice none 0 0]) ∧ HS w' (Fre w.heap.size w') 0 v t ∧ Below w.heap.size w w'
/-- an empty value's box, and a row under way behind it -/
structure LsSt (w : World) (b g : Nat) (t : V.T) (i : Nat) (cur : Array Value) (W : World) : Prop where
  ca : CaSt w 25 0 g t i cur W
  box : Blk4 W b 25 (.int .u8 0) (.string ⟨#[]⟩) (.slice none 0 0) (.slice none 0 0)
  lt : b < w.heap.size
theorem LsSt.step {w wr w1 : World} {b g : Nat} {t : V.T} {i : Nat} {cur : Array Value} {nm : ByteArray} {k : Nat} {x : ByteArray} {l f tl : V.T} {v2 u2 : Value}
    (h : LsSt w b g t i cur wr) (hi : i < t.len) (hd : t.drop i = .cons nm k x l f tl) (hnm : nm = ⟨#[]⟩) (hk : Fit nm k x) (hB : Below wr.heap.size wr w1)
    (hl : HS w1 (Fre wr.heap.size w1) 0 v2 l) (hf : HS w1 (Fre wr.heap.size w1) 1 u2 f) :
    LsSt w b g t (i + 1) ((((cur.setIfInBounds (i * 4) (.int .u8 k)).setIfInBounds (i * 4 + 1) (.string x)).setIfInBounds (i * 4 + 2) v2).setIfInBounds (i * 4 + 3) u2)
      ((((w1.setCell ⟨g, i * 4, none⟩ (.int .u8 k)).setCell ⟨g, i * 4 + 1, none⟩ (.string x)).setCell ⟨g, i * 4 + 2, none⟩ v2).setCell ⟨g, i * 4 + 3, none⟩ u2) := by
  have hne : b ≠ g := by have := h.lt; have := h.ca.base; omega
  exact ⟨h.ca.step0 hi hd hnm hk hB hl hf, h.box.same ((Below.heap_setCell _ _ _ b hne).trans ((Below.heap_setCell _ _ _ b hne).trans ((Below.heap_setCell _ _ _ b hne).trans ((Below.heap_setCell _ _ _ b hne).trans (hB.block b h.box.lt))))), h.lt⟩

end Go.Proofs.YtbkciiogkgndiaaGreatDoor

namespace Go.Proofs.YtbkciiogkgndiaaGreatDoor
open Go Go.RowKit Go.Lib

def nmT : List Int → V.T
  | [] => .nil
  | n :: r => .cons ⟨#[]⟩ 3 ⟨(Lib.itoa n).toArray⟩ .nil .nil (nmT r)
theorem nmT_len (l : List Int) : (nmT l).len = l.length := by
  induction l with
  | nil => rfl
  | cons s r ih => show (nmT r).len + 1 = _; rw [ih]; rfl
theorem nmT_drop : ∀ (l : List Int) (i : Nat) (n : Int), l[i]? = some n → (nmT l).drop i = .cons ⟨#[]⟩ 3 ⟨(Lib.itoa n).toArray⟩ .nil .nil (nmT (l.drop (i + 1)))
  | [], _, _, h => by simp at h
  | s' :: r, 0, s, h => by
    simp at h; subst h
    rfl
  | s' :: r, i + 1, s, h => nmT_drop r i s (by simpa using h)
set_option maxRecDepth 100000 in
set_option maxHeartbeats 1000000 in
theorem listInt_some (b o c : Nat) (l : List Int) (w : World) (hc : l.length ≤ c ∧ c ≤ 9223372036854775807) (hn : l.length ≤ 1000000) (hb : l ≠ [] → b < w.heap.size) (hS : ∀ j n, l[j]? = some n → w.cell? ⟨b, o + j, none⟩ = some (.int .i64 n)) (hz : ∀ n ∈ l, -9223372036854775808 ≤ n ∧ n ≤ 9223372036854775807) (hP : PowTab w) :
    Calls Tryz.prog 155 #[.slice (some ⟨b, o, none⟩) l.length c, .func (.func 102) #[] #[]] w (ListR (nmT l) w) := by
  have HTx := Lib.hid (fun W (hB : Below w.heap.size w W) (n : Int) (h : -9223372036854775808 ≤ n ∧ n ≤ 9223372036854775807) => numberJ_any n h.1 h.2 W (fun w' hB' => pow_below hP (hB.trans (hB'.mono hB.size))))
  have HEl := Lib.hid (fun i (hi : i < l.length) => (show ∃ n : Int, (-9223372036854775808 ≤ n ∧ n ≤ 9223372036854775807) ∧ (∀ W, Below w.heap.size w W → W.cell? ⟨b, o + i, none⟩ = some (.int .i64 n)) ∧ (nmT l).drop i = .cons ⟨#[]⟩ 3 ⟨(Lib.itoa n).toArray⟩ .nil .nil (nmT (l.drop (i + 1))) from
    ⟨l[i], hz l[i] (List.getElem_mem hi), fun W hB => (hB.cell (p := ⟨b, o + i, none⟩) (hb (by intro e; subst e; simp at hi))).trans (hS i _ (List.getElem?_eq_getElem hi)), nmT_drop l i l[i] (List.getElem?_eq_getElem hi)⟩))
  have HE := Lib.hid (nmT_len l)
  generalize en : l.length = na at *
  have HN := Lib.hid en
  obtain ⟨i0, hi0, hz0, hz1, hz2⟩ := info_parts infoValue
  obtain ⟨M, hM⟩ : ∃ M, M = madeCells (Value.agg #[.int .u8 0, .string ⟨#[]⟩, .slice none 0 0, .slice none 0 0]).cells (((na : Nat) : Int).toNat * i0.size) := ⟨_, rfl⟩
  have hMs : M.size = na * 4 := by rw [hM, size_madeCells, hz1, Int.toNat_natCast]
  have hmk : ∀ W : World, (Instr.makeSlice 22 (.int .i64 (na : Int)) (.int .i64 (na : Int))).run Tryz.prog W = .ok (.slice (some ⟨W.heap.size, 0, none⟩) na na) (W.alloc (.cells M 25)) := fun W => by
    have h := run_make (P := Tryz.prog) W 22 25 i0 _ Tryz.underlying22 hi0 hz0 .i64 .i64 (na : Int) (na : Int) (by omega) (by omega) (by rw [hz2]; omega) (by omega)
    rw [← hM] at h
    simpa using h
  have hB0 := (Below.refl w.heap.size w).alloc (Nat.le_refl _) (.cells #[.int .u8 0, .string ⟨#[]⟩, .slice none 0 0, .slice none 0 0] 25)
  have b0 : Blk4 (w.alloc (.cells #[.int .u8 0, .string ⟨#[]⟩, .slice none 0 0, .slice none 0 0] 25)) w.heap.size 25 _ _ _ _ := heap_alloc_new _ _
  have hz0 := World.size_alloc w (.cells #[.int .u8 0, .string ⟨#[]⟩, .slice none 0 0, .slice none 0 0] 25)
  have HB := Lib.hid (And.intro b0 (And.intro hB0 hz0))
  clear hM hS hz hP en hB0 b0 hz0 hb
  go_enter Tryz.func155, Tryz.ntmps155
  go_wp2_with fail
  generalize w.alloc (.cells #[.int .u8 0, .string ⟨#[]⟩, .slice none 0 0, .slice none 0 0] 25) = w1 at *
  have hB1 := (Below.refl w1.heap.size w1).alloc (Nat.le_refl _) (.cells M 25)
  have hg : w1.heap.size = w.heap.size + 1 := HB.out.2.2
  have HC := Lib.hid (show LsSt w1 w.heap.size (w.heap.size + 1) (nmT l) 0 M (w1.alloc (.cells M 25)) from
    ⟨⟨hB1, hg ▸ heap_alloc_new _ _, by rw [hMs, HE.out], Nat.le_of_eq hg, by rw [Nat.zero_mul, List.take_zero]; exact RP.nil _ _ _ _⟩, HB.out.1.same (hB1.block _ HB.out.1.lt), HB.out.1.lt⟩)
  generalize w1.alloc (.cells M 25) = W0 at *
  have HG := Lib.hid hg
  clear hB1 hMs hmk hg
  go_loopw [13] (fun p wr => ∃ i : Nat, p = .int .i64 i ∧ i ≤ na ∧ Hid (∃ cur, LsSt w1 w.heap.size (w.heap.size + 1) (nmT l) i cur wr)) (fun p _ => na - (RowKit.intOf p).toNat)
  case atStart => exact ⟨0, rfl, Nat.zero_le _, Lib.hid ⟨_, HC.out⟩⟩
  case round =>
    obtain ⟨i, rfl, hi, HR⟩ := hrel
    obtain ⟨cur, hR⟩ := HR.out
    by_cases hlt : i < na
    · have HQ := Lib.hid hR
      clear HR hR
      have hbw := HB.out.2.1.trans (HQ.out.ca.below.mono HB.out.2.1.size)
      obtain ⟨n, z1', e1', d1'⟩ := HEl.out i hlt
      have e1 := e1' wr hbw
      have D1 := Lib.hid d1'
      have Z1 := Lib.hid z1'
      have HL := Lib.hid hlt
      clear z1' e1' d1'
      have HW := Lib.hid hbw
      have hrow := HQ.out.ca.row
      have hgl := hrow.lt
      have hcs : i * 4 + 4 ≤ cur.size := by rw [HQ.out.ca.size, HE.out]; have := HL.out; omega
      clear hbw
      go_wp2_with fail
      go_at_call 102
      (with_reducible refine (HTx.out _ HW.out n Z1.out).mono ?_)
      rintro e w2 ⟨rfl, hB2⟩
      have hr1 := hrow.same (hB2.block _ hgl)
      have q0 := hr1.cell (j := i * 4) (by omega)
      have q1 := hr1.cell (j := i * 4 + 1) (by omega)
      have q2 := hr1.cell (j := i * 4 + 2) (by omega)
      have q3 := hr1.cell (j := i * 4 + 3) (by omega)
      have z0 := hr1.free (i * 4)
      have z1 := hr1.free (i * 4 + 1)
      have z2 := hr1.free (i * 4 + 2)
      have z3 := hr1.free (i * 4 + 3)
      have HB2 := Lib.hid hB2
      clear hB2 hr1
      go_wp2_with fail
      go_roundw
      case rel => exact ⟨i + 1, by go_num, HL.out, Lib.hid ⟨_, HQ.out.step (by rw [HE.out]; exact HL.out) D1.out rfl (num_fit n (Nat.zero_le _) Z1.out) HB2.out (HS.nil _ _ _) (HS.nil _ _ _)⟩⟩
      case measure => have := HL.out; simp [RowKit.intOf]; omega
    · obtain rfl : i = na := by omega
      clear HR
      have hw := CaSt.whole (by rw [HE.out]; exact hR.ca) (by rw [HE.out]; omega)
      rw [HE.out] at hw
      have hb2 := hR.box
      have HF := Lib.hid (And.intro hw (And.intro hb2 (And.intro hR.ca.below hR.lt)))
      obtain ⟨x0, x1, x2, x3⟩ := hb2.box
      have f0 := hb2.free 0
      have f1 := hb2.free 1
      have f2 := hb2.free 2
      have f3 := hb2.free 3
      clear hw hR hb2
      go_wp2_with fail
      obtain ⟨g1, g2, g3⟩ := HF.out.2.1.all (.int .u8 5) (.string ⟨#[]⟩) (.slice (some ⟨w.heap.size + 1, 0, none⟩) i i) (.slice none 0 0)
      have hw3 := set4_else wr w.heap.size (.int .u8 5) (.string ⟨#[]⟩) (.slice (some ⟨w.heap.size + 1, 0, none⟩) i i) (.slice none 0 0)
      have g3' := g3 w.heap.size (Nat.le_refl _)
      clear x0 x1 x2 x3 f0 f1 f2 f3
      generalize (((wr.setCell ⟨w.heap.size, 0, none⟩ (.int .u8 5)).setCell ⟨w.heap.size, 1, none⟩ (.string ⟨#[]⟩)).setCell ⟨w.heap.size, 2, none⟩ (.slice (some ⟨w.heap.size + 1, 0, none⟩) i i)).setCell ⟨w.heap.size, 3, none⟩ (.slice none 0 0) = w3 at *
      obtain ⟨x0, x1, x2, x3⟩ := g1.box
      refine bodyPost_ret (v := .agg #[.int .u8 5, .string ⟨#[]⟩, .slice (some ⟨w.heap.size + 1, 0, none⟩) i i, .slice none 0 0]) (by simp [results, Tryz.results155, go_sem, x0, x1, x2, x3]) rfl ?_
      have hlt := HF.out.2.2.2
      have hg := HG.out
      exact ⟨_, rfl, HF.out.1.fre (fun b hb => by omega) (fun b hb _ => hw3 b (by omega)), (HB.out.2.1.trans (HF.out.2.2.1.mono HB.out.2.1.size)).trans g3'⟩
end Go.Proofs.YtbkciiogkgndiaaGreatDoor

namespace Go.Proofs.YtbkciiogkgndiaaGreatDoor
open Go Go.RowKit Go.Lib

/-- a field that has its name alone -/
def zeroE (nm : ByteArray) : Fe := ⟨nm, 0, ⟨#[]⟩, .slice none 0 0, .slice none 0 0, .nil, .nil⟩
theorem zeroE_ok {nm : ByteArray} (w : World) (A : Nat → Prop) (h : nm.size ≤ 140737488355328) : (zeroE nm).Ok w A := ⟨HS.nil _ _ _, HS.nil _ _ _, by show (0 : Nat) < 256; decide, Nat.zero_le _, h⟩
/-- parts as they lie -/
def IfsLie (w : World) (b : Nat) (ps : List Pt) : Prop := ∀ j u, (ifs ps)[j]? = some u → w.cell? ⟨b, j, none⟩ = some u
theorem IfsLie.below {w w' : World} {b : Nat} {ps : List Pt} (h : IfsLie w b ps) (hb : b < w.heap.size) (hB : Below w.heap.size w w') : IfsLie w' b ps := fun j u hu => (hB.cell (p := ⟨b, j, none⟩) hb).trans (h j u hu)
theorem set_app (A L : List Value) (k : Nat) (v : Value) : (A ++ L).set (A.length + k) v = A ++ L.set k v := by
  rw [List.set_append_right _ _ (Nat.le_add_right ..), Nat.add_sub_cancel_left]
theorem set_last4 (A : List Value) (n a b c d a' b' c' d' : Value) : ((((A ++ [n, a, b, c, d]).set (A.length + 1) a').set (A.length + 1 + 1) b').set (A.length + 1 + 2) c').set (A.length + 1 + 3) d' = A ++ [n, a', b', c', d'] := by
  rw [set_app, show A.length + 1 + 1 = A.length + 2 from rfl, set_app, show A.length + 1 + 2 = A.length + 3 from rfl, set_app, show A.length + 1 + 3 = A.length + 4 from rfl, set_app]
  rfl
/-- the box of the answer, the parts, and the fields so far -/
structure ObSt (w : World) (B b : Nat) (ps : List Pt) (fs : List Fe) (v : Value) (A : Nat → Prop) (W : World) : Prop where
  below : Below w.heap.size w W
  box : Blk4 W B 25 (.int .u8 0) (.string ⟨#[]⟩) (.slice none 0 0) (.slice none 0 0)
  lt : B < w.heap.size
  own : W.ownsRow w.heap.size 100 5 v fs.length (cellsOf fs)
  ok : ∀ e ∈ fs, e.Ok W A
  parts : ∀ p ∈ ps, p.Ok W A
  lie : IfsLie W b ps
  lb : b < w.heap.size
  aw : ∀ k, A k → k < w.heap.size
def ObjR (t : V.T) (A : Nat → Prop) (w : World) (e : Ending) (w' : World) : Prop :=
  ∃ u, e = .returned (.agg #[.int .u8 6, .string ⟨#[]⟩, .slice none 0 0, u]) ∧ HS w' (fun b => A b ∨ Fre w.heap.size w' b) 1 u t ∧ Below w.heap.size w w'
theorem ObSt.on {w : World} {B b : Nat} {ps : List Pt} {fs : List Fe} {v : Value} {A : Nat → Prop} {W W' : World} (h : ObSt w B b ps fs v A W) (hB : Below W.heap.size W W') : ObSt w B b ps fs v A W' :=
  ⟨h.below.trans (hB.mono h.below.size), h.box.same (hB.block _ h.box.lt), h.lt, ownsRow_below h.own hB, fun e he => (h.ok e he).below hB, fun p hp => (h.parts p hp).below hB, h.lie.below (Nat.lt_of_lt_of_le h.lb h.below.size) hB, h.lb, h.aw⟩
/-- behind an append -/
theorem ObSt.grow {w : World} {B b : Nat} {ps : List Pt} {fs : List Fe} {v v' : Value} {A : Nat → Prop} {W W' : World} (h : ObSt w B b ps fs v A W) (e : Fe) (he : ∀ w A, e.Ok w A) (hg : W.grownBy W' v.ownBlock) (ho : W'.ownsRow w.heap.size 100 5 v' (fs.length + 1) (cellsOf fs ++ cellsOf [e])) : ObSt w B b ps (fs ++ [e]) v' A W' := by
  have hlt := h.own.lt
  have hne : ∀ k, k < w.heap.size → some k ≠ v.ownBlock := fun k hk e => by have := hlt k e.symm; omega
  refine ⟨h.below.grown hg h.below.size (fun k hk => (hlt k hk).1), h.box.same (hg.block _ h.box.lt (hne _ h.lt)), h.lt, ?_, fun e' he' => ?_, fun p hp => (h.parts p hp).imp (fun _ a _ => a) (fun k hk hkl => hg.block k hkl (hne k (h.aw k hk))), fun j u hu => ?_, h.lb, h.aw⟩
  · rw [List.length_append, cellsOf_append]; exact ho
  · rcases List.mem_append.1 he' with h1 | h1
    · exact (h.ok e' h1).imp (fun _ a _ => a) (fun k hk hkl => hg.block k hkl (hne k (h.aw k hk)))
    · obtain rfl := List.mem_singleton.1 h1
      exact he _ _
  · exact (World.cell?_of_block (w := W) (w' := W') (a := ⟨b, j, none⟩) (hg.block b (Nat.lt_of_lt_of_le h.lb h.below.size) (hne b h.lb))).trans (h.lie j u hu)
/-- the last field's value is stored -/
theorem ObSt.store {w : World} {B b g cap : Nat} {ps : List Pt} {fs : List Fe} {nm : ByteArray} {A : Nat → Prop} {W : World} (h : ObSt w B b ps (fs ++ [zeroE nm]) (.slice (some ⟨g, 0, none⟩) (fs.length + 1) cap) A W) (e : Fe) (hnm : e.nm = nm) (he : e.Ok W A) :
    ObSt w B b ps (fs ++ [e]) (.slice (some ⟨g, 0, none⟩) (fs.length + 1) cap) A ((((W.setCell ⟨g, fs.length * 5 + 1, none⟩ (.int .u8 e.k)).setCell ⟨g, fs.length * 5 + 1 + 1, none⟩ (.string e.x)).setCell ⟨g, fs.length * 5 + 1 + 2, none⟩ e.v).setCell ⟨g, fs.length * 5 + 1 + 3, none⟩ e.u) := by
  have hown : W.ownsRow w.heap.size 100 5 (.slice (some ⟨g, 0, none⟩) (fs.length + 1) cap) (fs.length + 1) (cellsOf fs ++ [.string nm, .int .u8 0, .string ⟨#[]⟩, .slice none 0 0, .slice none 0 0]) := by
    have := h.own
    rw [List.length_append, cellsOf_append] at this
    exact this
  obtain ⟨o1, g1⟩ := hown.stored (fs.length * 5 + 1) (.int .u8 e.k)
  obtain ⟨o2, g2⟩ := o1.stored (fs.length * 5 + 1 + 1) (.string e.x)
  obtain ⟨o3, g3⟩ := o2.stored (fs.length * 5 + 1 + 2) e.v
  obtain ⟨o4, g4⟩ := o3.stored (fs.length * 5 + 1 + 3) e.u
  have hs := set_last4 (cellsOf fs) (.string nm) (.int .u8 0) (.string ⟨#[]⟩) (.slice none 0 0) (.slice none 0 0) (.int .u8 e.k) (.string e.x) e.v e.u
  rw [cellsOf_len] at hs
  rw [hs] at o4
  have hg : w.heap.size ≤ g := (hown.lt g rfl).1
  have he' : ∀ k, k < w.heap.size → ((((W.setCell ⟨g, fs.length * 5 + 1, none⟩ (.int .u8 e.k)).setCell ⟨g, fs.length * 5 + 1 + 1, none⟩ (.string e.x)).setCell ⟨g, fs.length * 5 + 1 + 2, none⟩ e.v).setCell ⟨g, fs.length * 5 + 1 + 3, none⟩ e.u).heap[k]? = W.heap[k]? := fun k hk =>
    (Below.heap_setCell _ _ _ k (by show k ≠ g; omega)).trans ((Below.heap_setCell _ _ _ k (by show k ≠ g; omega)).trans ((Below.heap_setCell _ _ _ k (by show k ≠ g; omega)).trans (Below.heap_setCell _ _ _ k (by show k ≠ g; omega))))
  refine ⟨(((h.below.setCell hg _).setCell hg _).setCell hg _).setCell hg _, h.box.same (he' _ h.lt), h.lt, ?_, fun e' h' => ?_, fun p hp => (h.parts p hp).imp (fun _ a _ => a) (fun k hk _ => he' k (h.aw k hk)), fun j u hu => ?_, h.lb, h.aw⟩
  · rw [List.length_append, cellsOf_append]
    rw [← hnm] at o4
    exact o4
  · rcases List.mem_append.1 h' with h1 | h1
    · exact (h.ok e' (List.mem_append_left _ h1)).imp (fun _ a _ => a) (fun k hk _ => he' k (h.aw k hk))
    · obtain rfl := List.mem_singleton.1 h1
      exact he.imp (fun _ a _ => a) (fun k hk _ => he' k (h.aw k hk))
  · exact (World.cell?_of_block (w := W) (a := ⟨b, j, none⟩) (he' b h.lb)).trans (h.lie j u hu)
theorem fes_take {ps : List Pt} {j : Nat} {p : Pt} (h : ps[j]? = some p) : (fes ps).take (j + 1) = (fes ps).take j ++ [p.e] := by
  have hj : j < ps.length := (List.getElem?_eq_some_iff.1 h).1
  unfold fes
  rw [List.take_succ_eq_append_getElem (by simpa using hj)]
  have : ps[j] = p := by
    rw [List.getElem?_eq_getElem hj] at h
    exact Option.some.inj h
  simp [this]
theorem fes_len {ps : List Pt} {j : Nat} (h : j ≤ ps.length) : ((fes ps).take j).length = j := by
  unfold fes; simp; omega
end Go.Proofs.YtbkciiogkgndiaaGreatDoor
