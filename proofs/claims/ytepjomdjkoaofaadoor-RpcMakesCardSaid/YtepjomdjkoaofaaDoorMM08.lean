/- The statement's own spoil: whatever it writes over is the value's own. Conditions: the value's blocks may be written. -/
import Derived.Test.YtepjomdjkoaofaaDoorMM07
import Derived.Deep.DeepCutAuto
import Derived.Deep.CutBlock
import Derived.Test.YtepjomdjkoaofaaDoorMM04
namespace Go.Proofs.YtepjomdjkoaofaaDoor
open Go Go.RowKit Go.Lib

/-- a block of the value's own -/
def SA (lo hi : Nat) (w : World) (b : Nat) : Prop := lo ≤ b ∧ b < hi ∧ ∀ j, w.frozen? ⟨b, j, none⟩ = false
theorem SA.sp {lo hi : Nat} {w w' : World} (hs : Sp lo hi w w') (b : Nat) (h : SA lo hi w b) (hb : b < w.heap.size) : SA lo hi w' b := ⟨h.1, h.2.1, fun j => (hs.fro b j hb).trans (h.2.2 j)⟩
def SpR (lo hi : Nat) (w : World) (e : Ending) (w' : World) : Prop := e = .returned (.tuple #[]) ∧ Sp lo hi w w'
/-- spoil serves values n levels deep -/
def SpoilOk (n : Nat) : Prop := ∀ (k : Nat) (x : ByteArray) (v u : Value) (lo hi : Nat) (w : World), lo ≤ hi → hi ≤ w.heap.size → Sd w (SA lo hi w) n 0 v → Sd w (SA lo hi w) n 1 u →
  Calls Tryd.prog 19 #[.agg #[.int .u8 k, .string x, v, u]] w (SpR lo hi w)
/-- the element at hand, and what spoil does to it -/
def ElQ (lo hi : Nat) (w : World) (d : Nat) (p : Option Addr) (m : Nat) : Prop := ∀ (W : World), Sp lo hi w W → ∀ i, i < m → ∃ b o, p = some ⟨b, o, none⟩ ∧ SE W (SA lo hi W) (fun d' v => ∃ q c e, v = .slice q c e ∧ True) d b (o + i * (4 + d)) ∧
  ∀ (k : Nat) (x : ByteArray) (v u : Value), W.cell? ⟨b, o + i * (4 + d) + d + 2, none⟩ = some v → W.cell? ⟨b, o + i * (4 + d) + d + 3, none⟩ = some u → Calls Tryd.prog 19 #[.agg #[.int .u8 k, .string x, v, u]] W (SpR lo hi W)
theorem elQ {n lo hi : Nat} {w : World} {d : Nat} {p : Option Addr} {m c : Nat} (ih : SpoilOk n) (hlo : lo ≤ hi) (hhi : hi ≤ w.heap.size) (h : Sd w (SA lo hi w) (n + 1) d (.slice p m c)) : ElQ lo hi w d p m := by
  intro W hW i hi'
  have h2 := Sd.sp hW (SA.sp hW) _ _ _ h
  obtain ⟨p', m', c', e, h1, h2', h3, h4⟩ := h2
  cases e
  obtain ⟨b, o, rfl, h5⟩ := h4 (by omega)
  have s := h5 i hi'
  refine ⟨b, o, rfl, ⟨s.mem, s.name, s.kind, s.text, ?_, ?_⟩, fun k x v u hv hu => ?_⟩
  · obtain ⟨v, h6, h7⟩ := s.list
    obtain ⟨q, c, e, rfl, _⟩ := h7.shape
    exact ⟨_, h6, q, c, e, rfl, trivial⟩
  · obtain ⟨v, h6, h7⟩ := s.fields
    obtain ⟨q, c, e, rfl, _⟩ := h7.shape
    exact ⟨_, h6, q, c, e, rfl, trivial⟩
  · obtain ⟨v', h6, h7⟩ := s.list
    obtain ⟨u', h8, h9⟩ := s.fields
    rw [hv] at h6
    rw [hu] at h8
    cases h6
    cases h8
    exact ih k x _ _ lo hi W hlo (Nat.le_trans hhi hW.below.size) h7 h9
theorem elQ_zero {lo hi : Nat} {w : World} {d : Nat} (p : Option Addr) : ElQ lo hi w d p 0 := fun _ _ _ h => absurd h (Nat.not_lt_zero _)

set_option maxRecDepth 100000 in
set_option maxHeartbeats 1000000 in
theorem spoil_walk (ka : Nat) (xa : ByteArray) (pa : Option Addr) (na ca : Nat) (qa : Option Addr) (ma da : Nat) (lo hi : Nat) (w : World) (hlo : lo ≤ hi) (hhi : hi ≤ w.heap.size) (hna : na ≤ 2000000000000) (hnc : na ≤ ca) (hca : ca ≤ 9223372036854775807) (hma : ma ≤ 2000000000000) (hmd : ma ≤ da) (hda : da ≤ 9223372036854775807)
    (hl : ElQ lo hi w 0 pa na) (hf : ElQ lo hi w 1 qa ma) :
    Calls Tryd.prog 19 #[.agg #[.int .u8 ka, .string xa, .slice pa na ca, .slice qa ma da]] w (SpR lo hi w) := by
  have HL := Lib.hid hl
  have HF := Lib.hid hf
  have HH := Lib.hid (And.intro hlo hhi)
  clear hl hf hlo hhi
  go_enter Tryd.func19, Tryd.ntmps19
  go_wp2_with fail
  have hx : Box4 (w.alloc (.cells #[.int .u8 ka, .string xa, .slice pa na ca, .slice qa ma da] 25)) w.heap.size _ _ _ _ := Box4.mk' (heap_alloc_new w (.cells #[.int .u8 ka, .string xa, .slice pa na ca, .slice qa ma da] 25))
  have hw := Sp.of_below (lo := lo) (hi := hi) ((Below.refl w.heap.size w).alloc (Nat.le_refl _) (.cells #[.int .u8 ka, .string xa, .slice pa na ca, .slice qa ma da] 25)) (by have := HH.out; omega)
  have hz := World.size_alloc w (.cells #[.int .u8 ka, .string xa, .slice pa na ca, .slice qa ma da] 25)
  generalize w.alloc (.cells #[.int .u8 ka, .string xa, .slice pa na ca, .slice qa ma da] 25) = W0 at *
  have bx : ∀ W, Sp lo hi W0 W → Box4 W w.heap.size (.int .u8 ka) (.string xa) (.slice pa na ca) (.slice qa ma da) := fun W hW => by
    have hk := hW.keep w.heap.size (by have := HH.out; omega) (by omega)
    have hc : ∀ j, W.cell? ⟨w.heap.size, j, none⟩ = W0.cell? ⟨w.heap.size, j, none⟩ := fun j => World.cell?_of_block (w := W0) (w' := W) (a := ⟨w.heap.size, j, none⟩) hk
    exact ⟨(hc 0).trans hx.1, (hc 1).trans hx.2.1, (hc 2).trans hx.2.2.1, (hc 3).trans hx.2.2.2⟩
  have BX := Lib.hid bx
  have HW := Lib.hid hw
  clear bx hx hw hz
  go_loopw [2] (fun p wr => ∃ i : Nat, p = .int .i64 i ∧ i ≤ na ∧ Hid (Sp lo hi W0 wr)) (fun p _ => na - (RowKit.intOf p).toNat)
  case atStart => exact ⟨0, rfl, Nat.zero_le _, Lib.hid (Sp.refl _ _ _)⟩
  case round =>
    obtain ⟨i, rfl, hi', HR⟩ := hrel
    obtain ⟨c1, c2, c3, c4⟩ := BX.out _ HR.out
    have HQ := Lib.hid HR.out
    clear HR c1 c2
    by_cases hlt : i < na
    · obtain ⟨b, o, rfl, s, hc⟩ := HL.out wr (HW.out.trans HQ.out) i hlt
      obtain ⟨k1, e1⟩ := s.kind
      obtain ⟨x1, e2⟩ := s.text
      obtain ⟨_, e3, p1, n1, d1, rfl, -⟩ := s.list
      obtain ⟨_, e4, p2, n2, d2, rfl, -⟩ := s.fields
      have hcc := hc k1 x1 _ _ e3 e4
      simp only [Nat.add_zero] at e1 e2 e3 e4
      have HS := Lib.hid (And.intro s.mem hlt)
      clear s hc
      go_wp2_with fail
      refine hcc.mono ?_
      rintro e w1 ⟨rfl, hs1⟩
      have HQ1 := Lib.hid (HQ.out.trans hs1)
      obtain ⟨c1, c2, c3, c4⟩ := BX.out _ HQ1.out
      clear c1 c2 e1 e2 e3 e4 hcc
      obtain ⟨b', o', hbo, s, _⟩ := HL.out w1 (HW.out.trans HQ1.out) i HS.out.2
      cases hbo
      obtain ⟨k1, e1⟩ := s.kind
      obtain ⟨x1, e2⟩ := s.text
      obtain ⟨_, e3, p1, n1, d1, rfl, -⟩ := s.list
      obtain ⟨_, e4, p2, n2, d2, rfl, -⟩ := s.fields
      simp only [Nat.add_zero] at e1 e2 e3 e4
      have fr := s.mem.2.2
      have H4 := Lib.hid (Sp.set4 (s := ⟨#[115, 112, 111, 105, 108, 116]⟩) e1 e2 e3 e4 s.mem.1 s.mem.2.1)
      clear s hs1
      go_wp2_with fail
      go_roundw
      case rel => exact ⟨i + 1, by go_num, HS.out.2, Lib.hid (HQ1.out.trans H4.out)⟩
      case measure => have := HS.out.2; simp [RowKit.intOf]; omega
    · obtain rfl : i = na := by omega
      clear hi'
      go_wp2_with fail
      obtain ⟨wo, rfl⟩ : ∃ wo : World, wo = wr := ⟨_, rfl⟩
      clear c3 c4
      go_loopw [3] (fun p wr => ∃ i : Nat, p = .int .i64 i ∧ i ≤ ma ∧ Hid (Sp lo hi W0 wr)) (fun p _ => ma - (RowKit.intOf p).toNat)
      case atStart => exact ⟨0, rfl, Nat.zero_le _, Lib.hid HQ.out⟩
      case round =>
        obtain ⟨i, rfl, hi', HR⟩ := hrel
        obtain ⟨c1, c2, c3, c4⟩ := BX.out _ HR.out
        have HQ2 := Lib.hid HR.out
        clear HR c1 c2 HQ
        by_cases hlt : i < ma
        · obtain ⟨b, o, rfl, s, hc⟩ := HF.out wr (HW.out.trans HQ2.out) i hlt
          obtain ⟨k1, e1⟩ := s.kind
          obtain ⟨x1, e2⟩ := s.text
          obtain ⟨_, e3, p1, n1, d1, rfl, -⟩ := s.list
          obtain ⟨_, e4, p2, n2, d2, rfl, -⟩ := s.fields
          have hcc := hc k1 x1 _ _ e3 e4
          simp only [Nat.reduceAdd] at e1 e2 e3 e4
          have HS := Lib.hid (And.intro s.mem hlt)
          clear s hc
          go_wp2_with fail
          refine hcc.mono ?_
          rintro e w1 ⟨rfl, hs1⟩
          have HQ1 := Lib.hid (HQ2.out.trans hs1)
          obtain ⟨c1, c2, c3, c4⟩ := BX.out _ HQ1.out
          clear c1 c2 e1 e2 e3 e4 hcc
          obtain ⟨b', o', hbo, s, _⟩ := HF.out w1 (HW.out.trans HQ1.out) i HS.out.2
          cases hbo
          obtain ⟨nm, e0⟩ := s.name rfl
          simp only [Nat.reduceAdd] at e0
          have fr := s.mem.2.2
          have H4 := Lib.hid (Sp.set (y := .string ⟨#[115, 112, 111, 105, 108, 116]⟩) e0 (.inr (.inl ⟨⟨_, rfl⟩, _, rfl⟩)) s.mem.1 s.mem.2.1)
          clear s hs1
          go_wp2_with fail
          go_roundw
          case rel => exact ⟨i + 1, by go_num, HS.out.2, Lib.hid (HQ1.out.trans H4.out)⟩
          case measure => have := HS.out.2; simp [RowKit.intOf]; omega
        · obtain rfl : i = ma := by omega
          go_wp2_with fail
          (try simp only [Exit.inBlock, Exit.then])
          first
            | refine bodyPost_end (results_none rfl _ _ _) rfl ?_
            | refine bodyPost_ret (results_none rfl _ _ _) rfl ?_
          exact ⟨rfl, HW.out.trans HQ2.out⟩
theorem spoil_any (n : Nat) : SpoilOk n := by
  induction n with
  | zero =>
    intro k x v u lo hi w hlo hhi h1 h2
    obtain ⟨p, c, rfl, hc⟩ := h1
    obtain ⟨q, d, rfl, hd⟩ := h2
    exact spoil_walk k x p 0 c q 0 d lo hi w hlo hhi (by decide) (Nat.zero_le _) hc (by decide) (Nat.zero_le _) hd (elQ_zero _) (elQ_zero _)
  | succ n ih =>
    intro k x v u lo hi w hlo hhi h1 h2
    obtain ⟨p, m, c, rfl, a1, a2, a3⟩ := h1.shape
    obtain ⟨q, m', c', rfl, b1, b2, b3⟩ := h2.shape
    exact spoil_walk k x p m c q m' c' lo hi w hlo hhi a1 a2 a3 b1 b2 b3 (elQ ih hlo hhi h1) (elQ ih hlo hhi h2)
end Go.Proofs.YtepjomdjkoaofaaDoor

namespace Go.Proofs.YtepjomdjkoaofaaDoor
open Go Go.RowKit Go.Lib

/-- a field: its name, its value as it lies, the value's trees -/
structure Fe where
  nm : ByteArray
  k : Nat
  x : ByteArray
  v : Value
  u : Value
  l : V.T
  f : V.T
def Fe.cells (e : Fe) : List Value := [.string e.nm, .int .u8 e.k, .string e.x, e.v, e.u]
def cellsOf : List Fe → List Value
  | [] => []
  | e :: r => .string e.nm :: .int .u8 e.k :: .string e.x :: e.v :: e.u :: cellsOf r
def treeOf : List Fe → V.T
  | [] => .nil
  | e :: r => .cons e.nm e.k e.x e.l e.f (treeOf r)
def Fe.Ok (w : World) (A : Nat → Prop) (e : Fe) : Prop := HS w A 0 e.v e.l ∧ HS w A 1 e.u e.f ∧ Fit e.nm e.k e.x
theorem cellsOf_append (a b : List Fe) : cellsOf (a ++ b) = cellsOf a ++ cellsOf b := by
  induction a with
  | nil => rfl
  | cons e r ih => simp [cellsOf, ih]
theorem cellsOf_len (a : List Fe) : (cellsOf a).length = a.length * 5 := by
  induction a with
  | nil => rfl
  | cons e r ih => simp [cellsOf, ih]; omega
theorem treeOf_len (a : List Fe) : (treeOf a).len = a.length := by
  induction a with
  | nil => rfl
  | cons e r ih => show (treeOf r).len + 1 = _; rw [ih]; rfl
theorem Fe.Ok.below {w w' : World} {A : Nat → Prop} {e : Fe} (h : e.Ok w A) (hB : Below w.heap.size w w') : e.Ok w' A := ⟨h.1.below hB, h.2.1.below hB, h.2.2⟩
theorem Fe.Ok.mono {w : World} {A A' : Nat → Prop} {e : Fe} (h : e.Ok w A) (hA : ∀ b, A b → b < w.heap.size → A' b) : e.Ok w A' := ⟨h.1.mono hA, h.2.1.mono hA, h.2.2⟩
theorem Fe.Ok.imp {w w' : World} {A A' : Nat → Prop} {e : Fe} (h : e.Ok w A) (hA : ∀ b, A b → b < w.heap.size → A' b) (hk : ∀ b, A b → b < w.heap.size → w'.heap[b]? = w.heap[b]?) : e.Ok w' A' := ⟨h.1.imp hA hk, h.2.1.imp hA hk, h.2.2⟩
theorem one_slice {p : Option Addr} {n c : Nat} : (Value.slice p n c).oneCell' = true := rfl
theorem cellsOf_one {w : World} {A : Nat → Prop} : ∀ (es : List Fe), (∀ e ∈ es, e.Ok w A) → ∀ u ∈ cellsOf es, u.oneCell' = true
  | [], _, _, h => by cases h
  | e :: r, ho, u, h => by
    obtain ⟨h1, h2, _⟩ := ho e (List.mem_cons_self ..)
    obtain ⟨p, c, e1, _⟩ := h1.len
    obtain ⟨q, d, e2, _⟩ := h2.len
    simp only [cellsOf, List.mem_cons] at h
    rcases h with rfl | rfl | rfl | h | h | h
    · rfl
    · rfl
    · rfl
    · rw [h, e1]; rfl
    · rw [h, e2]; rfl
    · exact cellsOf_one r (fun e he => ho e (List.mem_cons_of_mem _ he)) u h
/-- the cells stand in block b from cell o on -/
theorem row_of {w : World} {A : Nat → Prop} {b : Nat} (hA : A b) : ∀ (es : List Fe) (o : Nat), (∀ e ∈ es, e.Ok w A) → (∀ j u, (cellsOf es)[j]? = some u → w.cell? ⟨b, o + j, none⟩ = some u) → HR w A 1 b o (treeOf es)
  | [], _, _, _ => trivial
  | e :: r, o, ho, h => by
    obtain ⟨h1, h2, h3⟩ := ho e (List.mem_cons_self ..)
    refine ⟨hA, (fun e => by cases e), fun _ => h 0 _ rfl, h 1 _ rfl, h 2 _ rfl, ⟨_, h 3 _ rfl, h1⟩, ⟨_, h 4 _ rfl, h2⟩, h3, ?_⟩
    exact row_of hA r (o + 5) (fun e he => ho e (List.mem_cons_of_mem _ he)) (fun j u hu => by
      have := h (j + 5) u hu
      rw [show o + (j + 5) = o + 5 + j by omega] at this
      exact this)
/-- a slice of fields as it lies -/
def Lies (w : World) (v : Value) (es : List Fe) : Prop := ∃ b c, v = .slice (some ⟨b, 0, none⟩) es.length c ∧ es.length ≤ c ∧ c ≤ maxLen ∧ b < w.heap.size ∧ ∀ j u, (cellsOf es)[j]? = some u → w.cell? ⟨b, j, none⟩ = some u
theorem Lies.below {w w' : World} {v : Value} {es : List Fe} (h : Lies w v es) (hB : Below w.heap.size w w') : Lies w' v es := by
  obtain ⟨b, c, h1, h2, h3, h4, h5⟩ := h
  exact ⟨b, c, h1, h2, h3, Nat.lt_of_lt_of_le h4 hB.size, fun j u hu => (World.cell?_of_block (w := w) (w' := w') (a := ⟨b, j, none⟩) (hB.block b h4)).trans (h5 j u hu)⟩
theorem Lies.hs {w : World} {A : Nat → Prop} {v : Value} {es : List Fe} (h : Lies w v es) (ho : ∀ e ∈ es, e.Ok w A) (hA : ∀ b, v.ownBlock = some b → A b) (hn : es.length ≤ 2000000000000) : HS w A 1 v (treeOf es) := by
  obtain ⟨b, c, rfl, h2, h3, h4, h5⟩ := h
  refine .inr (.inr ⟨b, 0, c, ?_, ?_, ⟨h3, ?_⟩, row_of (hA b rfl) es 0 ho (fun j u hu => by rw [Nat.zero_add]; exact h5 j u hu)⟩)
  · rw [treeOf_len]
  · rw [treeOf_len]; exact h2
  · rw [treeOf_len]; exact hn
theorem Lies.news {w : World} {es : List Fe} {b n c : Nat} (h : Lies w (.slice (some ⟨b, 0, none⟩) n c) es) : ∀ j u, (cellsOf es)[j]? = some u → w.cell? ((⟨b, 0, none⟩ : Addr).add j) = some u := by
  obtain ⟨b', c', e, _, _, _, h5⟩ := h
  cases e
  intro j u hu
  have hadd : (⟨b, 0, none⟩ : Addr).add j = ⟨b, j, none⟩ := by unfold Addr.add; split <;> simp_all
  rw [hadd]
  exact h5 j u hu
/-- a block just made -/
theorem lies_new {w : World} {cs : Array Value} {es : List Fe} {t : TypeId} {n : Nat} (h : cs.toList = cellsOf es) (hn : n = es.length) (hm : n ≤ maxLen) : Lies (w.alloc (.cells cs t)) (.slice (some ⟨w.heap.size, 0, none⟩) n n) es := by
  subst hn
  refine ⟨_, _, rfl, Nat.le_refl _, hm, by simp, fun j u hu => ?_⟩
  rw [cell_of_row _ _ j cs t (0, 0) (heap_alloc_new _ _)]
  rw [← h] at hu
  simpa using hu
theorem owns_new {w : World} {cs : Array Value} {es : List Fe} {t : TypeId} {n : Nat} (h : cs.toList = cellsOf es) (hn : n = es.length) (hm : n ≤ maxLen) (base : Nat) (hb : base ≤ w.heap.size) : (w.alloc (.cells cs t)).ownsRow base t 5 (.slice (some ⟨w.heap.size, 0, none⟩) n n) n (cellsOf es) := by
  subst hn
  have hz : cs.size = es.length * 5 := by rw [← Array.length_toList, h, cellsOf_len]
  refine ⟨cellsOf_len _, .inr ⟨_, _, cs, rfl, hb, heap_alloc_new _ _, Nat.le_refl _, hm, hz, ?_⟩⟩
  rw [← h, ← hz, ← Array.length_toList, List.take_length]
theorem lies_owned {w : World} {base : Nat} {t : TypeId} {g n c : Nat} {es : List Fe} (hn : n = es.length) (h : w.ownsRow base t 5 (.slice (some ⟨g, 0, none⟩) n c) n (cellsOf es)) : Lies w (.slice (some ⟨g, 0, none⟩) n c) es := by
  subst hn
  rcases h.2 with ⟨e, _⟩ | ⟨g', c', cur, e, hb, hg, h1, h2, h3, h4⟩
  · cases e
  · cases e
    refine ⟨_, _, rfl, h1, h2, (Array.getElem?_eq_some_iff.1 hg).1, fun j u hu => ?_⟩
    rw [cell_of_row _ _ j cur t (0, 0) hg]
    rw [← h4] at hu
    have hj := (List.getElem?_eq_some_iff.1 hu).1
    rw [List.getElem?_take_of_lt (by rw [List.length_take] at hj; omega)] at hu
    simpa using hu
end Go.Proofs.YtepjomdjkoaofaaDoor
