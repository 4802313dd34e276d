/- The reader of messages reads bytes of a body. Conditions: such lengths as memory bears. -/
import Derived.Test.YtmaclplhphfkiaaDoorFrState
import Derived.Test.YtmaclplhphfkiaaDoorRegLast
namespace Go.Proofs.YtmaclplhphfkiaaDoor
open Go Go.RowKit Go.Lib F

/-- what is left, and what the reader holds then -/
def ReadOut (A : Nat → Prop) (R g off cap : Nat) (l : Bs) (k : Nat) (x : Rs) (w : World) (e : Ending) (w' : World) : Prop :=
  ∃ v', e = .returned v' ∧ Left g off cap l k v' ∧ Alt A w w' ∧ RdAt w' (Grow A w) R x.1 x.2
theorem left_end {g off cap m a b : Nat} {l : Bs} (h : cap = m) (hm : m ≤ l.length) (hl : l.length ≤ cap) (ha : a = l.length - m) (hb : b = cap - m) : Left g off cap l m (.slice (some ⟨g, off, none⟩) a b) := .inr ⟨off, by rw [ha, hb], fun h' => by omega⟩
theorem left_on {g off cap m : Nat} {l : Bs} (_h : ¬ cap = m) : Left g off cap l m (.slice (some ⟨g, off + m, none⟩) (l.length - m) (cap - m)) := .inr ⟨_, rfl, fun _ => rfl⟩
theorem nat_min (a b : Nat) : min (a : Int) (b : Int) = ((min a b : Nat) : Int) := by omega
/-- behind an append to the part -/
theorem part_after {w w1 : World} {A : Nat → Prop} {R : Nat} {self fn part size bodies dead part' : Value} {xs : List Value} {u : TypeId} (hb : Rb w R self fn part size bodies dead) (hP : Parts A R part bodies)
    (hT : Tail w u bodies xs) (hg : w.grownBy w1 part.ownBlock) (hat : part'.ownBlock = part.ownBlock ∨ part'.ownBlock = some w.heap.size) :
    Rb w1 R self fn part size bodies dead ∧ Tail w1 u bodies xs ∧ Parts (Grow A w) R part' bodies ∧ Alt A w w1 := by
  obtain ⟨h1, h2, h3⟩ := hP
  have hne : some R ≠ part.ownBlock := fun e => (h2 R e.symm).2.1 rfl
  refine ⟨hb.same (hg.block R hb.lt hne), hT.grown hg (fun b hbo e => (h2 b e.symm).2.2 hbo), ⟨.inl h1, fun b hbo => ?_, fun b hbo => ⟨.inl (h3 b hbo).1, (h3 b hbo).2⟩⟩, Alt.grown hg fun b hbo _ => (h2 b hbo).1⟩
  rcases hat with hat | hat
  · exact ⟨.inl (h2 b (hat ▸ hbo)).1, (h2 b (hat ▸ hbo)).2⟩
  · have e : w.heap.size = b := Option.some.inj (hat.symm.trans hbo)
    subst e
    exact ⟨.inr (Nat.le_refl _), fun e => by have := hb.lt; omega, fun e => by have := hT.lt _ e; omega⟩
/-- behind an append to the messages -/
theorem bodies_after {w w1 : World} {A : Nat → Prop} {R : Nat} {self fn part size bodies dead bodies' : Value} {xs : List Value} {u : TypeId} (hb : Rb w R self fn part size bodies dead) (hP : Parts A R part bodies)
    (hT : Tail w u part xs) (hg : w.grownBy w1 bodies.ownBlock) (hat : bodies'.ownBlock = bodies.ownBlock ∨ bodies'.ownBlock = some w.heap.size) :
    Rb w1 R self fn part size bodies dead ∧ Tail w1 u part xs ∧ Parts (Grow A w) R part bodies' ∧ Alt A w w1 := by
  obtain ⟨h1, h2, h3⟩ := hP
  have hne : some R ≠ bodies.ownBlock := fun e => (h3 R e.symm).2 rfl
  refine ⟨hb.same (hg.block R hb.lt hne), hT.grown hg (fun b hbo e => (h2 b hbo).2.2 e.symm), ⟨.inl h1, fun b hbo => ⟨.inl (h2 b hbo).1, (h2 b hbo).2.1, fun e => ?_⟩, fun b hbo => ?_⟩, Alt.grown hg fun b hbo _ => (h3 b hbo).1⟩
  · rcases hat with hat | hat
    · exact (h2 b hbo).2.2 (hat ▸ e)
    · have e2 : w.heap.size = b := Option.some.inj (hat.symm.trans e)
      have := hT.lt b hbo
      omega
  · rcases hat with hat | hat
    · exact ⟨.inl (h3 b (hat ▸ hbo)).1, (h3 b (hat ▸ hbo)).2⟩
    · have e2 : w.heap.size = b := Option.some.inj (hat.symm.trans hbo)
      subst e2
      exact ⟨.inr (Nat.le_refl _), fun e => by have := hb.lt; omega⟩
theorem Parts.imp {A B : Nat → Prop} {R : Nat} {part bodies : Value} (h : Parts A R part bodies) (hAB : ∀ b, A b → B b) : Parts B R part bodies :=
  ⟨hAB _ h.1, fun b hb => ⟨hAB b (h.2.1 b hb).1, (h.2.1 b hb).2⟩, fun b hb => ⟨hAB b (h.2.2 b hb).1, (h.2.2 b hb).2⟩⟩
/-- the whole of a reader's memory, in one word -/
def Whole (A : Nat → Prop) (R : Nat) (fn part size bodies dead : Value) (xs ys : List Value) (w w' : World) : Prop :=
  Rb w' R (.pointer (some ⟨R, 0, none⟩)) fn part size bodies dead ∧ Tail w' 5 part xs ∧ Tail w' 9 bodies ys ∧ Parts (Grow A w) R part bodies ∧ Alt A w w'
theorem Tail.setOther {w : World} {e : TypeId} {v : Value} {xs : List Value} (h : Tail w e v xs) {b o : Nat} (y : Value) (hne : v.ownBlock ≠ some b) : Tail (w.setCell ⟨b, o, none⟩ y) e v xs :=
  h.same fun c hc => Below.heap_setCell w ⟨b, o, none⟩ y c (fun e => hne (by rw [hc, e]))

section
variable {A : Nat → Prop} {R : Nat} {fn part size bodies dead : Value} {xs ys : List Value} {w w1 : World}
theorem Whole.set1 (h : Whole A R fn part size bodies dead xs ys w w1) (y : Value) (hA : A R) : Whole A R y part size bodies dead xs ys w (w1.setCell ⟨R, 1, none⟩ y) :=
  ⟨h.1.set1 y, h.2.1.setOther y (fun e => (h.2.2.2.1.2.1 R e).2.1 rfl), h.2.2.1.setOther y (fun e => (h.2.2.2.1.2.2 R e).2 rfl), h.2.2.2.1, h.2.2.2.2.then (Alt.setCell w1 y hA)⟩
theorem Whole.set3 (h : Whole A R fn part size bodies dead xs ys w w1) (y : Value) (hA : A R) : Whole A R fn part y bodies dead xs ys w (w1.setCell ⟨R, 3, none⟩ y) :=
  ⟨h.1.set3 y, h.2.1.setOther y (fun e => (h.2.2.2.1.2.1 R e).2.1 rfl), h.2.2.1.setOther y (fun e => (h.2.2.2.1.2.2 R e).2 rfl), h.2.2.2.1, h.2.2.2.2.then (Alt.setCell w1 y hA)⟩
theorem Whole.set5 (h : Whole A R fn part size bodies dead xs ys w w1) (y : Value) (hA : A R) : Whole A R fn part size bodies y xs ys w (w1.setCell ⟨R, 5, none⟩ y) :=
  ⟨h.1.set5 y, h.2.1.setOther y (fun e => (h.2.2.2.1.2.1 R e).2.1 rfl), h.2.2.1.setOther y (fun e => (h.2.2.2.1.2.2 R e).2 rfl), h.2.2.2.1, h.2.2.2.2.then (Alt.setCell w1 y hA)⟩
/-- the part is put aside -/
theorem Whole.set2nil (h : Whole A R fn part size bodies dead xs ys w w1) (hA : A R) : Whole A R fn (.slice none 0 0) size bodies dead [] ys w (w1.setCell ⟨R, 2, none⟩ (.slice none 0 0)) :=
  ⟨h.1.set2 _, Tail.nil _ _, h.2.2.1.setOther _ (fun e => (h.2.2.2.1.2.2 R e).2 rfl), ⟨h.2.2.2.1.1, (fun b hb => by cases hb), h.2.2.2.1.2.2⟩, h.2.2.2.2.then (Alt.setCell w1 _ hA)⟩
/-- the part is appended to -/
theorem Whole.addPart {part' : Value} {xs' : List Value} {w2 : World} (h : Whole A R fn part size bodies dead xs ys w w1) (hA : A R) (hg : w1.grownBy w2 part.ownBlock) (hT : Tail w2 5 part' xs') (hat : part'.ownBlock = part.ownBlock ∨ part'.ownBlock = some w1.heap.size) :
    Whole A R fn part' size bodies dead xs' ys w (w2.setCell ⟨R, 2, none⟩ part') := by
  have hs : w.heap.size ≤ w1.heap.size := h.2.2.2.2.size
  obtain ⟨h1, h2, h3, h4⟩ := part_after h.1 h.2.2.2.1 h.2.2.1 hg hat
  have hP : Parts (Grow A w) R part' bodies := h3.imp fun b hb => by
    rcases hb with hb | hb
    · exact hb
    · exact .inr (by omega)
  exact ⟨h1.set2 _, hT.setOther _ (fun e => (hP.2.1 R e).2.1 rfl), h2.setOther _ (fun e => (hP.2.2 R e).2 rfl), hP, (h.2.2.2.2.trans h4).then (Alt.setCell w2 _ hA)⟩
theorem Whole.addBody {bodies' : Value} {ys' : List Value} {w2 : World} (h : Whole A R fn part size bodies dead xs ys w w1) (hA : A R) (hg : w1.grownBy w2 bodies.ownBlock) (hT : Tail w2 9 bodies' ys') (hat : bodies'.ownBlock = bodies.ownBlock ∨ bodies'.ownBlock = some w1.heap.size) :
    Whole A R fn part size bodies' dead xs ys' w (w2.setCell ⟨R, 4, none⟩ bodies') := by
  have hs : w.heap.size ≤ w1.heap.size := h.2.2.2.2.size
  obtain ⟨h1, h2, h3, h4⟩ := bodies_after h.1 h.2.2.2.1 h.2.1 hg hat
  have hP : Parts (Grow A w) R part bodies' := h3.imp fun b hb => by
    rcases hb with hb | hb
    · exact hb
    · exact .inr (by omega)
  exact ⟨h1.set4 _, h2.setOther _ (fun e => (hP.2.1 R e).2.1 rfl), hT.setOther _ (fun e => (hP.2.2 R e).2 rfl), hP, (h.2.2.2.2.trans h4).then (Alt.setCell w2 _ hA)⟩
theorem Whole.below (h : Whole A R fn part size bodies dead xs ys w w1) {w2 : World} (hB : Below w1.heap.size w1 w2) : Whole A R fn part size bodies dead xs ys w w2 :=
  ⟨h.1.below hB, h.2.1.below hB, h.2.2.1.below hB, h.2.2.2.1, h.2.2.2.2.then (Alt.of_below hB)⟩
theorem Whole.drewN (h : Whole A R fn part size bodies dead xs ys w w1) (q : Nat) : Whole A R fn part size bodies dead xs ys w (w1.drewN q) := ⟨h.1, h.2.1, h.2.2.1, h.2.2.2.1, h.2.2.2.2.then (Alt.drewN _ _ _)⟩
theorem Whole.drew (h : Whole A R fn part size bodies dead xs ys w w1) : Whole A R fn part size bodies dead xs ys w w1.drew := ⟨h.1, h.2.1, h.2.2.1, h.2.2.2.1, h.2.2.2.2.then (Alt.drew _ _)⟩
theorem Whole.start (hb : Rb w R (.pointer (some ⟨R, 0, none⟩)) fn part size bodies dead) (h1 : Tail w 5 part xs) (h2 : Tail w 9 bodies ys) (hP : Parts A R part bodies) : Whole A R fn part size bodies dead xs ys w w :=
  ⟨hb, h1, h2, hP.imp fun _ h => .inl h, Alt.refl _ _⟩
end
theorem RdAt.of {A : Nat → Prop} {R : Nat} {st : St} {out : List Bs} {part bodies : Value} {size : Int} {w w' : World} (h : Whole A R (fnOf R st) part (.int .i64 size) bodies (.int .i64 (st.err : Nat)) (c8 st.part) (strs out) w w') (hz : szOf st size) :
    Alt A w w' ∧ RdAt w' (Grow A w) R st out := ⟨h.2.2.2.2, part, bodies, size, h.1, h.2.1, h.2.2.1, hz, h.2.2.2.1⟩

set_option maxRecDepth 100000 in
set_option maxHeartbeats 2000000 in
theorem readBody_any (R n g off cap : Nat) (p l : Bs) (out : List Bs) (A : Nat → Prop) (w : World) (hR : RdAt w A R (.body n p) out) (hpn : p.length ≤ n) (hn : n ≤ 262144) (hl : l.length ≤ cap) (hcap : cap ≤ 9223372036854775807)
    (ho : out.length ≤ 1000000000000) (hA8 : At8 w g off l) :
    Calls Tryd.prog 95 #[.pointer (some ⟨R, 0, none⟩), .slice (some ⟨g, off, none⟩) l.length cap] w (ReadOut A R g off cap l (min (n - p.length) l.length) (bodyTo n p out l) w) := by
  obtain ⟨i8, hi8, hz80, hz81, hz82⟩ := info_parts f8
  obtain ⟨iS, hiS, hzS0, hzS1, hzS2⟩ := info_parts fS
  obtain ⟨part, bodies, size, hb, hTp, hTb, hsz, hP⟩ := hR
  obtain rfl : size = (n : Int) := hsz
  obtain ⟨zp, cp, rfl, hp1, hp2, -⟩ := hTp.form
  obtain ⟨zb, cb, rfl, hb1, hb2, -⟩ := hTb.form
  have hm1 : min (n - p.length) l.length ≤ l.length := by omega
  have hm2 : (p ++ l.take (n - p.length)).length = p.length + min (n - p.length) l.length := by simp [List.length_take]
  have HT := Lib.hid (show l.take (n - p.length) = l.take (min (n - p.length) l.length) by rw [← List.take_take, List.take_length])
  have e1 : IntKind.i64.wrap ((n : Int) - (p.length : Int)) = ((n - p.length : Nat) : Int) := by rw [IntWalk.i64_in _ (by omega)]; omega
  have e2 := nat_min (n - p.length) l.length
  have HB := Lib.hid (show bodyTo n p out l = if p.length + min (n - p.length) l.length = n then (.head [], out ++ [p ++ l.take (n - p.length)]) else (.body n (p ++ l.take (n - p.length)), out) by unfold bodyTo; rw [hm2])
  rw [HT.out] at HB hm2
  simp only [St.part, St.err, fnOf, c8_len, strs_len] at hb hTp hTb hP hp1 hb1
  generalize bodyTo n p out l = fin at *
  generalize min (n - p.length) l.length = m at *
  have hk : n - p.length ≤ 262144 := by omega
  generalize n - p.length = k at *
  obtain ⟨c0, c1, c2, c3, c4, c5⟩ := hb.cells
  have HH := Lib.hid (And.intro hb (And.intro hTp (And.intro hTb (And.intro hP hA8))))
  have hfr := fun o => hb.free o
  clear hb hTp hTb hP hA8 c0 c1 c4 c5
  have hf2 := hfr 2
  clear hfr
  go_enter Tryd.func95, Tryd.ntmps95
  go_wp2_with fail
  go_quiet (fail)
  obtain ⟨q1, hq1⟩ : ∃ q1, q1 = nq := ⟨_, rfl⟩
  subst hq1
  go_wp2_with fail
  have hmc : m ≤ cap := by omega
  obtain ⟨W, hW⟩ : ∃ W, W = w.drewN q1 := ⟨_, rfl⟩
  rw [← hW]
  have hAR := HH.out.2.2.2.1.1
  have H1 := Lib.hid (show Whole A R _ _ _ _ _ _ _ w W by subst hW; exact (Whole.start HH.out.1 HH.out.2.1 HH.out.2.2.1 HH.out.2.2.2.1).drewN q1)
  have H8 := Lib.hid (show At8 W g off l by subst hW; exact HH.out.2.2.2.2)
  clear hW HH c2 c3 hf2
  have HS0 := Lib.hid (show W.drew.cell? ⟨R, 2, none⟩ = some (.slice zp p.length cp) from H1.out.1.cells.2.2.1)
  refine wp_region_last (S := fun V => V.cell? ⟨R, 2, none⟩ = some (.slice zp p.length cp)) (z := 11) (by kernel_rfl) ?_
  refine wpAnyZ_take (v := ?_) 0 rfl (by kernel_rfl) (by kernel_rfl) (by kernel_rfl) (fun _ _ _ h => h) (by kernel_rfl) (by kernel_rfl) (by decide) HS0.out (by rfl) (fun W hSW => ?_) ?_
  rotate_left
  · have s1 : W.cell? _ = _ := hSW
    go_simp
    try with_reducible rfl
  try simp only [List.getElem_toArray, List.getElem_cons_zero, List.getElem_cons_succ, Act.put, List.setIfInBounds_toArray, List.set_cons_zero, List.set_cons_succ]
  refine wpAnyZ_take (v := ?_) 1 rfl (by kernel_rfl) (by kernel_rfl) (by kernel_rfl) (fun _ _ _ h => h) (by kernel_rfl) (by kernel_rfl) (by decide) HS0.out (by rfl) (fun W hSW => ?_) ?_
  rotate_left
  · have s1 : W.cell? _ = _ := hSW
    go_simp
    try with_reducible rfl
  try simp only [List.getElem_toArray, List.getElem_cons_zero, List.getElem_cons_succ, Act.put, List.setIfInBounds_toArray, List.set_cons_zero, List.set_cons_succ]
  refine wpAnyZ_take (v := ?_) 2 rfl (by kernel_rfl) (by kernel_rfl) (by kernel_rfl) (fun _ _ _ h => h) (by kernel_rfl) (by kernel_rfl) (by decide) HS0.out (by rfl) (fun W hSW => ?_) ?_
  rotate_left
  · have s1 : W.cell? _ = _ := hSW
    go_simp
    try with_reducible rfl
  try simp only [List.getElem_toArray, List.getElem_cons_zero, List.getElem_cons_succ, Act.put, List.setIfInBounds_toArray, List.set_cons_zero, List.set_cons_succ]
  refine wpAnyZ_take (v := ?_) 3 rfl (by kernel_rfl) (by kernel_rfl) (by kernel_rfl) (fun _ _ _ h => h) (by kernel_rfl) (by kernel_rfl) (by decide) HS0.out (by rfl) (fun W hSW => ?_) ?_
  rotate_left
  · have s1 : W.cell? _ = _ := hSW
    go_simp
    try with_reducible rfl
  try simp only [List.getElem_toArray, List.getElem_cons_zero, List.getElem_cons_succ, Act.put, List.setIfInBounds_toArray, List.set_cons_zero, List.set_cons_succ]
  refine wpAnyZ_take (v := ?_) 4 rfl (by kernel_rfl) (by kernel_rfl) (by kernel_rfl) (fun _ _ _ h => h) (by kernel_rfl) (by kernel_rfl) (by decide) HS0.out (by rfl) (fun W hSW => ?_) ?_
  rotate_left
  · have s1 : W.cell? _ = _ := hSW
    go_simp
    try with_reducible rfl
  try simp only [List.getElem_toArray, List.getElem_cons_zero, List.getElem_cons_succ, Act.put, List.setIfInBounds_toArray, List.set_cons_zero, List.set_cons_succ]
  refine wpAnyZ_take (v := ?_) 5 rfl (by kernel_rfl) (by kernel_rfl) (by kernel_rfl) (fun _ _ _ h => h) (by kernel_rfl) (by kernel_rfl) (by decide) HS0.out (by rfl) (fun W hSW => ?_) ?_
  rotate_left
  · have s1 : W.cell? _ = _ := hSW
    go_simp
    try with_reducible rfl
  try simp only [List.getElem_toArray, List.getElem_cons_zero, List.getElem_cons_succ, Act.put, List.setIfInBounds_toArray, List.set_cons_zero, List.set_cons_succ]
  refine wpAnyZ_take (v := ?_) 6 rfl (by kernel_rfl) (by kernel_rfl) (by kernel_rfl) (fun _ _ _ h => h) (by kernel_rfl) (by kernel_rfl) (by decide) HS0.out (by rfl) (fun W hSW => ?_) ?_
  rotate_left
  · have s1 : W.cell? _ = _ := hSW
    go_simp
    try with_reducible rfl
  try simp only [List.getElem_toArray, List.getElem_cons_zero, List.getElem_cons_succ, Act.put, List.setIfInBounds_toArray, List.set_cons_zero, List.set_cons_succ]
  refine wpAnyZ_take (v := ?_) 7 rfl (by kernel_rfl) (by kernel_rfl) (by kernel_rfl) (fun _ _ _ h => h) (by kernel_rfl) (by kernel_rfl) (by decide) HS0.out (by rfl) (fun W hSW => ?_) ?_
  rotate_left
  · have s1 : W.cell? _ = _ := hSW
    go_simp
    try with_reducible rfl
  try simp only [List.getElem_toArray, List.getElem_cons_zero, List.getElem_cons_succ, Act.put, List.setIfInBounds_toArray, List.set_cons_zero, List.set_cons_succ]
  refine wpAnyZ_op 8 (by kernel_rfl) rfl (fun K' hK' => ?_)
  refine step_append_tail _ (by rfl) _ _ _ (by rfl) 5 i8 _ 1 Tryd.underlying44 hi8 hz80 hz81 hz82 rfl (.slice zp p.length cp) (c8 p) (by rfl) (show Tail W.drew _ _ _ from H1.out.2.1) (some ⟨g, off, none⟩) m cap (c8 (l.take m)) (by rfl) (by rw [c8_len, List.length_take]; omega) ?hn (c8_one _) (by rw [c8_len]; unfold maxLen; omega) (by rw [c8_len]; omega) ?_
  case hn =>
    intro j u hj
    obtain ⟨x, hx, rfl⟩ := c8_get hj
    have hjl : j < m := by
      have := (List.getElem?_eq_some_iff.1 hx).1
      rw [List.length_take] at this
      omega
    rw [List.getElem?_take_of_lt hjl] at hx
    refine ⟨_, rfl, ?_⟩
    have e : (⟨g, off, none⟩ : Addr).add j = ⟨g, off + j, none⟩ := by unfold Addr.add; split <;> simp_all
    rw [e]
    exact H8.out j x hx
  intro z' cap' w1 hT1 hg1 hat1
  rw [c8_len] at hT1 hat1
  rw [← c8_append] at hT1
  have hrb := H1.out.1.same (hg1.block R H1.out.1.lt (fun e => (H1.out.2.2.2.1.2.1 R e.symm).2.1 rfl))
  have H2 := Lib.hid (H1.out.drew.addPart hAR hg1 hT1 hat1)
  have HS1 := Lib.hid (hrb.cells.2.2.1)
  have hfr := hrb.free 2
  clear hT1 hg1 hat1 hrb H1 H8 HS0
  rw [c8_len]
  refine hK'.out _ _ HS1.out ?_
  try simp only [Act.put, List.setIfInBounds_toArray, List.set_cons_zero, List.set_cons_succ]
  clear hK' K'
  refine wpAnyZ_take (v := ?_) 9 rfl (by kernel_rfl) (by kernel_rfl) (by kernel_rfl) (fun _ _ _ h => h) (by kernel_rfl) (by kernel_rfl) (by decide) HS1.out (by rfl) (fun W hSW => ?_) ?_
  rotate_left
  · have s1 := hSW
    go_simp
    try with_reducible rfl
  try simp only [List.getElem_toArray, List.getElem_cons_zero, List.getElem_cons_succ, Act.put, List.setIfInBounds_toArray, List.set_cons_zero, List.set_cons_succ]
  refine wpAnyZ_take (v := ?_) 10 rfl (by kernel_rfl) (by kernel_rfl) (by kernel_rfl) (fun _ _ _ h => h) (by kernel_rfl) (by kernel_rfl) (by decide) HS1.out (by rfl) (fun W hSW => ?_) ?_
  rotate_left
  · have s1 := hSW
    go_simp
    try with_reducible rfl
  try simp only [List.getElem_toArray, List.getElem_cons_zero, List.getElem_cons_succ, Act.put, List.setIfInBounds_toArray, List.set_cons_zero, List.set_cons_succ]
  have hcc := HS1.out
  refine wpAnyZ_end (by kernel_rfl) rfl (by kernel_rfl) (fun K' hK' => ?_)
  go_simp
  refine hK'.out _ _ ?_
  clear hK' K' hcc HS1 hfr
  obtain ⟨P, hPd, hPl⟩ : ∃ P, P = p ++ l.take m ∧ P.length = p.length + m := ⟨_, rfl, hm2⟩
  rw [← hPd] at H2 HB
  generalize w1.setCell ⟨R, 2, none⟩ (.slice z' (p.length + m) cap') = W2 at *
  obtain ⟨d0, d1, d2, d3, d4, d5⟩ := H2.out.1.cells
  have hfr := H2.out.1.free
  clear hm2 hPd d0 d1 d5
  by_cases hfin : p.length + m = n
  · have e3 : (((p.length + m : Nat) : Int) == (n : Int)) = true := by simp; omega
    have e4 : ((p.length : Int) + (m : Int) == (n : Int)) = true := by simp; omega
    have HF := Lib.hid (HB.out.trans (if_pos hfin))
    have Hfin := Lib.hid hfin
    clear hfin HB hfr
    go_wp2_with fail
    go_quiet (fail)
    obtain ⟨q2, hq2⟩ : ∃ q2, q2 = nq := ⟨_, rfl⟩
    subst hq2
    go_wp2_with fail
    obtain ⟨W3, hW3⟩ : ∃ W3, W3 = W2.drewN q2 := ⟨_, rfl⟩
    rw [← hW3]
    have H3 := Lib.hid (show Whole A R _ _ _ _ _ _ _ w W3 by subst hW3; exact H2.out.drewN q2)
    clear hW3 H2 d2 d3 d4
    have HS2 := Lib.hid (And.intro H3.out.drew.1 H3.out.drew.2.1)
    refine wp_region_last (S := fun V => Rb V R (.pointer (some ⟨R, 0, none⟩)) (.func (.func 95) #[.pointer (some ⟨R, 0, none⟩)] #[]) (.slice z' (p.length + m) cap') (.int .i64 n) (.slice zb out.length cb) (.int .i64 (0 : Nat)) ∧ Tail V 5 (.slice z' (p.length + m) cap') (c8 P)) (z := 14) (by kernel_rfl) ?_
    refine wpAnyZ_take (v := ?_) 0 rfl (by kernel_rfl) (by kernel_rfl) (by kernel_rfl) (fun _ _ _ h => h) (by kernel_rfl) (by kernel_rfl) (by decide) HS2.out (by rfl) (fun W hSW => ?_) ?_
    rotate_left
    · obtain ⟨s0, s1, s2, s3, s4, s5⟩ := Rb.cells hSW.1; have cv := conv_part hSW.2; clear hSW
      go_simp
      try with_reducible rfl
    try simp only [List.getElem_toArray, List.getElem_cons_zero, List.getElem_cons_succ, Act.put, List.setIfInBounds_toArray, List.set_cons_zero, List.set_cons_succ]
    refine wpAnyZ_take (v := ?_) 1 rfl (by kernel_rfl) (by kernel_rfl) (by kernel_rfl) (fun _ _ _ h => h) (by kernel_rfl) (by kernel_rfl) (by decide) HS2.out (by rfl) (fun W hSW => ?_) ?_
    rotate_left
    · obtain ⟨s0, s1, s2, s3, s4, s5⟩ := Rb.cells hSW.1; have cv := conv_part hSW.2; clear hSW
      go_simp
      try with_reducible rfl
    try simp only [List.getElem_toArray, List.getElem_cons_zero, List.getElem_cons_succ, Act.put, List.setIfInBounds_toArray, List.set_cons_zero, List.set_cons_succ]
    refine wpAnyZ_take (v := ?_) 2 rfl (by kernel_rfl) (by kernel_rfl) (by kernel_rfl) (fun _ _ _ h => h) (by kernel_rfl) (by kernel_rfl) (by decide) HS2.out (by rfl) (fun W hSW => ?_) ?_
    rotate_left
    · obtain ⟨s0, s1, s2, s3, s4, s5⟩ := Rb.cells hSW.1; have cv := conv_part hSW.2; clear hSW
      go_simp
      try with_reducible rfl
    try simp only [List.getElem_toArray, List.getElem_cons_zero, List.getElem_cons_succ, Act.put, List.setIfInBounds_toArray, List.set_cons_zero, List.set_cons_succ]
    refine wpAnyZ_take (v := ?_) 3 rfl (by kernel_rfl) (by kernel_rfl) (by kernel_rfl) (fun _ _ _ h => h) (by kernel_rfl) (by kernel_rfl) (by decide) HS2.out (by rfl) (fun W hSW => ?_) ?_
    rotate_left
    · obtain ⟨s0, s1, s2, s3, s4, s5⟩ := Rb.cells hSW.1; have cv := conv_part hSW.2; clear hSW
      go_simp
      try with_reducible rfl
    try simp only [List.getElem_toArray, List.getElem_cons_zero, List.getElem_cons_succ, Act.put, List.setIfInBounds_toArray, List.set_cons_zero, List.set_cons_succ]
    refine wpAnyZ_take (v := ?_) 4 rfl (by kernel_rfl) (by kernel_rfl) (by kernel_rfl) (fun _ _ _ h => h) (by kernel_rfl) (by kernel_rfl) (by decide) HS2.out (by rfl) (fun W hSW => ?_) ?_
    rotate_left
    · obtain ⟨s0, s1, s2, s3, s4, s5⟩ := Rb.cells hSW.1; have cv := conv_part hSW.2; clear hSW
      go_simp
      try with_reducible rfl
    try simp only [List.getElem_toArray, List.getElem_cons_zero, List.getElem_cons_succ, Act.put, List.setIfInBounds_toArray, List.set_cons_zero, List.set_cons_succ]
    refine wpAnyZ_take (v := ?_) 5 rfl (by kernel_rfl) (by kernel_rfl) (by kernel_rfl) (fun _ _ _ h => h) (by kernel_rfl) (by kernel_rfl) (by decide) HS2.out (by rfl) (fun W hSW => ?_) ?_
    rotate_left
    · obtain ⟨s0, s1, s2, s3, s4, s5⟩ := Rb.cells hSW.1; have cv := conv_part hSW.2; clear hSW
      go_simp
      try with_reducible rfl
    try simp only [List.getElem_toArray, List.getElem_cons_zero, List.getElem_cons_succ, Act.put, List.setIfInBounds_toArray, List.set_cons_zero, List.set_cons_succ]
    refine wpAnyZ_take (v := ?_) 6 rfl (by kernel_rfl) (by kernel_rfl) (by kernel_rfl) (fun _ _ _ h => h) (by kernel_rfl) (by kernel_rfl) (by decide) HS2.out (by rfl) (fun W hSW => ?_) ?_
    rotate_left
    · obtain ⟨s0, s1, s2, s3, s4, s5⟩ := Rb.cells hSW.1; have cv := conv_part hSW.2; clear hSW
      go_simp
      try with_reducible rfl
    try simp only [List.getElem_toArray, List.getElem_cons_zero, List.getElem_cons_succ, Act.put, List.setIfInBounds_toArray, List.set_cons_zero, List.set_cons_succ]
    refine wpAnyZ_take (v := ?_) 7 rfl (by kernel_rfl) (by kernel_rfl) (by kernel_rfl) (fun _ _ _ h => h) (by kernel_rfl) (by kernel_rfl) (by decide) HS2.out (by rfl) (fun W hSW => ?_) ?_
    rotate_left
    · obtain ⟨s0, s1, s2, s3, s4, s5⟩ := Rb.cells hSW.1; have cv := conv_part hSW.2; clear hSW
      go_simp
      try with_reducible rfl
    try simp only [List.getElem_toArray, List.getElem_cons_zero, List.getElem_cons_succ, Act.put, List.setIfInBounds_toArray, List.set_cons_zero, List.set_cons_succ]
    refine wpAnyZ_take (v := ?_) 8 rfl (by kernel_rfl) (by kernel_rfl) (by kernel_rfl) (fun _ _ _ h => h) (by kernel_rfl) (by kernel_rfl) (by decide) HS2.out (by rfl) (fun W hSW => ?_) ?_
    rotate_left
    · obtain ⟨s0, s1, s2, s3, s4, s5⟩ := Rb.cells hSW.1; have cv := conv_part hSW.2; clear hSW
      go_simp
      try with_reducible rfl
    try simp only [List.getElem_toArray, List.getElem_cons_zero, List.getElem_cons_succ, Act.put, List.setIfInBounds_toArray, List.set_cons_zero, List.set_cons_succ]
    refine wpAnyZ_take (v := ?_) 9 rfl (by kernel_rfl) (by kernel_rfl) (by kernel_rfl) (fun _ _ _ h => h) (by kernel_rfl) (by kernel_rfl) (by decide) HS2.out (by rfl) (fun W hSW => ?_) ?_
    rotate_left
    · obtain ⟨s0, s1, s2, s3, s4, s5⟩ := Rb.cells hSW.1; have cv := conv_part hSW.2; clear hSW
      go_simp
      try with_reducible rfl
    try simp only [List.getElem_toArray, List.getElem_cons_zero, List.getElem_cons_succ, Act.put, List.setIfInBounds_toArray, List.set_cons_zero, List.set_cons_succ]
    
    refine wpAnyZ_op 10 (by kernel_rfl) rfl (fun K' hK' => ?_)
    go_simp
    have H4 := Lib.hid ((H3.out.below ((Below.refl _ _).alloc (Nat.le_refl _) (.cells #[.string (ba P)] 9))).drew)
    have hnew := heap_alloc_new W3 (.cells #[.string (ba P)] 9)
    refine hK'.out _ _ ⟨H4.out.1, H4.out.2.1⟩ ?_
    try simp only [List.getElem_toArray, List.getElem_cons_zero, List.getElem_cons_succ, Act.put, List.setIfInBounds_toArray, List.set_cons_zero, List.set_cons_succ]
    clear hK' K' H3 HS2
    obtain ⟨W4, hW4⟩ : ∃ W4, W4 = (W3.alloc (.cells #[.string (ba P)] 9)).drew := ⟨_, rfl⟩
    have hnew := (congrArg (fun V : World => V.heap[W3.heap.size]?) hW4).trans hnew
    rw [← hW4] at H4 ⊢
    clear hW4
    refine wpAnyZ_op 11 (by kernel_rfl) rfl (fun K' hK' => ?_)
    refine step_append_tail _ (by rfl) _ _ _ (by rfl) 9 iS _ 16 Tryd.underlying46 hiS hzS0 hzS1 hzS2 rfl (.slice zb out.length cb) (strs out) (by rfl) H4.out.2.2.1 (some ⟨W3.heap.size, 0, none⟩) 1 1 [.string (ba P)] (by rfl) (by rfl) ?hn2 (fun u hu => by rw [List.mem_singleton.1 hu]; rfl) (by rw [strs_len]; unfold maxLen; omega) (by rw [strs_len]; omega) ?_
    case hn2 =>
      intro j u hj
      refine ⟨_, rfl, ?_⟩
      exact World.news_of_block (cs := #[.string (ba P)]) (t := 9) (fr := (0, 0)) hnew j u hj
    intro z2 cap2 w5 hT2 hg2 hat2
    rw [strs_len] at hT2 hat2
    rw [show strs out ++ [Value.string (ba P)] = strs (out ++ [P]) from (strs_append out [P]).symm] at hT2
    have hrb := bodies_after H4.out.1 H4.out.2.2.2.1 H4.out.2.1 hg2 hat2
    have H5 := Lib.hid (H4.out.addBody hAR hg2 hT2 hat2)
    have HS3 := Lib.hid (And.intro hrb.1 hrb.2.1)
    clear hT2 hg2 hat2 hrb H4 hnew
    rw [strs_len]
    refine hK'.out _ _ HS3.out ?_
    try simp only [List.getElem_toArray, List.getElem_cons_zero, List.getElem_cons_succ, Act.put, List.setIfInBounds_toArray, List.set_cons_zero, List.set_cons_succ]
    clear hK' K'
    refine wpAnyZ_take (v := ?_) 12 rfl (by kernel_rfl) (by kernel_rfl) (by kernel_rfl) (fun _ _ _ h => h) (by kernel_rfl) (by kernel_rfl) (by decide) HS3.out (by rfl) (fun W hSW => ?_) ?_
    rotate_left
    · clear hSW
      go_simp
      try with_reducible rfl
    try simp only [List.getElem_toArray, List.getElem_cons_zero, List.getElem_cons_succ, Act.put, List.setIfInBounds_toArray, List.set_cons_zero, List.set_cons_succ]
    refine wpAnyZ_take (v := ?_) 13 rfl (by kernel_rfl) (by kernel_rfl) (by kernel_rfl) (fun _ _ _ h => h) (by kernel_rfl) (by kernel_rfl) (by decide) HS3.out (by rfl) (fun W hSW => ?_) ?_
    rotate_left
    · clear hSW
      go_simp
      try with_reducible rfl
    try simp only [List.getElem_toArray, List.getElem_cons_zero, List.getElem_cons_succ, Act.put, List.setIfInBounds_toArray, List.set_cons_zero, List.set_cons_succ]
    
    have hcc := HS3.out.1.cells.2.2.2.2.1
    have hfr := HS3.out.1.free 4
    refine wpAnyZ_end (by kernel_rfl) rfl (by kernel_rfl) (fun K' hK' => ?_)
    go_simp
    refine hK'.out _ _ ?_
    clear hK' K' hcc HS3 hfr
    generalize w5.setCell ⟨R, 4, none⟩ (.slice z2 (out.length + 1) cap2) = W6 at *
    have H6 := Lib.hid (H5.out.set2nil hAR)
    have H7 := Lib.hid ((H6.out.set1 (.func (.func 42) #[.pointer (some ⟨R, 0, none⟩)] #[]) hAR))
    obtain ⟨d0, d1, d2, d3, d4, d5⟩ := H5.out.1.cells
    have hf2 := H5.out.1.free 2
    have hf1 := H5.out.1.free 1
    clear d0 d3 d4 d5
    by_cases hcm : cap = m
    all_goals
      go_wp2_with fail
      go_ret
      refine ⟨_, rfl, ?_, ?_⟩
      · first | exact left_on hcm | exact left_end hcm hm1 hl (by omega) (by omega)
      · rw [HF.out]
        exact RdAt.of (st := .head []) (size := n) H7.out trivial
  · have e3 : (((p.length + m : Nat) : Int) == (n : Int)) = false := by simp; omega
    have e4 : ((p.length : Int) + (m : Int) == (n : Int)) = false := by simp; omega
    have HF := Lib.hid (HB.out.trans (if_neg hfin))
    clear hfin HB hfr
    go_wp2_with fail
    go_quiet (fail)
    obtain ⟨q2, hq2⟩ : ∃ q2, q2 = nq := ⟨_, rfl⟩
    subst hq2
    clear d2 d3 d4
    by_cases hcm : cap = m
    all_goals
      go_wp2_with fail
      go_ret
      refine ⟨_, rfl, ?_, ?_⟩
      · first | exact left_on hcm | exact left_end hcm hm1 hl (by omega) (by omega)
      · rw [HF.out]
        exact RdAt.of (st := .body n P) (size := n) (H2.out.drewN q2) rfl
end Go.Proofs.YtmaclplhphfkiaaDoor
