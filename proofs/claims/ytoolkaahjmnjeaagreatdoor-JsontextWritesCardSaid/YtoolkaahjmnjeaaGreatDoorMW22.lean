/- The program's writer: a value, by its kind, and what it leaves as it was. Conditions: none. -/
import Derived.Test.YtoolkaahjmnjeaaGreatDoorMW21
import Derived.Test.YtoolkaahjmnjeaaGreatDoorMW03
namespace Go.Proofs.YtoolkaahjmnjeaaGreatDoor
open Go Go.RowKit Go.Shelf Go.Lib

set_option maxRecDepth 100000 in
theorem appendValueK_long (B : Nat) (b va ua : Value) (k : Nat) (x : ByteArray) (l : List UInt8) (w : World) (p : Option Addr) (c : Nat) (hb : b = .slice p l.length c) (hlen : 262144 < l.length) (hl : l.length ≤ 100000000000000) (hown : w.ownsRow B 5 1 b l.length (U.cellsOf l)) (hBw : B ≤ w.heap.size) :
    Calls Tryz.prog 46 #[b, .agg #[.int .u8 k, .string x, va, ua]] w (WrK B l.length (.slice p l.length c) l w) := by
  subst hb
  have tl : decide ((262144 : Int) < (l.length : Int)) = true := decide_eq_true (by omega)
  have hB := (Below.refl B w).alloc hBw (.cells #[.int .u8 k, .string x, va, ua] 25)
  go_enter Tryz.func46, Tryz.ntmps46
  go_wp2_with fail
  go_ret
  exact ⟨_, rfl, hown.alloc _, hB, keepX_below _ _ ((Below.refl _ w).alloc (Nat.le_refl _) _)⟩

set_option maxHeartbeats 2000000 in
set_option maxRecDepth 100000 in
theorem appendValueK_with (B : Nat) (b va ua : Value) (k : Nat) (x : ByteArray) (l l2 : List UInt8) (ft fl ff fw : FuncId) (w : World) (p : Option Addr) (c : Nat) (hb : b = .slice p l.length c) (hk6 : k ≤ 6) (hlen : l.length ≤ 262144) (hBw : B ≤ w.heap.size)
    (hix : ∀ W : World, (Instr.index 152 (.agg knds) (.int .u8 k)).run Tryz.prog W = .ok (.agg #[.func (.func ft) #[] #[], .func (.func fl) #[] #[], .func (.func ff) #[] #[], .func (.func fw) #[] #[]]) W)
    (ew : ∀ args w, (callFunc fw args).run Tryz.prog w = .ok (.enter fw args) w)
    (hw : ∀ W, Below w.heap.size w W → Calls Tryz.prog fw #[b, .agg #[.int .u8 k, .string x, va, ua]] W (WrK B l.length (.slice p l.length c) l2 W)) :
    Calls Tryz.prog 46 #[b, .agg #[.int .u8 k, .string x, va, ua]] w (WrK B l.length (.slice p l.length c) l2 w) := by
  subst hb
  have tl : decide ((262144 : Int) < (l.length : Int)) = false := decide_eq_false (by omega)
  have hk := fun W => kinds_any W
  have hbk : Blk4 (w.alloc (.cells #[.int .u8 k, .string x, va, ua] 25)) w.heap.size 25 _ _ _ _ := heap_alloc_new _ _
  have hBw1 := Lib.hid ((Below.refl w.heap.size w).alloc (Nat.le_refl _) (.cells #[.int .u8 k, .string x, va, ua] 25))
  have hst : ∀ (W : World) (a : Addr) (f : FuncId), (store a (.func (.func f) #[] #[])).run Tryz.prog W = stored Tryz.prog W a (.func (.func f) #[] #[]) .plain := fun W a f => run_store Tryz.prog W a _ _ rfl
  have hsz : w.heap.size ≤ (w.alloc (.cells #[.int .u8 k, .string x, va, ua] 25)).heap.size := by simp
  obtain ⟨c0, c1, c2, c3⟩ := hbk.box
  go_enter Tryz.func46, Tryz.ntmps46
  go_wp2_with fail
  have hfd : ∀ W : World, (Instr.field 151 (.agg #[.func (.func ft) #[] #[], .func (.func fl) #[] #[], .func (.func ff) #[] #[], .func (.func fw) #[] #[]]) 3).run Tryz.prog W = .ok (.func (.func fw) #[] #[]) W := fun W => by rfl
  have keep : ∀ w', Below (w.alloc (.cells #[.int .u8 k, .string x, va, ua] 25)).heap.size (w.alloc (.cells #[.int .u8 k, .string x, va, ua] 25)) w' → w'.cell? ⟨w.heap.size, 0, none⟩ = some (.int .u8 k) ∧ w'.cell? ⟨w.heap.size, 1, none⟩ = some (.string x) ∧ w'.cell? ⟨w.heap.size, 2, none⟩ = some va ∧ w'.cell? ⟨w.heap.size, 3, none⟩ = some ua := fun w' hB => (hbk.same (hB.block _ hbk.lt)).box
  have KEEP := Lib.hid keep
  have KB := Lib.hid (show ∀ w', Below (w.alloc (.cells #[.int .u8 k, .string x, va, ua] 25)).heap.size (w.alloc (.cells #[.int .u8 k, .string x, va, ua] 25)) w' → Blk4 w' w.heap.size 25 (.int .u8 k) (.string x) va ua from fun w' hB => hbk.same (hB.block _ hbk.lt))
  have HF := Lib.hid hw
  clear keep hw hbk
  generalize w.alloc (.cells #[.int .u8 k, .string x, va, ua] 25) = W0 at *
  go_region_held3 (fun w' => w'.cell? ⟨w.heap.size, 0, none⟩ = some (.int .u8 k) ∧ w'.cell? ⟨w.heap.size, 1, none⟩ = some (.string x) ∧ w'.cell? ⟨w.heap.size, 2, none⟩ = some va ∧ w'.cell? ⟨w.heap.size, 3, none⟩ = some ua)
    (first | exact hS3 | with_reducible exact KEEP.out _ hB2 | with_reducible exact KEEP.out _ (Below.refl _ _).drew | with_reducible exact KEEP.out _ (Below.refl _ _))
    (first | (go_at_call 97; (with_reducible refine (hk _).mono ?_); rintro e w1 ⟨rfl, hB1⟩; have hB2 : Below W0.heap.size W0 w1 := drew_trans hB1; clear hB1) | ((with_reducible refine (HF.out _ (hBw1.out.trans (hB2.mono hsz))).mono ?_); rintro e w2 ⟨v', rfl, hown2, hB3, hK3⟩; have hS3 := ((KB.out _ hB2).same (hK3 _ _ _ _ (KB.out _ hB2) (.inl (by decide)))).box))
  all_goals
    go_wp2_with fail
    go_ret
    exact ⟨v', rfl, hown2, (hBw1.out.mono hBw).trans ((hB2.mono (Nat.le_trans hBw hsz)).trans hB3), ((keepX_below _ _ hBw1.out).same (keepX_below _ _ hB2)).same hK3⟩
end Go.Proofs.YtoolkaahjmnjeaaGreatDoor

namespace Go.Proofs.YtoolkaahjmnjeaaGreatDoor
open Go Go.RowKit Go.Shelf Go.Lib

/-- a value that is neither list nor object -/
def lf (k : Nat) (x : ByteArray) : List UInt8 :=
  if k = 0 then [110, 117, 108, 108] else if k = 1 then [102, 97, 108, 115, 101] else if k = 2 then [116, 114, 117, 101] else if k = 3 then x.data.toList else qL x
/-- what stands ahead of an item: a comma, but ahead of the first one; a field's name -/
def ahead (d : Nat) (first : Bool) (nm : ByteArray) : List UInt8 := (if first then [] else [44]) ++ (if d = 1 then qL nm ++ [58] else [])
/-- items behind what is written already: nothing is written behind what is too long, but for commas, names and brackets -/
def aT : V.T → Nat → Bool → List UInt8 → List UInt8
  | .nil, _, _, b => b
  | .cons nm k x l f tl, d, first, b =>
    aT tl d false (if (b ++ ahead d first nm).length > 262144 then b ++ ahead d first nm
      else if k = 5 then aT l 0 true (b ++ ahead d first nm ++ [91]) ++ [93]
      else if k = 6 then aT f 1 true (b ++ ahead d first nm ++ [123]) ++ [125]
      else b ++ ahead d first nm ++ lf k x)
def aV (k : Nat) (x : ByteArray) (l f : V.T) (b : List UInt8) : List UInt8 :=
  if b.length > 262144 then b else if k = 5 then aT l 0 true (b ++ [91]) ++ [93] else if k = 6 then aT f 1 true (b ++ [123]) ++ [125] else b ++ lf k x
theorem aT_cons (nm : ByteArray) (k : Nat) (x : ByteArray) (l f tl : V.T) (d : Nat) (first : Bool) (b : List UInt8) : aT (.cons nm k x l f tl) d first b = aT tl d false (aV k x l f (b ++ ahead d first nm)) := by
  conv => lhs; unfold aT
  rfl
/-- how much may come -/
def wgt : V.T → Nat
  | .nil => 0
  | .cons nm _ x l f tl => 6 * nm.size + 6 * x.size + 20 + wgt l + wgt f + wgt tl
theorem qF_len (s : ByteArray) : ∀ (f pos : Nat), pos ≤ s.size → (qF s f pos).length ≤ 6 * (s.size - pos)
  | 0, _, _ => by simp [qF]
  | f + 1, pos, hp => by
    by_cases h : pos < s.size
    · rw [qF_step s f pos h, List.length_append]
      have h1 := U.wd_pos h
      have h2 := U.wd_le h
      have h3 := qF_len s f (pos + U.wd s pos) (by omega)
      have h4 := pq_le h
      omega
    · rw [qF_end s (f + 1) pos h]; simp
theorem qL_len (s : ByteArray) : (qL s).length ≤ 6 * s.size + 2 := by
  have := qF_len s s.size 0 (Nat.zero_le _)
  unfold qL
  simp only [List.length_append, List.length_singleton]
  omega
theorem lf_len (k : Nat) (x : ByteArray) : (lf k x).length ≤ 6 * x.size + 5 := by
  have h1 := qL_len x
  have h2 : x.data.toList.length = x.size := by simp
  unfold lf
  split
  · simp
  · split
    · simp
    · split
      · simp
      · split
        · omega
        · omega
theorem ahead_len (d : Nat) (first : Bool) (nm : ByteArray) : (ahead d first nm).length ≤ 6 * nm.size + 4 := by
  have := qL_len nm
  unfold ahead
  rw [List.length_append]
  split <;> split <;> simp <;> omega
theorem aT_len : ∀ (t : V.T) (d : Nat) (first : Bool) (b : List UInt8), (aT t d first b).length ≤ b.length + wgt t
  | .nil, _, _, b => by simp [aT, wgt]
  | .cons nm k x l f tl, d, first, b => by
    have h1 := ahead_len d first nm
    have h2 := aT_len l 0 true (b ++ ahead d first nm ++ [91])
    have h3 := aT_len f 1 true (b ++ ahead d first nm ++ [123])
    have h4 := lf_len k x
    have h5 := aT_len tl d false (aV k x l f (b ++ ahead d first nm))
    rw [aT_cons]
    have h6 : (aV k x l f (b ++ ahead d first nm)).length ≤ b.length + 6 * nm.size + 6 * x.size + 20 + wgt l + wgt f := by
      unfold aV
      simp only [List.length_append, List.length_singleton] at h2 h3 ⊢
      split
      · simp only [List.length_append]; omega
      · split
        · simp only [List.length_append, List.length_singleton]; omega
        · split
          · simp only [List.length_append, List.length_singleton]; omega
          · simp only [List.length_append]; omega
    unfold wgt
    omega
theorem aV_len (k : Nat) (x : ByteArray) (l f : V.T) (b : List UInt8) : (aV k x l f b).length ≤ b.length + 6 * x.size + 10 + wgt l + wgt f := by
  have h2 := aT_len l 0 true (b ++ [91])
  have h3 := aT_len f 1 true (b ++ [123])
  have h4 := lf_len k x
  unfold aV
  simp only [List.length_append, List.length_singleton] at h2 h3
  split
  · omega
  · split
    · simp only [List.length_append, List.length_singleton]; omega
    · split
      · simp only [List.length_append, List.length_singleton]; omega
      · simp only [List.length_append]; omega
end Go.Proofs.YtoolkaahjmnjeaaGreatDoor

namespace Go.Proofs.YtoolkaahjmnjeaaGreatDoor
open Go Go.RowKit Go.Shelf Go.Lib

/-- kinds that are some -/
def Kd : V.T → Prop
  | .nil => True
  | .cons _ k x l f tl => (k ≤ 6 ∧ (k = 3 → 0 < x.size)) ∧ Kd l ∧ Kd f ∧ Kd tl
/-- the writer serves values of fewer than N elements -/
def WrOk (N : Nat) : Prop := ∀ (k : Nat) (x : ByteArray) (va ua : Value) (l f : V.T) (A : Nat → Prop) (B : Nat) (b : Value) (lb : List UInt8) (w : World), l.size + f.size < N → k ≤ 6 → (k = 3 → 0 < x.size) → Kd l → Kd f → lb.length + 6 * x.size + 10 + wgt l + wgt f ≤ 100000000000 → HS w A 0 va l → HS w A 1 ua f →
  (∀ c, A c → c < B) → w.ownsRow B 5 1 b lb.length (U.cellsOf lb) → B ≤ w.heap.size → Calls Tryz.prog 46 #[b, .agg #[.int .u8 k, .string x, va, ua]] w (WrK B lb.length b (aV k x l f lb) w)
theorem Kd.drop {t : V.T} {i : Nat} {nm : ByteArray} {k : Nat} {x : ByteArray} {l f tl : V.T} (h : Kd t) (hd : t.drop i = .cons nm k x l f tl) : (k ≤ 6 ∧ (k = 3 → 0 < x.size)) ∧ Kd l ∧ Kd f ∧ Kd tl := by
  induction i generalizing t with
  | zero => rw [V.T.drop_zero] at hd; subst hd; exact h
  | succ i ih =>
    cases t with
    | nil => cases hd
    | cons a b c d e tl2 => exact ih (t := tl2) h.2.2.2 hd
theorem HS.lowB {w w' : World} {A : Nat → Prop} {B d : Nat} {v : Value} {t : V.T} (h : HS w A d v t) (hA : ∀ c, A c → c < B) (hB : Below B w w') : HS w' A d v t := h.imp (fun _ a _ => a) (fun b ha _ => hB.block b (hA b ha))
theorem lf_pos (k : Nat) (x : ByteArray) (h : k = 3 → 0 < x.size) : 1 ≤ (lf k x).length := by
  have h2 := Lib.size_eq x
  unfold lf
  split
  · simp
  split
  · simp
  split
  · simp
  split
  · rename_i h3
    have := h h3
    omega
  · unfold qL; simp
theorem aT_ge : ∀ (t : V.T) (d : Nat) (first : Bool) (b : List UInt8), b.length ≤ (aT t d first b).length
  | .nil, _, _, _ => Nat.le_refl _
  | .cons nm k x l f tl, d, first, b => by
    rw [aT_cons]
    have h5 := aT_ge tl d false (aV k x l f (b ++ ahead d first nm))
    have h2 := aT_ge l 0 true (b ++ ahead d first nm ++ [91])
    have h3 := aT_ge f 1 true (b ++ ahead d first nm ++ [123])
    have h6 : b.length ≤ (aV k x l f (b ++ ahead d first nm)).length := by
      unfold aV
      simp only [List.length_append, List.length_singleton] at h2 h3 ⊢
      split
      · simp only [List.length_append]; omega
      split
      · simp only [List.length_append, List.length_singleton]; omega
      split
      · simp only [List.length_append, List.length_singleton]; omega
      · simp only [List.length_append]; omega
    omega
theorem aV_ge (k : Nat) (x : ByteArray) (l f : V.T) (b : List UInt8) (h : k = 3 → 0 < x.size) : (b.length ≤ 262144 → b.length + 1 ≤ (aV k x l f b).length) ∧ b.length ≤ (aV k x l f b).length := by
  have h2 := aT_ge l 0 true (b ++ [91])
  have h3 := aT_ge f 1 true (b ++ [123])
  have h4 := lf_pos k x h
  unfold aV
  simp only [List.length_append, List.length_singleton] at h2 h3
  split
  · omega
  split
  · simp only [List.length_append, List.length_singleton]; omega
  split
  · simp only [List.length_append, List.length_singleton]; omega
  · simp only [List.length_append]; omega
/-- where the loop over the items stands -/
structure WtAt (t : V.T) (d : Nat) (b0 : Value) (lb : List UInt8) (B i : Nat) (b' : Value) (lb' : List UInt8) (w wr : World) : Prop where
  eq : aT (t.drop i) d (decide (i = 0)) lb' = aT t d true lb
  len : lb'.length + wgt (t.drop i) ≤ 100000000000
  own : wr.ownsRow B 5 1 b' lb'.length (U.cellsOf lb')
  below : Below B w wr
  keep : KeepX lb.length b0 w wr
  first : i = 0 → b' = b0 ∧ lb' = lb
  more : 0 < i → 1 ≤ lb.length → 2 ≤ lb'.length
  atl : 1 ≤ lb.length → 1 ≤ lb'.length
theorem WtAt.step {t : V.T} {d : Nat} {b0 : Value} {lb : List UInt8} {B i : Nat} {b' v' : Value} {lb' l2 : List UInt8} {w wr w1 : World} {nm : ByteArray} {k : Nat} {x : ByteArray} {l f tl : V.T} (h : WtAt t d b0 lb B i b' lb' w wr) (hd : t.drop i = .cons nm k x l f tl) (h3x : k = 3 → 0 < x.size)
    (e : l2 = lb' ++ ahead d (decide (i = 0)) nm) (hown : w1.ownsRow B 5 1 v' (aV k x l f l2).length (U.cellsOf (aV k x l f l2))) (hB : Below B wr w1) (hK : KeepX lb'.length b' wr w1) : WtAt t d b0 lb B (i + 1) v' (aV k x l f l2) w w1 := by
  have h1 := h.eq
  have h2 := h.len
  have h3 := ahead_len d (decide (i = 0)) nm
  have h4 := aV_len k x l f l2
  have h5 : l2.length = lb'.length + (ahead d (decide (i = 0)) nm).length := by rw [e, List.length_append]
  have h6 := aV_ge k x l f l2 h3x
  have h7 := h.atl
  rw [hd] at h2
  unfold wgt at h2
  have hkeep : KeepX lb.length b0 w w1 := by
    by_cases hi : i = 0
    · obtain ⟨rfl, rfl⟩ := h.first hi
      exact h.keep.same hK
    · exact h.keep.onto hK h.own (h.more (by omega))
  refine ⟨?_, ?_, hown, h.below.trans hB, hkeep, fun e => by omega, fun _ hl => ?_, fun hl => ?_⟩
  · rw [V.T.drop_step hd, decide_eq_false (by omega), e, ← aT_cons, ← hd]
    exact h1
  · rw [V.T.drop_step hd]
    omega
  · have := h7 hl
    by_cases hx : l2.length ≤ 262144
    · have := h6.1 hx; omega
    · have := h6.2; omega
  · have := h7 hl
    have := h6.2
    omega
set_option maxHeartbeats 2000000 in
set_option maxRecDepth 100000 in
theorem itemsV_any (N : Nat) (ih : WrOk N) (v : Value) (t : V.T) (A : Nat → Prop) (B : Nat) (b : Value) (lb : List UInt8) (w : World) (ht : t.size ≤ N) (hk : Kd t) (hlen : lb.length + wgt t ≤ 100000000000) (hv : HS w A 0 v t) (hA : ∀ c, A c → c < B)
    (hown : w.ownsRow B 5 1 b lb.length (U.cellsOf lb)) (hBw : B ≤ w.heap.size) :
    Calls Tryz.prog 172 #[b, v, .func (.func 46) #[] #[]] w (WrK B lb.length b (aT t 0 true lb) w) := by
  obtain ⟨i0, hi0, hz0, hz1, hz2⟩ := info_parts infoByte
  have ew : ∀ args w, (callFunc 46 args).run Tryz.prog w = .ok (.enter 46 args) w := enters_of Tryz.func46 (by kernel_rfl) rfl
  obtain ⟨p, c, rfl, b0, b1, b2⟩ := hv.len
  generalize hn : t.len = n at *
  have HN := Lib.hid hn
  have HA := Lib.hid (And.intro hv hA)
  have HH := Lib.hid (And.intro ht hk)
  have H0 := Lib.hid (show WtAt t 0 b lb B 0 b lb w w from ⟨by rw [V.T.drop_zero]; rfl, by rw [V.T.drop_zero]; exact hlen, hown, Below.refl _ _, KeepX.refl _ _ _, fun _ => ⟨rfl, rfl⟩, fun h => absurd h (Nat.lt_irrefl _), fun h => h⟩)
  clear hn hv hA ht hk hown hlen
  go_enter Tryz.func172, Tryz.ntmps172
  go_wp2_with fail
  go_loopw [0, 11] (fun u q wr => ∃ (i : Nat) (b' : Value) (lb' : List UInt8), b' = u ∧ q = .int .i64 i ∧ i ≤ n ∧ Hid (WtAt t 0 b lb B i b' lb' w wr)) (fun _ q _ => n - (RowKit.intOf q).toNat)
  case atStart => exact ⟨0, _, lb, rfl, rfl, Nat.zero_le _, H0⟩
  case round =>
    obtain ⟨i, b', lb', rfl, rfl, hi, HI⟩ := hrel
    by_cases hlt : i < n
    · obtain ⟨nm1, k1, x1, l1, f1, tl1, hd1⟩ := V.T.drop_some (t := t) (i := i) (by rw [HN.out]; exact hlt)
      obtain ⟨g1, o1, v1, u1, rfl, E1⟩ := (HA.out.1.lowB HA.out.2 HI.out.below).elem (by rw [HN.out]; exact hlt) hd1
      obtain ⟨p1, c5, rfl, -⟩ := E1.hl.len
      obtain ⟨p2, c6, rfl, -⟩ := E1.hf.len
      have e1 := E1.kind
      have e2 := E1.text
      have e3 := E1.list
      have e4 := E1.fields
      simp only [Nat.add_zero] at e1 e2 e3 e4
      have hsz := V.T.drop_size hd1
      have hkd := HH.out.2.drop hd1
      have hcl := HI.out.len
      have hown' := HI.out.own
      rw [hd1] at hcl
      unfold wgt at hcl
      have HC := Lib.hid (And.intro hd1 hcl)
      have hbk : Blk4 (wr.alloc (.cells #[.int .u8 k1, .string x1, .slice p1 l1.len c5, .slice p2 f1.len c6] 25)) wr.heap.size 25 _ _ _ _ := heap_alloc_new _ _
      have HBK := Lib.hid hbk
      have hBr := Nat.le_trans hBw HI.out.below.size
      have hA1 := Lib.hid ((Below.refl B wr).alloc hBr (.cells #[.int .u8 k1, .string x1, .slice p1 l1.len c5, .slice p2 f1.len c6] 25))
      have hA2 := Lib.hid (keepX_below lb'.length b' ((Below.refl wr.heap.size wr).alloc (Nat.le_refl _) (.cells #[.int .u8 k1, .string x1, .slice p1 l1.len c5, .slice p2 f1.len c6] 25)))
      have HE := Lib.hid E1
      have HS := Lib.hid (And.intro hsz hkd)
      clear hcl hd1 hbk E1 hsz hkd
      by_cases h0 : i = 0
      · have ti : decide (0 < i) = false := decide_eq_false (by omega)
        have H00 := Lib.hid h0
        clear h0
        go_wp2_with fail
        refine (ih k1 x1 _ _ l1 f1 A B _ lb' _ (by have := HS.out.1; have := HH.out.1; omega) HS.out.2.1.1 HS.out.2.1.2 HS.out.2.2.1 HS.out.2.2.2.1 (by have := HC.out.2; omega) (HE.out.hl.lowB HA.out.2 hA1.out) (HE.out.hf.lowB HA.out.2 hA1.out) HA.out.2 (hown'.alloc _) (by simp; omega)).mono ?_
        rintro e w1 ⟨v', rfl, hown1, hB1, hK1⟩
        have HN2 := Lib.hid (HI.out.step HC.out.1 HS.out.2.1.2 (l2 := lb') (by rw [H00.out, decide_eq_true rfl]; simp [ahead]) hown1 (hA1.out.trans hB1) (hA2.out.same hK1))
        clear hown1 hB1 hK1 hown'
        go_wp2_with fail
        go_roundw
        case rel => exact ⟨i + 1, v', _, rfl, by push_cast; rfl, hlt, HN2⟩
        case measure => show n - (((i : Int) + 1).toNat) < n - ((i : Int).toNat); omega
      · have ti : decide (0 < i) = true := decide_eq_true (by omega)
        have H00 := Lib.hid h0
        clear h0
        go_wp2_with (at_builtin; refine wpList_append_own _ rfl _ _ 81 rfl B 5 i0 (.int .u8 0) 1 1 Tryz.underlying81 hi0 hz0 hz1 hz2 rfl (by decide) _ lb'.length (U.cellsOf lb') rfl ((hown'.alloc _).alloc _) ⟨wr.heap.size + 1, 0, none⟩ 1 1 [.int .u8 44] rfl rfl ?c1 ?c2 ?c3 ?c4 ?c5 ?_)
        case c1 =>
          have es : (wr.alloc (.cells #[.int .u8 k1, .string x1, .slice p1 l1.len c5, .slice p2 f1.len c6] 25)).heap.size = wr.heap.size + 1 := by simp
          rw [← es]
          exact cells1
        case c2 => intro u hu; simp at hu; rcases hu with rfl; rfl
        case c3 => have := HC.out.2; unfold maxLen; omega
        case c4 => have := HC.out.2; omega
        case c5 => simp; omega
        intro v1 w1 hown2 hgrow2 _
        have hown2' : w1.ownsRow B 5 1 v1 (lb' ++ [44]).length (U.cellsOf (lb' ++ [44])) := by
          rw [List.length_append, ← U.cellsOf_append]
          exact hown2
        have hb2 := Lib.hid (grows_below hA1.out (by simp; omega) (.inr ⟨_, .inl hgrow2⟩) (fun k hk => (hown'.lt k hk).1))
        have hk2 := Lib.hid (hA2.out.same (keepX_grows (n := lb'.length) (hown'.alloc _) (.inr ⟨_, .inl hgrow2⟩)))
        have hbx := Lib.hid (HBK.out.same (keepX_grows (n := lb'.length) (hown'.alloc _) (.inr ⟨_, .inl hgrow2⟩) _ _ _ _ HBK.out (.inl (by decide))))
        obtain ⟨q0, q1, q2, q3⟩ := hbx.out.box
        clear hown2 hgrow2 hown'
        go_wp2_with fail
        refine (ih k1 x1 _ _ l1 f1 A B v1 (lb' ++ [44]) _ (by have := HS.out.1; have := HH.out.1; omega) HS.out.2.1.1 HS.out.2.1.2 HS.out.2.2.1 HS.out.2.2.2.1 (by have := HC.out.2; simp only [List.length_append, List.length_singleton]; omega) (HE.out.hl.lowB HA.out.2 hb2.out) (HE.out.hf.lowB HA.out.2 hb2.out) HA.out.2 hown2' (Nat.le_trans hBr hb2.out.size)).mono ?_
        rintro e w2 ⟨v', rfl, hown1, hB1, hK1⟩
        have HN2 := Lib.hid (HI.out.step HC.out.1 HS.out.2.1.2 (l2 := lb' ++ [44]) (by rw [decide_eq_false H00.out]; simp [ahead]) hown1 (hb2.out.trans hB1) (hk2.out.onto hK1 hown2' (by simp)))
        clear hown1 hB1 hK1 hown2'
        go_wp2_with fail
        go_roundw
        case rel => exact ⟨i + 1, v', _, rfl, by push_cast; rfl, hlt, HN2⟩
        case measure => show n - (((i : Int) + 1).toNat) < n - ((i : Int).toNat); omega
    · obtain rfl : i = n := by omega
      have hfin : lb' = aT t 0 true lb := by
        have := HI.out.eq
        rw [← HN.out, V.T.drop_len] at this
        exact this
      have HF := Lib.hid (show WrK B lb.length b (aT t 0 true lb) w (.returned b') wr from ⟨b', rfl, by rw [← hfin]; exact HI.out.own, HI.out.below, HI.out.keep⟩)
      clear hfin
      go_wp2_with fail
      go_ret
      exact HF.out
end Go.Proofs.YtoolkaahjmnjeaaGreatDoor
