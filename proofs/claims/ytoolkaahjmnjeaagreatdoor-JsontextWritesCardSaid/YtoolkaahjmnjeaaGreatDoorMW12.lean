/- The program's reader of JSON, in plain functions: a value. Conditions: none. -/
import Derived.Test.YtoolkaahjmnjeaaGreatDoorMW11
import Derived.Test.YtoolkaahjmnjeaaGreatDoorMW03
import Derived.Deep.RegionHeld3
import Derived.KernelRfl
namespace Go.Proofs.YtoolkaahjmnjeaaGreatDoor
open Go

namespace V
def T.snoc : T → ByteArray → Nat → ByteArray → T → T → T
  | .nil, nm, k, x, l, f => .cons nm k x l f .nil
  | .cons a b c d e tl, nm, k, x, l, f => .cons a b c d e (tl.snoc nm k x l f)
/-- a field, in the place of one of its name -/
def T.put : T → ByteArray → Nat → ByteArray → T → T → T
  | .nil, nm, k, x, l, f => .cons nm k x l f .nil
  | .cons a b c d e tl, nm, k, x, l, f => if a = nm then .cons a k x l f tl else .cons a b c d e (tl.put nm k x l f)
theorem T.snoc_len (t : T) (nm : ByteArray) (k : Nat) (x : ByteArray) (l f : T) : (t.snoc nm k x l f).len = t.len + 1 := by
  induction t with
  | nil => rfl
  | cons a b c d e tl _ _ ih => exact congrArg (· + 1) ih
theorem T.put_len (t : T) (nm : ByteArray) (k : Nat) (x : ByteArray) (l f : T) : (t.put nm k x l f).len ≤ t.len + 1 := by
  induction t with
  | nil => exact Nat.le_refl _
  | cons a b c d e tl _ _ ih =>
    unfold put
    split
    · exact Nat.le_succ _
    · exact Nat.succ_le_succ ih
theorem T.snoc_new (t : T) (nm : ByteArray) (k : Nat) (x : ByteArray) (l f : T) : (t.snoc nm k x l f).drop t.len = .cons nm k x l f .nil := by
  induction t with
  | nil => rfl
  | cons a b c d e tl _ _ ih => exact ih
theorem T.snoc_old {t : T} {i : Nat} {nm : ByteArray} {k : Nat} {x : ByteArray} {l f tl : T} (h : t.drop i = .cons nm k x l f tl) (nm' : ByteArray) (k' : Nat) (x' : ByteArray) (l' f' : T) :
    (t.snoc nm' k' x' l' f').drop i = .cons nm k x l f (tl.snoc nm' k' x' l' f') := by
  induction i generalizing t with
  | zero => rw [drop_zero] at h; subst h; rfl
  | succ i ih =>
    cases t with
    | nil => cases h
    | cons a b c d e tl2 => exact ih (t := tl2) h
end V

abbrev VR := (Nat × ByteArray × V.T × V.T) × Nat × Nat
/-- one element of a list -/
def lo (vl : Nat → VR) (q : Nat) (t : V.T) : V.T × Nat × Nat :=
  if (vl q).2.2 = 0 then (t.snoc ⟨#[]⟩ (vl q).1.1 (vl q).1.2.1 (vl q).1.2.2.1 (vl q).1.2.2.2, (vl q).2.1, 0) else (t, (vl q).2)
/-- a field's name and the colon behind it -/
def nmc (s : ByteArray) (q : Nat) : ByteArray × Nat × Nat :=
  if (ptw s (J.bl s q 0)).2.2 = 0 then
    (if J.is s (J.bl s (ptw s (J.bl s q 0)).2.1 0) 0 58 = true then (enc (ptw s (J.bl s q 0)).1, J.bl s (ptw s (J.bl s q 0)).2.1 0 + 1, 0) else (⟨#[]⟩, J.bl s (ptw s (J.bl s q 0)).2.1 0, 30))
  else (⟨#[]⟩, (ptw s (J.bl s q 0)).2)
/-- one field of an object -/
def fo (s : ByteArray) (vl : Nat → VR) (q : Nat) (t : V.T) : V.T × Nat × Nat :=
  if (nmc s q).2.2 = 0 then
    (if (vl (nmc s q).2.1).2.2 = 0 then (t.put (nmc s q).1 (vl (nmc s q).2.1).1.1 (vl (nmc s q).2.1).1.2.1 (vl (nmc s q).2.1).1.2.2.1 (vl (nmc s q).2.1).1.2.2.2, (vl (nmc s q).2.1).2.1, 0) else (t, (vl (nmc s q).2.1).2))
  else (t, (nmc s q).2)
def wn : ByteArray := ⟨#[110, 117, 108, 108]⟩
def wf : ByteArray := ⟨#[102, 97, 108, 115, 101]⟩
def wt : ByteArray := ⟨#[116, 114, 117, 101]⟩
/-- a value without blanks around it, so many lists and objects being open -/
def br (s : ByteArray) (d : Nat) (vl : Nat → VR) (p : Nat) : VR :=
  if J.pk s p = 110 then ((0, ⟨#[]⟩, .nil, .nil), J.al s wn 4 (p, 0))
  else if J.pk s p = 102 then ((1, ⟨#[]⟩, .nil, .nil), J.al s wf 5 (p, 0))
  else if J.pk s p = 116 then ((2, ⟨#[]⟩, .nil, .nil), J.al s wt 4 (p, 0))
  else if J.pk s p = 34 then ((4, enc (ptw s p).1, .nil, .nil), (ptw s p).2)
  else if J.pk s p = 91 then ((5, ⟨#[]⟩, (its s 93 (lo vl) d p .nil).1, .nil), (its s 93 (lo vl) d p .nil).2)
  else if J.pk s p = 123 then ((6, ⟨#[]⟩, .nil, (its s 125 (fo s vl) d p .nil).1), (its s 125 (fo s vl) d p .nil).2)
  else ((3, s.extract p (J.nm s p 0).1, .nil, .nil), J.nm s p 0)
/-- blanks behind it -/
def ar (s : ByteArray) (r : VR) : VR := if r.2.2 = 0 then (r.1, J.bl s r.2.1 0, 0) else r
/-- a value with the blanks around it; n: how many more lists and objects may be opened -/
def vl (s : ByteArray) : Nat → Nat → VR
  | 0, p => ar s (br s 64 (fun q => ((0, ⟨#[]⟩, .nil, .nil), q, 30)) (J.bl s p 0))
  | n + 1, p => ar s (br s (63 - n) (vl s n) (J.bl s p 0))
def inn (s : ByteArray) : Nat → Nat → VR
  | 0 => fun q => ((0, ⟨#[]⟩, .nil, .nil), q, 30)
  | n + 1 => vl s n
theorem vl_is (s : ByteArray) (n p : Nat) (h : n ≤ 64) : vl s n p = ar s (br s (64 - n) (inn s n) (J.bl s p 0)) := by
  cases n with
  | zero => rfl
  | succ n => show ar s (br s (63 - n) _ _) = _; rw [show 64 - (n + 1) = 63 - n by omega]; rfl
def Le (s : ByteArray) (p q : Nat) : Prop := p ≤ q ∧ q ≤ s.size
theorem ptx_le (s : ByteArray) : ∀ (f q : Nat) (L : List Nat), q ≤ s.size → Le s q (ptx s f q L).2.1
  | 0, q, L, h => ⟨Nat.le_refl _, h⟩
  | f + 1, q, L, h => by
    have hc := cr_le h
    unfold ptx
    split
    · rename_i hi
      exact ⟨Nat.le_succ _, (J.of_is hi).2.1⟩
    · split
      · have := ptx_le s f (cr s q).2.1 (joi L (cr s q).1) hc.2
        exact ⟨Nat.le_trans hc.1 this.1, this.2⟩
      · exact hc
theorem ptw_le {s : ByteArray} {p : Nat} (h : p ≤ s.size) : Le s p (ptw s p).2.1 := by
  unfold ptw
  split
  · rename_i hi
    have := ptx_le s (s.size - p) (p + 1) [] (J.of_is hi).2.1
    exact ⟨Nat.le_trans (Nat.le_succ _) this.1, this.2⟩
  · exact ⟨Nat.le_refl _, h⟩
theorem nmc_le {s : ByteArray} {q : Nat} (h : q ≤ s.size) : Le s q (nmc s q).2.1 := by
  have h1 := J.bl_le (s := s) 0 h
  have h2 := ptw_le h1.2
  have h3 := J.bl_le (s := s) 0 h2.2
  unfold nmc
  split
  · split
    · rename_i hi
      have := (J.of_is hi).2.1
      exact ⟨by have := h2.1; simp only []; omega, this⟩
    · exact ⟨by have := h2.1; simp only []; omega, h3.2⟩
  · exact ⟨Nat.le_trans h1.1 h2.1, h2.2⟩
theorem lo_le {s : ByteArray} {v : Nat → VR} (hv : ∀ q, q ≤ s.size → Le s q (v q).2.1) (q : Nat) (t : V.T) (h : q ≤ s.size) : Le s q (lo v q t).2.1 := by
  unfold lo
  split
  · exact hv q h
  · exact hv q h
theorem fo_le {s : ByteArray} {v : Nat → VR} (hv : ∀ q, q ≤ s.size → Le s q (v q).2.1) (q : Nat) (t : V.T) (h : q ≤ s.size) : Le s q (fo s v q t).2.1 := by
  have h1 := nmc_le h
  have h2 := hv _ h1.2
  unfold fo
  split
  · split
    · exact ⟨Nat.le_trans h1.1 h2.1, h2.2⟩
    · exact ⟨Nat.le_trans h1.1 h2.1, h2.2⟩
  · exact h1
theorem its_le {A : Type} {s : ByteArray} {c : Nat} {one : Nat → A → A × Nat × Nat} (hle : ∀ q a, q ≤ s.size → Le s q (one q a).2.1) (d p : Nat) (a : A) (h : p < s.size) : Le s p (its s c one d p a).2.1 := by
  unfold its
  split
  · exact ⟨Nat.le_refl _, Nat.le_of_lt h⟩
  · have h1 := J.bl_le (s := s) (p := p + 1) 0 h
    have h2 := itB_le (c := c) hle (J.bl s (p + 1) 0) a h1.2
    exact ⟨by omega, h2.2⟩
theorem pk_lt_size {s : ByteArray} {p k : Nat} (h : J.pk s p = k) (hk : 0 < k) : p < s.size := by
  unfold J.pk at h
  split at h
  · assumption
  · omega
theorem br_le {s : ByteArray} {v : Nat → VR} (hv : ∀ q, q ≤ s.size → Le s q (v q).2.1) (d p : Nat) (h : p ≤ s.size) : Le s p (br s d v p).2.1 := by
  unfold br
  split
  · exact J.al_le 0 h 4
  · split
    · exact J.al_le 0 h 5
    · split
      · exact J.al_le 0 h 4
      · split
        · exact ptw_le h
        · split
          · rename_i hk; exact its_le (fun q a hq => lo_le hv q a hq) d p .nil (pk_lt_size hk (by decide))
          · split
            · rename_i hk; exact its_le (fun q a hq => fo_le hv q a hq) d p .nil (pk_lt_size hk (by decide))
            · exact J.nm_le 0 h
theorem ar_le {s : ByteArray} {p : Nat} {r : VR} (h : Le s p r.2.1) : Le s p (ar s r).2.1 := by
  unfold ar
  split
  · have := J.bl_le (s := s) 0 h.2
    exact ⟨Nat.le_trans h.1 this.1, this.2⟩
  · exact h
theorem vl_le (s : ByteArray) : ∀ (n p : Nat), p ≤ s.size → Le s p (vl s n p).2.1
  | 0, p, h => by
    have h1 := J.bl_le (s := s) 0 h
    have h2 := ar_le (br_le (s := s) (v := fun q => ((0, ⟨#[]⟩, .nil, .nil), q, 30)) (fun q hq => ⟨Nat.le_refl _, hq⟩) 64 (J.bl s p 0) h1.2)
    exact ⟨Nat.le_trans h1.1 h2.1, h2.2⟩
  | n + 1, p, h => by
    have h1 := J.bl_le (s := s) 0 h
    have h2 := ar_le (br_le (s := s) (v := vl s n) (fun q hq => vl_le s n q hq) (63 - n) (J.bl s p 0) h1.2)
    exact ⟨Nat.le_trans h1.1 h2.1, h2.2⟩
theorem inn_le (s : ByteArray) (n : Nat) : ∀ q, q ≤ s.size → Le s q (inn s n q).2.1 := by
  cases n with
  | zero => exact fun q hq => ⟨Nat.le_refl _, hq⟩
  | succ n => exact fun q hq => vl_le s n q hq
end Go.Proofs.YtoolkaahjmnjeaaGreatDoor

namespace Go.Proofs.YtoolkaahjmnjeaaGreatDoor
open Go

section
variable {P : Program} {ops : Array Oper} {Q : Exit → Act → World → Prop} {md : Region.Mode} {S : World → Prop} {z : Nat}

/-- whoever an operation waits for -/
def deps (md : Region.Mode) (ops : Array Oper) (j : Nat) : List Nat :=
  match ops[j]? with
  | some o => (o.after.toList.filter (Region.binds md)).map (·.on)
  | none => []
def addNew (acc : List Nat) (k : Nat) : List Nat := if acc.contains k then acc else acc ++ [k]
def close (md : Region.Mode) (ops : Array Oper) : Nat → List Nat → List Nat
  | 0, l => l
  | f + 1, l => close md ops f ((l.flatMap (deps md ops)).foldl addNew l)
/-- operation z waits for all others -/
def lastB (md : Region.Mode) (ops : Array Oper) (z : Nat) : Bool := (List.range ops.size).all fun j => decide (j = z) || (close md ops ops.size (deps md ops z)).contains j
/-- whoever has come up has waited -/
def closedB (md : Region.Mode) (ops : Array Oper) (listed : Array Bool) : Bool := (List.range ops.size).all fun j => !(listed.getD j false) || (deps md ops j).all fun k => listed.getD k false
def Closed (md : Region.Mode) (ops : Array Oper) (listed : Array Bool) : Prop := ∀ j, listed.getD j false = true → ∀ k ∈ deps md ops j, listed.getD k false = true
theorem closed_of {listed : Array Bool} (h : closedB md ops listed = true) : Closed md ops listed := fun j hj k hk => by
  by_cases hlt : j < ops.size
  · have := List.all_eq_true.1 h j (List.mem_range.2 hlt)
    rw [hj, Bool.not_true, Bool.false_or] at this
    exact List.all_eq_true.1 this k hk
  · unfold deps at hk
    rw [Array.getElem?_eq_none (by omega)] at hk
    cases hk
theorem mem_addNew {acc : List Nat} {k x : Nat} (h : x ∈ addNew acc k) : x ∈ acc ∨ x = k := by
  unfold addNew at h
  split at h
  · exact .inl h
  · rcases List.mem_append.1 h with h | h
    · exact .inl h
    · exact .inr (List.mem_singleton.1 h)
theorem mem_foldl_add (ks : List Nat) : ∀ {acc : List Nat} {x : Nat}, x ∈ ks.foldl addNew acc → x ∈ acc ∨ x ∈ ks := by
  induction ks with
  | nil => intro acc x h; exact .inl h
  | cons k ks ih =>
    intro acc x h
    rcases ih h with h | h
    · rcases mem_addNew h with h | h
      · exact .inl h
      · exact .inr (by rw [h]; exact List.mem_cons_self)
    · exact .inr (List.mem_cons_of_mem _ h)
theorem close_listed {listed : Array Bool} (hc : Closed md ops listed) (f : Nat) : ∀ (l : List Nat), (∀ k ∈ l, listed.getD k false = true) → ∀ k ∈ close md ops f l, listed.getD k false = true := by
  induction f with
  | zero => intro l h k hk; exact h k hk
  | succ f ih =>
    intro l h k hk
    refine ih _ (fun x hx => ?_) k hk
    rcases mem_foldl_add _ hx with hx | hx
    · exact h x hx
    · obtain ⟨j, hj, hxj⟩ := List.mem_flatMap.1 hx
      exact hc j (h j hj) x hxj
theorem ready_deps {j : Nat} {listed : Array Bool} (h : j ∈ Region.ready md ops listed) : ∀ k ∈ deps md ops j, listed.getD k false = true := fun k hk => by
  obtain ⟨_, o, ho, hall⟩ := mem_ready.1 h
  unfold deps at hk
  rw [ho] at hk
  obtain ⟨e, he, rfl⟩ := List.mem_map.1 hk
  obtain ⟨he1, he2⟩ := List.mem_filter.1 he
  exact hall e (Array.mem_toList_iff.1 he1) he2
theorem last_listed {listed : Array Bool} (hc : Closed md ops listed) (hl : lastB md ops z = true) (hz : z ∈ Region.ready md ops listed) {j : Nat} (hj : j < ops.size) (hne : j ≠ z) : listed.getD j false = true := by
  have h := List.all_eq_true.1 hl j (List.mem_range.2 hj)
  rw [Bool.or_eq_true] at h
  rcases h with h | h
  · exact absurd (of_decide_eq_true h) hne
  · exact close_listed hc _ _ (ready_deps hz) j (by simpa using h)
theorem closed_set {j : Nat} {listed : Array Bool} (hc : Closed md ops listed) (hj : j ∈ Region.ready md ops listed) : Closed md ops (listed.setIfInBounds j true) := fun i hi k hk => by
  by_cases hij : j = i
  · subst hij; exact getD_set_true (ready_deps hj k hk)
  · rw [getD_set_ne false hij] at hi
    exact getD_set_true (hc i hi k hk)

/-- whatever order is picked: S holds behind every operation but z -/
def wpAnyZ (P : Program) (md : Region.Mode) (ops : Array Oper) (Q : Exit → Act → World → Prop) (S : World → Prop) (z : Nat) : Nat → Array Bool → Act → World → Prop
  | 0, listed, a, w => Region.ready md ops listed = [] ∧ Q .normal a w
  | fuel + 1, listed, a, w =>
    (Region.ready md ops listed = [] → Q .normal a w) ∧
    ∀ i ∈ Region.ready md ops listed, wpOp P ops Q i (fun a' w' => (i ≠ z → S w') ∧ wpAnyZ P md ops Q S z fuel (listed.setIfInBounds i true) a' w') a w
theorem wpAny_of_Z : ∀ (fuel : Nat) (listed : Array Bool) (a : Act) (w : World), wpAnyZ P md ops Q S z fuel listed a w → wpAny P md ops Q fuel listed a w
  | 0, _, _, _, h => h
  | fuel + 1, _, _, _, h => ⟨h.1, fun i hi => wpOp_mono (fun a' w' h' => wpAny_of_Z fuel _ a' w' h'.2) (h.2 i hi)⟩
theorem wpAnyZ_first {i : Nat} {oi : Oper} {v : Value} (hi : ops[i]? = some oi) (hsel : ∀ (j : Nat) (o : Oper) cs b, ops[j]? = some o → o.op ≠ .select cs b)
    (hQ : ∀ c a w, Q (.panic c) (a.put oi.dst v) w → Q (.panic c) a w) (hl : lastB md ops z = true) (hne : i ≠ z) :
    ∀ (fuel : Nat) (listed : Array Bool) (a : Act) (w : World),
      (∀ j oj, ops[j]? = some oj → j ≠ i → listed.getD j true = false → (∀ e ∈ oj.after, Region.binds md e = true → e.on ≠ i) → oi.apart ops oj = true) →
      i ∈ Region.ready md ops listed → YieldsIf P ops S oi v a → S w → Closed md ops listed →
      wpAnyZ P md ops Q S z fuel (listed.setIfInBounds i true) (a.put oi.dst v) w → wpAnyZ P md ops Q S z (fuel + 1) listed a w := by
  intro fuel
  induction fuel with
  | zero =>
    intro listed a w _ hr hy hS _ H
    refine ⟨fun h => (by rw [h] at hr; cases hr), fun j hj => ?_⟩
    by_cases hji : j = i
    · subst hji; exact hy.wpOp hi hS ⟨fun _ => hS, H⟩
    · have := ready_mono hj hji
      rw [H.1] at this
      cases this
  | succ fuel ih =>
    intro listed a w hfree hr hy hS hc H
    refine ⟨fun h => (by rw [h] at hr; cases hr), fun j hj => ?_⟩
    by_cases hji : j = i
    · subst hji; exact hy.wpOp hi hS ⟨fun _ => hS, H⟩
    · have h1 := H.2 j (ready_mono hj hji)
      obtain ⟨hjun, oj, hoj, hall⟩ := mem_ready.1 hj
      have hilt : i < ops.size := (Array.getElem?_eq_some_iff.1 hi).1
      have hun := (mem_ready.1 hr).1
      have hnl : listed.getD i false = false := by
        rcases Nat.lt_or_ge i listed.size with h' | h'
        · simp [h'] at hun ⊢; exact hun
        · simp [Array.getElem?_eq_none h'] at hun
      have hjz : j ≠ z := fun e => by
        subst e
        have := last_listed hc hl hj hilt hne
        rw [hnl] at this
        cases this
      have hnot : ∀ e ∈ oj.after, Region.binds md e = true → e.on ≠ i := fun e he hb heq => by
        have h1 := hall e he hb
        rw [heq, hnl] at h1
        cases h1
      have h2 := wpOp_putIf hoj (hfree j oj hoj hji hjun hnot) (fun cs b => hsel i oi cs b hi) (fun cs b => hsel j oj cs b hoj) hQ hy h1
      have hfree' : ∀ k ok, ops[k]? = some ok → k ≠ i → (listed.setIfInBounds j true).getD k true = false →
          (∀ e ∈ ok.after, Region.binds md e = true → e.on ≠ i) → oi.apart ops ok = true := fun k ok hk hki hun hno => by
        refine hfree k ok hk hki ?_ hno
        by_cases hjk : j = k
        · subst hjk; exact hjun
        · rw [getD_set_ne true hjk] at hun; exact hun
      refine wpOp_mono (fun a' w' h3 => ⟨fun _ => h3.2.1 hjz, ih (listed.setIfInBounds j true) a' w' hfree' (ready_mono hr (Ne.symm hji)) h3.1 (h3.2.1 hjz) (closed_set hc hj) ?_⟩) h2
      rw [Array.setIfInBounds_comm _ _ hji]
      exact h3.2.2
/-- the beginning -/
theorem wp_region_last {id : Nat} {a : Act} {w : World} (hm : P.follows .mixedOrders = true)
    (h : wpAnyZ P .any ops Q S z ops.size (Array.replicate ops.size false) a w.drew) : (Code.region id ops true).wp P Q a w :=
  wp_region_any hm (wpAny_of_Z _ _ _ _ h)
/-- an operation that yields its value in every world that meets S is taken first -/
theorem wpAnyZ_take (i : Nat) {oi : Oper} {v : Value} {fuel : Nat} {listed : Array Bool} {a : Act} {w : World} (hi : ops[i]? = some oi)
    (hs : Region.noSelect ops = true) (hf : Region.free md ops listed i = true) (hr : (Region.ready md ops listed).contains i = true)
    (hQ : ∀ c a w, Q (.panic c) (a.put oi.dst v) w → Q (.panic c) a w) (hl : lastB md ops z = true) (hc : closedB md ops listed = true) (hne : i ≠ z) (hS : S w)
    (hw : Region.wanted oi (yielded ops a.tmps) = true) (hy : ∀ w, S w → (execOp a.eval oi).run P w = .ok (.value v) w)
    (h : wpAnyZ P md ops Q S z fuel (listed.setIfInBounds i true) (a.put oi.dst v) w) : wpAnyZ P md ops Q S z (fuel + 1) listed a w :=
  wpAnyZ_first hi (Region.noSelect_spec hs) hQ hl hne fuel listed a w (Region.free_spec hi hf) (by simpa using hr) (.inl ⟨hw, hy⟩) hS (closed_of hc) h
/-- the one operation that may come up is carried out, and S shown anew -/
theorem wpAnyZ_op (i : Nat) {o : Oper} {fuel : Nat} {listed : Array Bool} {a : Act} {w : World} (hr : Region.ready md ops listed = [i]) (ho : ops[i]? = some o)
    (h : ∀ K' : Act → World → Prop, Shut (∀ a w, S w → wpAnyZ P md ops Q S z fuel (listed.setIfInBounds i true) a w → K' a w) → if Region.wanted o (yielded ops a.tmps) = true then Oper.wp P o a w K' Q else K' (a.put o.dst undef) w) :
    wpAnyZ P md ops Q S z (fuel + 1) listed a w :=
  ⟨(fun h0 => by rw [hr] at h0; cases h0), fun j hj => by
    rw [hr] at hj
    obtain rfl := List.mem_singleton.1 hj
    exact wpOp_step ho (fun K' hK => h K' (fun a w hS hW => hK a w ⟨fun _ => hS, hW⟩))⟩
/-- the last one -/
theorem wpAnyZ_end {o : Oper} {fuel : Nat} {listed : Array Bool} {a : Act} {w : World} (hr : Region.ready md ops listed = [z]) (ho : ops[z]? = some o) (he : Region.ready md ops (listed.setIfInBounds z true) = [])
    (h : ∀ K' : Act → World → Prop, Shut (∀ a w, Q .normal a w → K' a w) → if Region.wanted o (yielded ops a.tmps) = true then Oper.wp P o a w K' Q else K' (a.put o.dst undef) w) :
    wpAnyZ P md ops Q S z (fuel + 1) listed a w :=
  ⟨(fun h0 => by rw [hr] at h0; cases h0), fun j hj => by
    rw [hr] at hj
    obtain rfl := List.mem_singleton.1 hj
    refine wpOp_step ho (fun K' hK => h K' (fun a w hQ => hK a w ⟨fun hne => absurd rfl hne, ?_⟩))
    cases fuel with
    | zero => exact ⟨he, hQ⟩
    | succ f => exact ⟨fun _ => hQ, by rw [he]; simp⟩⟩
end
end Go.Proofs.YtoolkaahjmnjeaaGreatDoor
