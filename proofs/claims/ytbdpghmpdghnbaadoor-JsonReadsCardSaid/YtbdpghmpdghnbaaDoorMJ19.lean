/- The program's reader of JSON, in plain functions: a value. Conditions: none. -/
import Derived.Test.YtbdpghmpdghnbaaDoorMJ18
import Derived.Test.YtbdpghmpdghnbaaDoorMJ04
namespace Go.Proofs.YtbdpghmpdghnbaaDoor
open Go

namespace V
def T.snoc : T → ByteArray → Nat → ByteArray → T → T → T
  | .nil, nm, k, x, l, f => .cons nm k x l f .nil
  | .cons a b c d e tl, nm, k, x, l, f => .cons a b c d e (tl.snoc nm k x l f)
/-- a field, in the place of one of its name -/
def T.put : T → ByteArray → Nat → ByteArray → T → T → T
  | .nil, nm, k, x, l, f => .cons nm k x l f .nil
  | .cons a b c d e tl, nm, k, x, l, f => if a = nm then .cons a k x l f tl else .cons a b c d e (tl.put nm k x l f)
theorem T.snoc_len (t : T) (nm : ByteArray) (k : Nat) (x : ByteArray) (l f : T) : (t.snoc nm k x l f).len = t.len + 1 := by
  induction t with
  | nil => rfl
  | cons a b c d e tl _ _ ih => exact congrArg (· + 1) ih
theorem T.put_len (t : T) (nm : ByteArray) (k : Nat) (x : ByteArray) (l f : T) : (t.put nm k x l f).len ≤ t.len + 1 := by
  induction t with
  | nil => exact Nat.le_refl _
  | cons a b c d e tl _ _ ih =>
    unfold put
    split
    · exact Nat.le_succ _
    · exact Nat.succ_le_succ ih
theorem T.snoc_new (t : T) (nm : ByteArray) (k : Nat) (x : ByteArray) (l f : T) : (t.snoc nm k x l f).drop t.len = .cons nm k x l f .nil := by
  induction t with
  | nil => rfl
  | cons a b c d e tl _ _ ih => exact ih
theorem T.snoc_old {t : T} {i : Nat} {nm : ByteArray} {k : Nat} {x : ByteArray} {l f tl : T} (h : t.drop i = .cons nm k x l f tl) (nm' : ByteArray) (k' : Nat) (x' : ByteArray) (l' f' : T) :
    (t.snoc nm' k' x' l' f').drop i = .cons nm k x l f (tl.snoc nm' k' x' l' f') := by
  induction i generalizing t with
  | zero => rw [drop_zero] at h; subst h; rfl
  | succ i ih =>
    cases t with
    | nil => cases h
    | cons a b c d e tl2 => exact ih (t := tl2) h
end V

abbrev VR := (Nat × ByteArray × V.T × V.T) × Nat × Nat
/-- one element of a list -/
def lo (vl : Nat → VR) (q : Nat) (t : V.T) : V.T × Nat × Nat :=
  if (vl q).2.2 = 0 then (t.snoc ⟨#[]⟩ (vl q).1.1 (vl q).1.2.1 (vl q).1.2.2.1 (vl q).1.2.2.2, (vl q).2.1, 0) else (t, (vl q).2)
/-- a field's name and the colon behind it -/
def nmc (s : ByteArray) (q : Nat) : ByteArray × Nat × Nat :=
  if (ptw s (J.bl s q 0)).2.2 = 0 then
    (if J.is s (J.bl s (ptw s (J.bl s q 0)).2.1 0) 0 58 = true then (enc (ptw s (J.bl s q 0)).1, J.bl s (ptw s (J.bl s q 0)).2.1 0 + 1, 0) else (⟨#[]⟩, J.bl s (ptw s (J.bl s q 0)).2.1 0, 30))
  else (⟨#[]⟩, (ptw s (J.bl s q 0)).2)
/-- one field of an object -/
def fo (s : ByteArray) (vl : Nat → VR) (q : Nat) (t : V.T) : V.T × Nat × Nat :=
  if (nmc s q).2.2 = 0 then
    (if (vl (nmc s q).2.1).2.2 = 0 then (t.put (nmc s q).1 (vl (nmc s q).2.1).1.1 (vl (nmc s q).2.1).1.2.1 (vl (nmc s q).2.1).1.2.2.1 (vl (nmc s q).2.1).1.2.2.2, (vl (nmc s q).2.1).2.1, 0) else (t, (vl (nmc s q).2.1).2))
  else (t, (nmc s q).2)
def wn : ByteArray := ⟨#[110, 117, 108, 108]⟩
def wf : ByteArray := ⟨#[102, 97, 108, 115, 101]⟩
def wt : ByteArray := ⟨#[116, 114, 117, 101]⟩
/-- a value without blanks around it, so many lists and objects being open -/
def br (s : ByteArray) (d : Nat) (vl : Nat → VR) (p : Nat) : VR :=
  if J.pk s p = 110 then ((0, ⟨#[]⟩, .nil, .nil), J.al s wn 4 (p, 0))
  else if J.pk s p = 102 then ((1, ⟨#[]⟩, .nil, .nil), J.al s wf 5 (p, 0))
  else if J.pk s p = 116 then ((2, ⟨#[]⟩, .nil, .nil), J.al s wt 4 (p, 0))
  else if J.pk s p = 34 then ((4, enc (ptw s p).1, .nil, .nil), (ptw s p).2)
  else if J.pk s p = 91 then ((5, ⟨#[]⟩, (its s 93 (lo vl) d p .nil).1, .nil), (its s 93 (lo vl) d p .nil).2)
  else if J.pk s p = 123 then ((6, ⟨#[]⟩, .nil, (its s 125 (fo s vl) d p .nil).1), (its s 125 (fo s vl) d p .nil).2)
  else ((3, s.extract p (J.nm s p 0).1, .nil, .nil), J.nm s p 0)
/-- blanks behind it -/
def ar (s : ByteArray) (r : VR) : VR := if r.2.2 = 0 then (r.1, J.bl s r.2.1 0, 0) else r
/-- a value with the blanks around it; n: how many more lists and objects may be opened -/
def vl (s : ByteArray) : Nat → Nat → VR
  | 0, p => ar s (br s 64 (fun q => ((0, ⟨#[]⟩, .nil, .nil), q, 30)) (J.bl s p 0))
  | n + 1, p => ar s (br s (63 - n) (vl s n) (J.bl s p 0))
def inn (s : ByteArray) : Nat → Nat → VR
  | 0 => fun q => ((0, ⟨#[]⟩, .nil, .nil), q, 30)
  | n + 1 => vl s n
theorem vl_is (s : ByteArray) (n p : Nat) (h : n ≤ 64) : vl s n p = ar s (br s (64 - n) (inn s n) (J.bl s p 0)) := by
  cases n with
  | zero => rfl
  | succ n => show ar s (br s (63 - n) _ _) = _; rw [show 64 - (n + 1) = 63 - n by omega]; rfl
def Le (s : ByteArray) (p q : Nat) : Prop := p ≤ q ∧ q ≤ s.size
theorem ptx_le (s : ByteArray) : ∀ (f q : Nat) (L : List Nat), q ≤ s.size → Le s q (ptx s f q L).2.1
  | 0, q, L, h => ⟨Nat.le_refl _, h⟩
  | f + 1, q, L, h => by
    have hc := cr_le h
    unfold ptx
    split
    · rename_i hi
      exact ⟨Nat.le_succ _, (J.of_is hi).2.1⟩
    · split
      · have := ptx_le s f (cr s q).2.1 (joi L (cr s q).1) hc.2
        exact ⟨Nat.le_trans hc.1 this.1, this.2⟩
      · exact hc
theorem ptw_le {s : ByteArray} {p : Nat} (h : p ≤ s.size) : Le s p (ptw s p).2.1 := by
  unfold ptw
  split
  · rename_i hi
    have := ptx_le s (s.size - p) (p + 1) [] (J.of_is hi).2.1
    exact ⟨Nat.le_trans (Nat.le_succ _) this.1, this.2⟩
  · exact ⟨Nat.le_refl _, h⟩
theorem nmc_le {s : ByteArray} {q : Nat} (h : q ≤ s.size) : Le s q (nmc s q).2.1 := by
  have h1 := J.bl_le (s := s) 0 h
  have h2 := ptw_le h1.2
  have h3 := J.bl_le (s := s) 0 h2.2
  unfold nmc
  split
  · split
    · rename_i hi
      have := (J.of_is hi).2.1
      exact ⟨by have := h2.1; simp only []; omega, this⟩
    · exact ⟨by have := h2.1; simp only []; omega, h3.2⟩
  · exact ⟨Nat.le_trans h1.1 h2.1, h2.2⟩
theorem lo_le {s : ByteArray} {v : Nat → VR} (hv : ∀ q, q ≤ s.size → Le s q (v q).2.1) (q : Nat) (t : V.T) (h : q ≤ s.size) : Le s q (lo v q t).2.1 := by
  unfold lo
  split
  · exact hv q h
  · exact hv q h
theorem fo_le {s : ByteArray} {v : Nat → VR} (hv : ∀ q, q ≤ s.size → Le s q (v q).2.1) (q : Nat) (t : V.T) (h : q ≤ s.size) : Le s q (fo s v q t).2.1 := by
  have h1 := nmc_le h
  have h2 := hv _ h1.2
  unfold fo
  split
  · split
    · exact ⟨Nat.le_trans h1.1 h2.1, h2.2⟩
    · exact ⟨Nat.le_trans h1.1 h2.1, h2.2⟩
  · exact h1
theorem its_le {A : Type} {s : ByteArray} {c : Nat} {one : Nat → A → A × Nat × Nat} (hle : ∀ q a, q ≤ s.size → Le s q (one q a).2.1) (d p : Nat) (a : A) (h : p < s.size) : Le s p (its s c one d p a).2.1 := by
  unfold its
  split
  · exact ⟨Nat.le_refl _, Nat.le_of_lt h⟩
  · have h1 := J.bl_le (s := s) (p := p + 1) 0 h
    have h2 := itB_le (c := c) hle (J.bl s (p + 1) 0) a h1.2
    exact ⟨by omega, h2.2⟩
theorem pk_lt_size {s : ByteArray} {p k : Nat} (h : J.pk s p = k) (hk : 0 < k) : p < s.size := by
  unfold J.pk at h
  split at h
  · assumption
  · omega
theorem br_le {s : ByteArray} {v : Nat → VR} (hv : ∀ q, q ≤ s.size → Le s q (v q).2.1) (d p : Nat) (h : p ≤ s.size) : Le s p (br s d v p).2.1 := by
  unfold br
  split
  · exact J.al_le 0 h 4
  · split
    · exact J.al_le 0 h 5
    · split
      · exact J.al_le 0 h 4
      · split
        · exact ptw_le h
        · split
          · rename_i hk; exact its_le (fun q a hq => lo_le hv q a hq) d p .nil (pk_lt_size hk (by decide))
          · split
            · rename_i hk; exact its_le (fun q a hq => fo_le hv q a hq) d p .nil (pk_lt_size hk (by decide))
            · exact J.nm_le 0 h
theorem ar_le {s : ByteArray} {p : Nat} {r : VR} (h : Le s p r.2.1) : Le s p (ar s r).2.1 := by
  unfold ar
  split
  · have := J.bl_le (s := s) 0 h.2
    exact ⟨Nat.le_trans h.1 this.1, this.2⟩
  · exact h
theorem vl_le (s : ByteArray) : ∀ (n p : Nat), p ≤ s.size → Le s p (vl s n p).2.1
  | 0, p, h => by
    have h1 := J.bl_le (s := s) 0 h
    have h2 := ar_le (br_le (s := s) (v := fun q => ((0, ⟨#[]⟩, .nil, .nil), q, 30)) (fun q hq => ⟨Nat.le_refl _, hq⟩) 64 (J.bl s p 0) h1.2)
    exact ⟨Nat.le_trans h1.1 h2.1, h2.2⟩
  | n + 1, p, h => by
    have h1 := J.bl_le (s := s) 0 h
    have h2 := ar_le (br_le (s := s) (v := vl s n) (fun q hq => vl_le s n q hq) (63 - n) (J.bl s p 0) h1.2)
    exact ⟨Nat.le_trans h1.1 h2.1, h2.2⟩
theorem inn_le (s : ByteArray) (n : Nat) : ∀ q, q ≤ s.size → Le s q (inn s n q).2.1 := by
  cases n with
  | zero => exact fun q hq => ⟨Nat.le_refl _, hq⟩
  | succ n => exact fun q hq => vl_le s n q hq
end Go.Proofs.YtbdpghmpdghnbaaDoor
