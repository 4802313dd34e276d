/- Brackets within brackets, whatever they are of: what the program's reader makes of such a text. Conditions: none. -/
import Derived.Test.YtoolkaahjmnjeaaGreatDoorMW29
namespace Go.Proofs.YtoolkaahjmnjeaaGreatDoor
open Go

/-- the i-th of some kinds of brackets; true: braces -/
def opn (b : Bool) : ByteArray := if b = true then ⟨#[123, 34, 97, 34, 58]⟩ else ⟨#[91]⟩
def sht (b : Bool) : ByteArray := if b = true then ⟨#[125]⟩ else ⟨#[93]⟩
def ops (kd : Nat → Bool) : Nat → ByteArray
  | 0 => ⟨#[]⟩
  | n + 1 => ops kd n ++ opn (kd n)
def shs (kd : Nat → Bool) : Nat → ByteArray
  | 0 => ⟨#[]⟩
  | n + 1 => sht (kd n) ++ shs kd n
def nest (kd : Nat → Bool) (n : Nat) : ByteArray := ops kd n ++ ⟨#[55]⟩ ++ shs kd n
def sign (b : Bool) : Nat := if b = true then 125 else 93
theorem opn_size (b : Bool) : (opn b).size = 1 ∨ (opn b).size = 5 := by cases b <;> decide
theorem sht_size (b : Bool) : (sht b).size = 1 := by cases b <;> rfl
theorem ops_size (kd : Nat → Bool) (n : Nat) : (ops kd (n + 1)).size = (ops kd n).size + (opn (kd n)).size := ByteArray.size_append
theorem shs_size (kd : Nat → Bool) : ∀ n, (shs kd n).size = n
  | 0 => rfl
  | n + 1 => by show (sht (kd n) ++ shs kd n).size = _; rw [ByteArray.size_append, sht_size, shs_size kd n]; omega
theorem ops_rise (kd : Nat → Bool) {k n : Nat} (h : k ≤ n) : (ops kd k).size ≤ (ops kd n).size := by
  induction n with
  | zero => rw [Nat.le_zero.1 h]; exact Nat.le_refl _
  | succ n ih =>
    by_cases e : k = n + 1
    · rw [e]; exact Nat.le_refl _
    · have := ih (by omega)
      rw [ops_size]; omega
theorem ops_le (kd : Nat → Bool) : ∀ n, (ops kd n).size ≤ 5 * n
  | 0 => Nat.le_refl _
  | n + 1 => by have := ops_le kd n; have := opn_size (kd n); rw [ops_size]; omega
theorem ops_at (kd : Nat → Bool) {n k j c : Nat} (hk : k < n) (h : At (opn (kd k)) j c) : At (ops kd n) ((ops kd k).size + j) c := by
  induction n with
  | zero => omega
  | succ n ih =>
    by_cases e : k = n
    · subst e; exact h.right _ rfl
    · exact (ih (by omega)).left _
theorem shs_at (kd : Nat → Bool) {n k : Nat} (hk : k < n) : At (shs kd n) (n - 1 - k) (sign (kd k)) := by
  induction n with
  | zero => omega
  | succ n ih =>
    have h0 : At (sht (kd n)) 0 (sign (kd n)) := by cases kd n <;> exact ⟨by decide, by decide⟩
    by_cases e : k = n
    · subst e
      rw [show k + 1 - 1 - k = 0 by omega]
      exact h0.left _
    · exact (ih (by omega)).right (sht (kd n)) (by rw [sht_size]; omega)
/-- the text's bytes -/
theorem nest_open (kd : Nat → Bool) {n k j c : Nat} (hk : k < n) (h : At (opn (kd k)) j c) : At (nest kd n) ((ops kd k).size + j) c := ((ops_at kd hk h).left _).left _
theorem nest_mid (kd : Nat → Bool) (n : Nat) : At (nest kd n) (ops kd n).size 55 := ((show At ⟨#[55]⟩ 0 55 from ⟨by decide, by decide⟩).right (ops kd n) rfl).left _
theorem nest_shut (kd : Nat → Bool) {n k : Nat} (hk : k < n) : At (nest kd n) ((ops kd n).size + (n - k)) (sign (kd k)) :=
  (shs_at kd hk).right _ (by rw [ByteArray.size_append, show (⟨#[55]⟩ : ByteArray).size = 1 from rfl]; omega)
theorem nest_size (kd : Nat → Bool) (n : Nat) : (nest kd n).size = (ops kd n).size + 1 + n := by
  unfold nest; rw [ByteArray.size_append, ByteArray.size_append, shs_size]; rfl
/-- where a bracket stands, no blank does, nor the end of another -/
theorem nest_first (kd : Nat → Bool) {n k : Nat} (hk : k ≤ n) : ∃ c, At (nest kd n) (ops kd k).size c ∧ J.ws c = false ∧ ¬ c = 93 ∧ ¬ c = 125 := by
  by_cases e : k = n
  · subst e; exact ⟨55, nest_mid kd k, by decide, by decide, by decide⟩
  · cases hb : kd k
    · exact ⟨91, nest_open kd (j := 0) (by omega) (by rw [hb]; exact ⟨by decide, by decide⟩), by decide, by decide, by decide⟩
    · exact ⟨123, nest_open kd (j := 0) (by omega) (by rw [hb]; exact ⟨by decide, by decide⟩), by decide, by decide, by decide⟩
/-- the value: so many brackets within one another, from the k-th on -/
def nv (kd : Nat → Bool) : Nat → Nat → Nat × ByteArray × V.T × V.T
  | 0, _ => (3, ⟨#[55]⟩, .nil, .nil)
  | m + 1, k => if kd k = true then (6, ⟨#[]⟩, .nil, .cons ⟨#[97]⟩ (nv kd m (k + 1)).1 (nv kd m (k + 1)).2.1 (nv kd m (k + 1)).2.2.1 (nv kd m (k + 1)).2.2.2 .nil)
    else (5, ⟨#[]⟩, .cons ⟨#[]⟩ (nv kd m (k + 1)).1 (nv kd m (k + 1)).2.1 (nv kd m (k + 1)).2.2.1 (nv kd m (k + 1)).2.2.2 .nil, .nil)
theorem nv_list {kd : Nat → Bool} {m k : Nat} (h : kd k = false) : nv kd (m + 1) k = (5, ⟨#[]⟩, .cons ⟨#[]⟩ (nv kd m (k + 1)).1 (nv kd m (k + 1)).2.1 (nv kd m (k + 1)).2.2.1 (nv kd m (k + 1)).2.2.2 .nil, .nil) := if_neg (by rw [h]; decide)
theorem nv_obj {kd : Nat → Bool} {m k : Nat} (h : kd k = true) : nv kd (m + 1) k = (6, ⟨#[]⟩, .nil, .cons ⟨#[97]⟩ (nv kd m (k + 1)).1 (nv kd m (k + 1)).2.1 (nv kd m (k + 1)).2.2.1 (nv kd m (k + 1)).2.2.2 .nil) := if_pos h
/-- a place where nothing more is read behind a value -/
def Stop (s : ByteArray) (q : Nat) : Prop := J.bl s q 0 = q ∧ J.is s q 0 46 = false ∧ J.is s q 0 101 = false ∧ J.is s q 0 69 = false ∧ ¬ (q < s.size ∧ J.dgt (s.get! q).toNat = true)
theorem Stop.at {s : ByteArray} {q c : Nat} (h : At s q c) (hc : J.ws c = false ∧ ¬ c = 46 ∧ ¬ c = 101 ∧ ¬ c = 69 ∧ J.dgt c = false) : Stop s q :=
  ⟨h.bl hc.1, by rw [h.is]; simpa using hc.2.1, by rw [h.is]; simpa using hc.2.2.1, by rw [h.is]; simpa using hc.2.2.2.1, fun e => by rw [h.2, hc.2.2.2.2] at e; exact absurd e.2 (by decide)⟩
theorem Stop.end {s : ByteArray} {q : Nat} (h : ¬ q < s.size) : Stop s q :=
  ⟨bl_end h, J.is_no_end 0 46 h, J.is_no_end 0 101 h, J.is_no_end 0 69 h, fun e => h e.1⟩
theorem ar_stop {s : ByteArray} {r : VR} (h0 : r.2.2 = 0) (h : J.bl s r.2.1 0 = r.2.1) : ar s r = (r.1, r.2.1, 0) := by unfold ar; rw [if_pos h0, h]
/-- a seven alone -/
theorem seven {s : ByteArray} {p d : Nat} (v : Nat → VR) (h : At s p 55) (hs : Stop s (p + 1)) : ar s (br s d v (J.bl s p 0)) = ((3, ⟨#[55]⟩, .nil, .nil), p + 1, 0) := by
  rw [h.bl (by decide)]
  have hn : J.nm s p 0 = (p + 1, 0) := by
    unfold J.nm
    have hd : J.dg s p = p + 1 := by
      rw [J.dg_step h.1 (by rw [h.2]; decide), J.dg_stop hs.2.2.2.2]
    have hb : J.bp s p 0 45 = p := J.bp_no (by rw [h.is]; decide)
    have h2 : J.n2 s p 0 = (p + 1, 0) := by
      unfold J.n2
      rw [if_neg (by rw [h.is]; decide), J.ds_some (by rw [hd]; omega), hd]
    have h3 : J.n3 s (p + 1, 0) = (p + 1, 0) := by unfold J.n3; rw [if_neg (by rw [hs.2.1]; decide)]
    have h4 : J.n4 s (p + 1, 0) = (p + 1, 0) := by unfold J.n4; rw [if_neg (by rw [hs.2.2.1, hs.2.2.2.1]; decide)]
    rw [hb, h2, h3, h4]
  have hx : s.extract p (p + 1) = ⟨#[55]⟩ := by
    apply ByteArray.ext
    rw [ByteArray.data_extract]
    have h1 : p < s.data.size := h.1
    apply Array.ext
    · rw [Array.size_extract]; show min (p + 1) s.data.size - p = 1; omega
    · intro i hi hj
      have hi0 : i = 0 := by have hj : i < 1 := hj; omega
      subst hi0
      rw [Array.getElem_extract]
      apply UInt8.toNat_inj.1
      have := h.2
      rw [J.at_get h.1] at this
      exact this
  have hbr : br s d v p = ((3, ⟨#[55]⟩, .nil, .nil), p + 1, 0) := by
    unfold br
    rw [h.pk, if_neg (by decide), if_neg (by decide), if_neg (by decide), if_neg (by decide), if_neg (by decide), if_neg (by decide), hn, hx]
  rw [hbr]
  exact ar_stop rfl hs.1
/-- what stands in brackets, one element alone -/
theorem one_only {A : Type} {s : ByteArray} {c d p e : Nat} {one : Nat → A → A × Nat × Nat} {a a' : A} (hd : ¬ d = 64) (hb : J.bl s (p + 1) 0 = p + 1) (hc : J.is s (p + 1) 0 c = false) (hc2 : ¬ c = 44) (h : one (p + 1) a = (a', e, 0)) (he : At s e c) : its s c one d p a = (a', e + 1, 0) := by
  unfold its
  rw [if_neg hd, hb]
  unfold itB
  rw [if_neg (by rw [hc]; decide), h, if_pos rfl]
  show itG s c one (s.size + 1) e a' = _
  unfold itG
  rw [if_neg (by rw [he.is]; simpa using hc2), if_pos (by rw [he.is]; simp)]
theorem one_wrong {A : Type} {s : ByteArray} {c d p : Nat} {one : Nat → A → A × Nat × Nat} {a : A} (hd : ¬ d = 64) (hb : J.bl s (p + 1) 0 = p + 1) (hc : J.is s (p + 1) 0 c = false) (h : ¬ (one (p + 1) a).2.2 = 0) : its s c one d p a = one (p + 1) a := by
  unfold its
  rw [if_neg hd, hb]
  unfold itB
  rw [if_neg (by rw [hc]; decide), if_neg h]
/-- the name a, and the colon -/
theorem name_a {s : ByteArray} {p : Nat} (h1 : At s p 34) (h2 : At s (p + 1) 97) (h3 : At s (p + 2) 34) (h4 : At s (p + 3) 58) : nmc s p = (⟨#[97]⟩, p + 4, 0) := by
  have hp : ptw s p = ([97], p + 3, 0) := by
    unfold ptw
    have := h4.1
    rw [if_pos (by rw [h1.is]; decide), show s.size - p = (s.size - p - 2) + 1 + 1 by omega]
    unfold ptx
    rw [if_neg (by rw [h2.is]; decide), h2.cr (by decide) (by decide) (by decide), if_pos rfl]
    show ptx s (s.size - p - 2 + 1) (p + 1 + 1) (joi [] 97) = _
    unfold ptx
    rw [if_pos (by rw [show p + 1 + 1 = p + 2 by omega, h3.is]; decide)]
    rfl
  unfold nmc
  rw [h1.bl (by decide), hp, if_pos rfl]
  show (if J.is s (J.bl s (p + 3) 0) 0 58 = true then _ else _) = _
  rw [h4.bl (by decide), if_pos (by rw [h4.is]; decide)]
  rfl
theorem deep_stop (kd : Nat → Bool) {n k m : Nat} (h : m + k = n) : Stop (nest kd n) ((ops kd n).size + 1 + m) := by
  by_cases e : k = 0
  · exact Stop.end (by rw [nest_size]; omega)
  · have h1 := nest_shut kd (n := n) (k := k - 1) (by omega)
    rw [show (ops kd n).size + (n - (k - 1)) = (ops kd n).size + 1 + m by omega] at h1
    exact Stop.at h1 (by unfold sign; cases kd (k - 1) <;> decide)
theorem deep_ok (kd : Nat → Bool) (n : Nat) (hn : n ≤ 64) : ∀ m k, m + k = n → vl (nest kd n) (64 - k) (ops kd k).size = (nv kd m k, (ops kd n).size + 1 + m, 0)
  | 0, k, h => by
    obtain rfl : k = n := by omega
    rw [vl_is _ _ _ (by omega)]
    exact seven _ (nest_mid kd k) (deep_stop kd h)
  | m + 1, k, h => by
    have ih := deep_ok kd n hn m (k + 1) (by omega)
    have hst := deep_stop kd h
    have hsh := nest_shut kd (n := n) (k := k) (by omega)
    rw [show (ops kd n).size + (n - k) = (ops kd n).size + 1 + m by omega] at hsh
    rw [vl_is _ _ _ (by omega), show 64 - (64 - k) = k by omega, show 64 - k = (64 - (k + 1)) + 1 by omega]
    show ar _ (br _ k (vl (nest kd n) (64 - (k + 1))) _) = _
    cases hb : kd k
    · have h0 : At (nest kd n) (ops kd k).size 91 := nest_open kd (j := 0) (by omega) (by rw [hb]; exact ⟨by decide, by decide⟩)
      have hz : (ops kd (k + 1)).size = (ops kd k).size + 1 := by rw [ops_size, hb]; rfl
      obtain ⟨c, h1, h2, h3, h4⟩ := nest_first kd (n := n) (k := k + 1) (by omega)
      rw [hz] at ih h1
      rw [h0.bl (by decide)]
      have hi := one_only (one := lo (vl (nest kd n) (64 - (k + 1)))) (c := 93) (d := k) (p := (ops kd k).size) (a := .nil) (by omega) (h1.bl h2) (by rw [h1.is]; simpa using h3) (by decide) (by unfold lo; rw [ih, if_pos rfl]) (by rw [hb] at hsh; exact hsh)
      have hbr : br (nest kd n) k (vl (nest kd n) (64 - (k + 1))) (ops kd k).size = (nv kd (m + 1) k, (ops kd n).size + 1 + (m + 1), 0) := by
        unfold br
        rw [h0.pk, if_neg (by decide), if_neg (by decide), if_neg (by decide), if_neg (by decide), if_pos rfl, hi]
        rw [nv_list hb]
        rfl
      rw [hbr]
      exact ar_stop rfl hst.1
    · have op : ∀ j c, At (opn true) j c → At (nest kd n) ((ops kd k).size + j) c := fun j c hc => nest_open kd (by omega) (by rw [hb]; exact hc)
      have h0 := op 0 123 ⟨by decide, by decide⟩
      have h1 := op 1 34 ⟨by decide, by decide⟩
      have h2 := op 2 97 ⟨by decide, by decide⟩
      have h3 := op 3 34 ⟨by decide, by decide⟩
      have h4 := op 4 58 ⟨by decide, by decide⟩
      have hz : (ops kd (k + 1)).size = (ops kd k).size + 5 := by rw [ops_size, hb]; rfl
      have hnm := name_a h1 h2 h3 h4
      rw [hz] at ih
      rw [Nat.add_zero] at h0
      rw [h0.bl (by decide)]
      have hi := one_only (one := fo (nest kd n) (vl (nest kd n) (64 - (k + 1)))) (c := 125) (d := k) (p := (ops kd k).size) (a := .nil) (by omega) (h1.bl (by decide)) (by rw [h1.is]; decide) (by decide) (by unfold fo; rw [hnm, if_pos rfl]; show (if (vl (nest kd n) (64 - (k + 1)) ((ops kd k).size + 5)).2.2 = 0 then _ else _) = _; rw [ih, if_pos rfl]) (by rw [hb] at hsh; exact hsh)
      have hbr : br (nest kd n) k (vl (nest kd n) (64 - (k + 1))) (ops kd k).size = (nv kd (m + 1) k, (ops kd n).size + 1 + (m + 1), 0) := by
        unfold br
        rw [h0.pk, if_neg (by decide), if_neg (by decide), if_neg (by decide), if_neg (by decide), if_neg (by decide), if_pos rfl, hi]
        rw [nv_obj hb]
        rfl
      rw [hbr]
      exact ar_stop rfl hst.1
theorem deep_bad (kd : Nat → Bool) (n : Nat) (K : Nat) (hK : K = 64) (hn : K < n) : ∀ m k, m + k = K → (vl (nest kd n) (64 - k) (ops kd k).size).2 = ((ops kd K).size, 31)
  | 0, k, h => by
    obtain rfl : k = K := by omega
    rw [vl_is _ _ _ (by omega), show 64 - (64 - k) = 64 by omega]
    generalize inn (nest kd n) (64 - k) = v
    cases hb : kd k
    · have h0 : At (nest kd n) (ops kd k).size 91 := nest_open kd (j := 0) (by omega) (by rw [hb]; exact ⟨by decide, by decide⟩)
      rw [h0.bl (by decide)]
      have hbr : (br (nest kd n) 64 v (ops kd k).size).2 = ((ops kd k).size, 31) := by
        unfold br
        rw [h0.pk, if_neg (by decide), if_neg (by decide), if_neg (by decide), if_neg (by decide), if_pos rfl]
        unfold its
        rw [if_pos rfl]
      rw [ar_wrong (by rw [hbr]; exact (by decide : ¬ 31 = 0)), hbr]
    · have h0 : At (nest kd n) (ops kd k).size 123 := nest_open kd (j := 0) (by omega) (by rw [hb]; exact ⟨by decide, by decide⟩)
      rw [h0.bl (by decide)]
      have hbr : (br (nest kd n) 64 v (ops kd k).size).2 = ((ops kd k).size, 31) := by
        unfold br
        rw [h0.pk, if_neg (by decide), if_neg (by decide), if_neg (by decide), if_neg (by decide), if_neg (by decide), if_pos rfl]
        unfold its
        rw [if_pos rfl]
      rw [ar_wrong (by rw [hbr]; exact (by decide : ¬ 31 = 0)), hbr]
  | m + 1, k, h => by
    have ih := deep_bad kd n K hK hn m (k + 1) (by omega)
    rw [vl_is _ _ _ (by omega), show 64 - (64 - k) = k by omega, show 64 - k = (64 - (k + 1)) + 1 by omega]
    show (ar _ (br _ k (vl (nest kd n) (64 - (k + 1))) _)).2 = _
    generalize hv : vl (nest kd n) (64 - (k + 1)) = v at *
    cases hb : kd k
    · have h0 : At (nest kd n) (ops kd k).size 91 := nest_open kd (j := 0) (by omega) (by rw [hb]; exact ⟨by decide, by decide⟩)
      have hz : (ops kd (k + 1)).size = (ops kd k).size + 1 := by rw [ops_size, hb]; rfl
      obtain ⟨c, h1, h2, h3, h4⟩ := nest_first kd (n := n) (k := k + 1) (by omega)
      rw [hz] at ih h1
      rw [h0.bl (by decide)]
      have ho : (lo v ((ops kd k).size + 1) .nil).2 = ((ops kd K).size, 31) := by
        unfold lo; rw [if_neg (by rw [ih]; exact (by decide : ¬ 31 = 0))]; exact ih
      have hi := one_wrong (one := lo v) (c := 93) (d := k) (p := (ops kd k).size) (a := .nil) (by omega) (h1.bl h2) (by rw [h1.is]; simpa using h3) (by rw [ho]; exact (by decide : ¬ 31 = 0))
      have hbr : (br (nest kd n) k v (ops kd k).size).2 = ((ops kd K).size, 31) := by
        unfold br
        rw [h0.pk, if_neg (by decide), if_neg (by decide), if_neg (by decide), if_neg (by decide), if_pos rfl, hi]
        exact ho
      rw [ar_wrong (by rw [hbr]; exact (by decide : ¬ 31 = 0)), hbr]
    · have op : ∀ j c, At (opn true) j c → At (nest kd n) ((ops kd k).size + j) c := fun j c hc => nest_open kd (by omega) (by rw [hb]; exact hc)
      have h0 := op 0 123 ⟨by decide, by decide⟩
      have h1 := op 1 34 ⟨by decide, by decide⟩
      have h2 := op 2 97 ⟨by decide, by decide⟩
      have h3 := op 3 34 ⟨by decide, by decide⟩
      have h4 := op 4 58 ⟨by decide, by decide⟩
      have hz : (ops kd (k + 1)).size = (ops kd k).size + 5 := by rw [ops_size, hb]; rfl
      have hnm := name_a h1 h2 h3 h4
      rw [hz] at ih
      rw [Nat.add_zero] at h0
      rw [h0.bl (by decide)]
      have ho : (fo (nest kd n) v ((ops kd k).size + 1) .nil).2 = ((ops kd K).size, 31) := by
        unfold fo
        rw [hnm, if_pos rfl]
        show (if (v ((ops kd k).size + 5)).2.2 = 0 then _ else (_, (v ((ops kd k).size + 5)).2) : V.T × Nat × Nat).2 = _
        rw [if_neg (by rw [ih]; exact (by decide : ¬ 31 = 0))]
        exact ih
      have hi := one_wrong (one := fo (nest kd n) v) (c := 125) (d := k) (p := (ops kd k).size) (a := .nil) (by omega) (h1.bl (by decide)) (by rw [h1.is]; decide) (by rw [ho]; exact (by decide : ¬ 31 = 0))
      have hbr : (br (nest kd n) k v (ops kd k).size).2 = ((ops kd K).size, 31) := by
        unfold br
        rw [h0.pk, if_neg (by decide), if_neg (by decide), if_neg (by decide), if_neg (by decide), if_neg (by decide), if_pos rfl, hi]
        exact ho
      rw [ar_wrong (by rw [hbr]; exact (by decide : ¬ 31 = 0)), hbr]
theorem nest_small (kd : Nat → Bool) {n : Nat} (h : n ≤ 200) : (nest kd n).size ≤ 1201 := by
  have := ops_le kd n
  rw [nest_size]; omega
theorem deep_yes (kd : Nat → Bool) {n : Nat} (h : n ≤ 64) : prsAll (nest kd n) = (nv kd n 0, 0, 0) := by
  have h1 := deep_ok kd n h n 0 (by omega)
  have h2 := nest_small kd (n := n) (by omega)
  have h3 := nest_size kd n
  unfold prsAll
  rw [if_neg (by omega)]
  unfold prs
  rw [show (64 : Nat) - 0 = 64 from rfl, show (ops kd 0).size = 0 from rfl] at h1
  rw [h1, if_pos rfl, if_neg (by show ¬ (ops kd n).size + 1 + n < _; omega)]
theorem deep_no (kd : Nat → Bool) {n : Nat} (h : 64 < n) (h2 : n ≤ 200) : prsAll (nest kd n) = ((0, ⟨#[]⟩, .nil, .nil), (ops kd 64).size, 31) := by
  have h1 := deep_bad kd n 64 rfl h 64 0 (by omega)
  have h2 := nest_small kd (n := n) h2
  unfold prsAll
  rw [if_neg (by omega)]
  unfold prs
  rw [show (64 : Nat) - 0 = 64 from rfl, show (ops kd 0).size = 0 from rfl] at h1
  rw [if_neg (by rw [h1]; exact (by decide : ¬ 31 = 0)), h1]
end Go.Proofs.YtoolkaahjmnjeaaGreatDoor
