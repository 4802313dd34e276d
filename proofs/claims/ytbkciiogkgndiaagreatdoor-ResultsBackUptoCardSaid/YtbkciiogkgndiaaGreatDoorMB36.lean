/- What is read may be, and how long it is written. Conditions: none. -/
import Derived.Test.YtbkciiogkgndiaaGreatDoorMB35
import Derived.Lib.AtoiAllCases
import Derived.Lib.ItoaMem
namespace Go.Proofs.YtbkciiogkgndiaaGreatDoor
open Go Go.RowKit Go.Lib

theorem dn2 {n c b2 b3 : Nat} (h1 : 128 ≤ c) (h2 : c < 2048) (hn : 1 < n) : Lib.decodeN n (192 + c / 64) (128 + c % 64) b2 b3 = (c, 2) := by
  unfold Lib.decodeN
  rw [if_neg (by omega), if_pos ⟨by omega, hn, by omega⟩, if_pos (by omega)]
  exact Prod.ext (by show _ = c; simp only; omega) rfl
theorem dn3 {n c b3 : Nat} (h1 : 2048 ≤ c) (h2 : c < 65536) (h3 : ¬ (55296 ≤ c ∧ c ≤ 57343)) (hn : 2 < n) : Lib.decodeN n (224 + c / 4096) (128 + c / 64 % 64) (128 + c % 64) b3 = (c, 3) := by
  unfold Lib.decodeN
  rw [if_neg (by omega), if_neg (by omega), if_pos ⟨by omega, ⟨by omega, by omega⟩, hn, by omega⟩, if_pos (by omega)]
  exact Prod.ext (by show _ = c; simp only; omega) rfl
theorem dn4 {n c : Nat} (h1 : 65536 ≤ c) (h2 : c ≤ 1114111) (hn : 3 < n) : Lib.decodeN n (240 + c / 262144) (128 + c / 4096 % 64) (128 + c / 64 % 64) (128 + c % 64) = (c, 4) := by
  unfold Lib.decodeN
  rw [if_neg (by omega), if_neg (by omega), if_neg (by omega), if_pos ⟨by omega, ⟨by omega, by omega⟩, ⟨by omega, by omega⟩, hn, by omega⟩, if_pos (by omega)]
  exact Prod.ext (by show _ = c; simp only; omega) rfl
theorem dnE {n b3 : Nat} (hn : 2 < n) : Lib.decodeN n 239 191 189 b3 = (65533, 3) := by
  unfold Lib.decodeN
  rw [if_neg (by omega), if_neg (by omega), if_pos ⟨by omega, ⟨by omega, by omega⟩, hn, by omega⟩, if_pos (by omega)]
theorem u8 {n : Nat} (h : n < 256) : (UInt8.ofNat n).toNat = n := Nat.mod_eq_of_lt h
/-- what a character is written as is a character again -/
theorem en_next {t : ByteArray} {a r : List UInt8} {c : Nat} (h : t.data.toList = a ++ (en c ++ r)) : U.bad t a.length = false ∧ U.wd t a.length = (en c).length ∧ a.length < t.size := by
  have hz := Lib.size_eq t
  rw [h] at hz
  simp only [List.length_append] at hz
  have g := fun k (hk : k < (en c).length) => U.get_app t a (en c) r h k hk
  have g0 := g 0
  rw [Nat.add_zero] at g0
  have fin : ∀ m, U.wd t a.length = m → (m = 1 → False) → U.bad t a.length = false := fun m hm hne => U.good_of_wd (fun e => hne (by omega))
  rcases en_cases c with ⟨h1, e⟩ | ⟨h1, h2, e⟩ | ⟨h1, h2, h3, e⟩ | ⟨h1, h2, e⟩ | ⟨h1, e⟩
  · rw [e] at g0 hz ⊢
    have b0 : (t.get! a.length).toNat = c := by rw [g0 (by simp)]; exact u8 (by omega)
    obtain ⟨_, a2, a3⟩ := U.next_ascii t a.length (by omega)
    exact ⟨a3, a2, by simp at hz; omega⟩
  · rw [e] at g0 g hz ⊢
    have b0 : (t.get! a.length).toNat = 192 + c / 64 := by rw [g0 (by simp)]; exact u8 (by omega)
    have b1 : (t.get! (a.length + 1)).toNat = 128 + c % 64 := by rw [g 1 (by simp)]; exact u8 (by omega)
    simp only [List.length_cons, List.length_nil] at hz
    have hw : U.wd t a.length = 2 := by rw [U.wd_eq, b0, b1, dn2 h1 h2 (by omega)]
    exact ⟨fin 2 hw (by decide), hw, by omega⟩
  · rw [e] at g0 g hz ⊢
    have b0 : (t.get! a.length).toNat = 224 + c / 4096 := by rw [g0 (by simp)]; exact u8 (by omega)
    have b1 : (t.get! (a.length + 1)).toNat = 128 + c / 64 % 64 := by rw [g 1 (by simp)]; exact u8 (by omega)
    have b2 : (t.get! (a.length + 2)).toNat = 128 + c % 64 := by rw [g 2 (by simp)]; exact u8 (by omega)
    simp only [List.length_cons, List.length_nil] at hz
    have hw : U.wd t a.length = 3 := by rw [U.wd_eq, b0, b1, b2, dn3 h1 h2 h3 (by omega)]
    exact ⟨fin 3 hw (by decide), hw, by omega⟩
  · rw [e] at g0 g hz ⊢
    have b0 : (t.get! a.length).toNat = 240 + c / 262144 := by rw [g0 (by simp)]; exact u8 (by omega)
    have b1 : (t.get! (a.length + 1)).toNat = 128 + c / 4096 % 64 := by rw [g 1 (by simp)]; exact u8 (by omega)
    have b2 : (t.get! (a.length + 2)).toNat = 128 + c / 64 % 64 := by rw [g 2 (by simp)]; exact u8 (by omega)
    have b3 : (t.get! (a.length + 3)).toNat = 128 + c % 64 := by rw [g 3 (by simp)]; exact u8 (by omega)
    simp only [List.length_cons, List.length_nil] at hz
    have hw : U.wd t a.length = 4 := by rw [U.wd_eq, b0, b1, b2, b3, dn4 h1 h2 (by omega)]
    exact ⟨fin 4 hw (by decide), hw, by omega⟩
  · rw [e] at g0 g hz ⊢
    have b0 : (t.get! a.length).toNat = 239 := by rw [g0 (by simp)]; rfl
    have b1 : (t.get! (a.length + 1)).toNat = 191 := by rw [g 1 (by simp)]; rfl
    have b2 : (t.get! (a.length + 2)).toNat = 189 := by rw [g 2 (by simp)]; rfl
    simp only [List.length_cons, List.length_nil] at hz
    have hw : U.wd t a.length = 3 := by rw [U.wd_eq, b0, b1, b2, dnE (by omega)]
    exact ⟨fin 3 hw (by decide), hw, by omega⟩
theorem enc_from {t : ByteArray} : ∀ (L : List Nat) (a : List UInt8) (F : Nat), t.data.toList = a ++ (L.map en).flatten → t.size ≤ a.length + F → U.vFrom t F a.length = true
  | [], a, F, h, _ => by
    have hz := Lib.size_eq t
    rw [h] at hz
    exact U.vFrom_end t F a.length (by simp at hz; omega)
  | c :: L, a, F, h, hF => by
    rw [List.map_cons, List.flatten_cons] at h
    obtain ⟨h1, h2, h3⟩ := en_next h
    obtain ⟨F', rfl⟩ : ∃ F', F = F' + 1 := ⟨F - 1, by omega⟩
    rw [U.vFrom_step t F' a.length h3 h1, h2]
    have hw := U.wd_pos h3
    have ih := enc_from L (a ++ en c) F' (by rw [h, List.append_assoc]) (by rw [List.length_append]; omega)
    rw [List.length_append] at ih
    exact ih
theorem enc_ok (L : List Nat) : U.valid (enc L) = true := enc_from L [] _ (enc_list L) (by simp)
theorem rbs_en (c : Nat) : (rbs (en c)).length ≤ 6 := by
  have hi : ∀ l : List UInt8, l.length ≤ 4 → (∀ b ∈ l, 128 ≤ b.toNat) → (rbs l).length ≤ 6 := fun l h1 h2 => by rw [rbs_high l h2]; omega
  rcases en_cases c with ⟨h1, e⟩ | ⟨h1, h2, e⟩ | ⟨h1, h2, h3, e⟩ | ⟨h1, h2, e⟩ | ⟨h1, e⟩
  · rw [e]
    show (rb _ ++ []).length ≤ 6
    rw [List.append_nil]
    exact rb_le _
  · rw [e]
    refine hi _ (by simp) (fun b hb => ?_)
    simp only [List.mem_cons, List.not_mem_nil, or_false] at hb
    rcases hb with rfl | rfl <;> (rw [u8 (by omega)]; omega)
  · rw [e]
    refine hi _ (by simp) (fun b hb => ?_)
    simp only [List.mem_cons, List.not_mem_nil, or_false] at hb
    rcases hb with rfl | rfl | rfl <;> (rw [u8 (by omega)]; omega)
  · rw [e]
    refine hi _ (by simp) (fun b hb => ?_)
    simp only [List.mem_cons, List.not_mem_nil, or_false] at hb
    rcases hb with rfl | rfl | rfl | rfl <;> (rw [u8 (by omega)]; omega)
  · rw [e]
    exact hi _ (by simp) (by decide)
theorem rbs_flat : ∀ (L : List Nat), (rbs ((L.map en).flatten)).length ≤ 6 * L.length
  | [] => Nat.zero_le _
  | c :: L => by
    rw [List.map_cons, List.flatten_cons, rbs_append, List.length_append, List.length_cons]
    have := rbs_en c
    have := rbs_flat L
    omega
theorem qL_valid {x : ByteArray} (h : U.valid x = true) : qL x = [34] ++ rbs x.data.toList ++ [34] := by
  unfold qL
  rw [← fix_rbs]
  have e := congrArg (fun y : ByteArray => y.data.toList) (U.fixS_valid x h)
  have e2 : U.fixFrom x x.size 0 = x.data.toList := e
  rw [e2]
theorem enc_qlen (L : List Nat) : (qL (enc L)).length ≤ 6 * L.length + 2 := by
  rw [qL_valid (enc_ok L), enc_list]
  have := rbs_flat L
  simp only [List.length_append, List.length_singleton]
  omega
theorem ptx_may {s : ByteArray} : ∀ (f q : Nat) (L : List Nat), (ptx s f q L).2.2 = 0 → (ptx s f q L).1.length + q + 1 ≤ L.length + (ptx s f q L).2.1
  | 0, q, L, h => by cases h
  | f + 1, q, L, h => by
    unfold ptx at h ⊢
    split
    · simp only; omega
    · rename_i hi
      rw [if_neg hi] at h
      split
      · rename_i h0
        rw [if_pos h0] at h
        have h1 := ptx_may f (cr s q).2.1 (joi L (cr s q).1) h
        have h2 := joi_len L (cr s q).1
        have h3 := cr_go h0
        omega
      · rename_i h0
        rw [if_neg h0] at h
        exact absurd h h0
theorem ptw_len {s : ByteArray} {p : Nat} (h : (ptw s p).2.2 = 0) : (ptw s p).1.length + p + 2 ≤ (ptw s p).2.1 := by
  unfold ptw at h ⊢
  split
  · rename_i hi
    rw [if_pos hi] at h
    have := ptx_may (s.size - p) (p + 1) [] h
    simp only [List.length_nil] at this
    omega
  · rename_i hi
    rw [if_neg hi] at h
    cases h
/-- a string as it is read -/
theorem ptw_may {s : ByteArray} {p : Nat} (h : (ptw s p).2.2 = 0) : U.valid (enc (ptw s p).1) = true ∧ (qL (enc (ptw s p).1)).length + 6 * p ≤ 6 * (ptw s p).2.1 := by
  have h1 := ptw_len h
  have h2 := enc_qlen (ptw s p).1
  exact ⟨enc_ok _, by omega⟩
/-- a number as it is read -/
theorem nm_may {s : ByteArray} {p : Nat} (hp : p ≤ s.size) (h : (J.nm s p 0).2 = 0) : numS (s.extract p (J.nm s p 0).1) = true ∧ (s.extract p (J.nm s p 0).1).size = (J.nm s p 0).1 - p := by
  have hle := J.nm_le (s := s) 0 hp
  have he : J.nm s p 0 = (p + ((J.nm s p 0).1 - p), 0) := Prod.ext (by show _ = p + _; omega) h
  generalize (J.nm s p 0).1 = q at *
  have hz : (s.extract p q).size = q - p := by rw [ByteArray.size_extract]; omega
  have hS : Sh s p (s.extract p q) 0 (q - p) := ⟨by omega, by omega, fun i hi => by rw [Nat.zero_add, get_part (by omega) hle.2]⟩
  have h2 := nm_shift he hS (.inr (by
    have : J.pk (s.extract p q) (0 + (q - p)) = 0 := by unfold J.pk; rw [if_neg (by omega)]
    rw [this]
    exact stC.st1 (.inl rfl)))
  rw [Nat.zero_add, ← hz] at h2
  exact ⟨(numS_iff _).2 h2, hz⟩
/-- elements that may be -/
def Al : V.T → Nat → Nat → Prop
  | .nil, _, _ => True
  | .cons nm k x l f tl, d, dep => (d = 0 → nm = ⟨#[]⟩) ∧ (d = 1 → U.valid nm = true) ∧ (mayV k x l f dep = true ∧ Nn l 0 ∧ Nn f 1) ∧ Al tl d dep
/-- names that are not the same -/
def Ds : V.T → Prop
  | .nil => True
  | .cons nm _ _ _ _ tl => tl.idx nm = none ∧ Ds tl
theorem Al.nn : ∀ {t : V.T} {d dep : Nat}, Al t d dep → Nn t d
  | .nil, _, _, _ => trivial
  | .cons _ _ _ _ _ _, _, _, h => ⟨h.1, h.2.2.1.2.1, h.2.2.1.2.2, Al.nn h.2.2.2⟩
theorem Al.may0 : ∀ {t : V.T} {dep : Nat}, Al t 0 dep → ∀ seen, mayT t 0 seen dep = true
  | .nil, _, _, _ => rfl
  | .cons _ _ _ _ _ _, _, h, seen => by
    rw [mayT_val, h.2.2.1.1, Al.may0 h.2.2.2]
    rfl
theorem idx_head {nm n : ByteArray} {k : Nat} {x : ByteArray} {l f tl : V.T} (h : (V.T.cons nm k x l f tl).idx n = none) : ¬ nm = n ∧ tl.idx n = none := by
  unfold V.T.idx at h
  split at h
  · cases h
  · rename_i hn
    exact ⟨hn, by simpa using h⟩
theorem Al.may1 : ∀ {t : V.T} {dep : Nat}, Al t 1 dep → Ds t → ∀ seen, (∀ n, seen.contains n = true → t.idx n = none) → mayT t 1 seen dep = true
  | .nil, _, _, _, _, _ => rfl
  | .cons nm _ _ _ _ tl, _, h, hd, seen, hs => by
    have h1 : seen.contains nm = false := by
      cases hc : seen.contains nm
      · rfl
      · exact absurd rfl (idx_head (hs nm hc)).1
    rw [mayT_fld, h1, h.2.1 rfl, h.2.2.1.1, Al.may1 h.2.2.2 hd.2 (nm :: seen) (fun n hn => by
      rw [List.contains_cons, Bool.or_eq_true] at hn
      rcases hn with hn | hn
      · rw [ba_beq] at hn
        rw [of_decide_eq_true hn]
        exact hd.1
      · exact (idx_head (hs n hn)).2)]
    rfl
theorem Al.snoc : ∀ {t : V.T} {d dep : Nat} {nm : ByteArray} {k : Nat} {x : ByteArray} {l f : V.T}, Al t d dep → (d = 0 → nm = ⟨#[]⟩) → (d = 1 → U.valid nm = true) → (mayV k x l f dep = true ∧ Nn l 0 ∧ Nn f 1) → Al (t.snoc nm k x l f) d dep
  | .nil, _, _, _, _, _, _, _, _, h1, h2, h3 => ⟨h1, h2, h3, trivial⟩
  | .cons _ _ _ _ _ _, _, _, _, _, _, _, _, h, h1, h2, h3 => ⟨h.1, h.2.1, h.2.2.1, Al.snoc h.2.2.2 h1 h2 h3⟩
theorem Al.put : ∀ {t : V.T} {d dep : Nat} {nm : ByteArray} {k : Nat} {x : ByteArray} {l f : V.T}, Al t d dep → (d = 0 → nm = ⟨#[]⟩) → (d = 1 → U.valid nm = true) → (mayV k x l f dep = true ∧ Nn l 0 ∧ Nn f 1) → Al (t.put nm k x l f) d dep
  | .nil, _, _, _, _, _, _, _, _, h1, h2, h3 => ⟨h1, h2, h3, trivial⟩
  | .cons a _ _ _ _ tl, d, dep, nm, k, x, l, f, h, h1, h2, h3 => by
    unfold V.T.put
    split
    · exact ⟨h.1, h.2.1, h3, h.2.2.2⟩
    · exact ⟨h.1, h.2.1, h.2.2.1, Al.put h.2.2.2 h1 h2 h3⟩
theorem idx_put_else (t : V.T) {a n : ByteArray} (h : ¬ n = a) (ht : t.idx a = none) (k : Nat) (x : ByteArray) (l f : V.T) : (t.put n k x l f).idx a = none := by
  cases hn : t.idx n with
  | some i => rw [V.T.idx_put hn]; exact ht
  | none =>
    rw [V.T.put_new hn, V.T.idx_snoc, ht]
    simp only
    rw [if_neg h]
theorem Ds.put : ∀ {t : V.T}, Ds t → ∀ (n : ByteArray) (k : Nat) (x : ByteArray) (l f : V.T), Ds (t.put n k x l f)
  | .nil, _, _, _, _, _, _ => ⟨rfl, trivial⟩
  | .cons a _ _ _ _ tl, h, n, k, x, l, f => by
    unfold V.T.put
    split
    · exact h
    · rename_i hn
      exact ⟨idx_put_else tl (fun e => hn e.symm) h.1 k x l f, Ds.put h.2 n k x l f⟩
/-- how long items are written, a comma ahead of each -/
def wl (t : V.T) (d : Nat) : Nat := (wrT t d false).length
theorem wl_cons (nm : ByteArray) (k : Nat) (x : ByteArray) (l f tl : V.T) (d : Nat) : wl (.cons nm k x l f tl) d = (ahead d false nm).length + (wrV k x l f).length + wl tl d := by
  unfold wl
  rw [wrT_cons]
  simp only [List.length_append]
  omega
theorem wl_snoc (t : V.T) (nm : ByteArray) (k : Nat) (x : ByteArray) (l f : V.T) (d : Nat) : wl (t.snoc nm k x l f) d = wl t d + (ahead d false nm).length + (wrV k x l f).length := by
  induction t with
  | nil =>
    show wl (.cons nm k x l f .nil) d = 0 + _ + _
    rw [wl_cons]
    show _ + _ + 0 = _
    omega
  | cons a b c e g tl _ _ ih =>
    show wl (.cons a b c e g (tl.snoc nm k x l f)) d = _
    rw [wl_cons, wl_cons, ih]
    omega
theorem wl_put (t : V.T) (nm : ByteArray) (k : Nat) (x : ByteArray) (l f : V.T) (d : Nat) : wl (t.put nm k x l f) d ≤ wl t d + (ahead d false nm).length + (wrV k x l f).length := by
  induction t with
  | nil =>
    show wl (.cons nm k x l f .nil) d ≤ 0 + _ + _
    rw [wl_cons]
    show _ + _ + 0 ≤ _
    omega
  | cons a b c e g tl _ _ ih =>
    unfold V.T.put
    split
    · rw [wl_cons, wl_cons]; omega
    · rw [wl_cons, wl_cons]; omega
theorem wrT_first (t : V.T) (d : Nat) : (wrT t d true).length ≤ wl t d := by
  cases t with
  | nil => exact Nat.le_refl _
  | cons nm k x l f tl =>
    unfold wl
    rw [wrT_cons, wrT_cons, ahead_false]
    simp only [List.length_append, List.length_cons]
    omega
/-- a value that may be -/
def Mv (dep : Nat) (r : Nat × ByteArray × V.T × V.T) : Prop := mayV r.1 r.2.1 r.2.2.1 r.2.2.2 dep = true ∧ Nn r.2.2.1 0 ∧ Nn r.2.2.2 1
/-- a reader of values that may be -/
def RmV (s : ByteArray) (dep : Nat) (v : Nat → VR) : Prop := ∀ q, q ≤ s.size → (v q).2.2 = 0 → Mv dep (v q).1 ∧ (wrV (v q).1.1 (v q).1.2.1 (v q).1.2.2.1 (v q).1.2.2.2).length + 6 * q ≤ 6 * (v q).2.1
def Pr (d dep : Nat) (a : V.T) : Prop := Al a d dep ∧ (d = 1 → Ds a)
/-- a reader of items that may be -/
def RmI (s : ByteArray) (d dep : Nat) (one : Nat → V.T → V.T × Nat × Nat) : Prop := ∀ q a, q ≤ s.size → Pr d dep a → (one q a).2.2 = 0 → Pr d dep (one q a).1 ∧ wl (one q a).1 d + 6 * q ≤ wl a d + 1 + 6 * (one q a).2.1
theorem lo_may {s : ByteArray} {dep : Nat} {v : Nat → VR} (hv : RmV s dep v) : RmI s 0 dep (lo v) := by
  intro q a hq ha h
  unfold lo at h ⊢
  split at h
  · rename_i h0
    rw [if_pos h0]
    obtain ⟨h1, h2⟩ := hv q hq h0
    refine ⟨⟨ha.1.snoc (fun _ => rfl) (fun e => by cases e) h1, fun e => by cases e⟩, ?_⟩
    show wl (V.T.snoc _ _ _ _ _ _) 0 + 6 * q ≤ _
    rw [wl_snoc]
    have e : (ahead 0 false ⟨#[]⟩).length = 1 := by simp [ahead]
    rw [e]
    show _ ≤ _ + 1 + 6 * (v q).2.1
    omega
  · rename_i h0
    exact absurd h h0
theorem nmc_may {s : ByteArray} {q : Nat} (hq : q ≤ s.size) (h : (nmc s q).2.2 = 0) : U.valid (nmc s q).1 = true ∧ (qL (nmc s q).1).length + 1 + 6 * q ≤ 6 * (nmc s q).2.1 := by
  have b1 := J.bl_le (s := s) 0 hq
  unfold nmc at h ⊢
  split at h
  · rename_i h0
    rw [if_pos h0]
    obtain ⟨h1, h2⟩ := ptw_may h0
    have b2 := J.bl_le (s := s) (p := (ptw s (J.bl s q 0)).2.1) 0 (ptw_le b1.2).2
    split at h
    · rename_i h3
      rw [if_pos h3]
      exact ⟨h1, by simp only; omega⟩
    · cases h
  · rename_i h0
    exact absurd h h0
theorem fo_may {s : ByteArray} {dep : Nat} {v : Nat → VR} (hv : RmV s dep v) : RmI s 1 dep (fo s v) := by
  intro q a hq ha h
  have hle := nmc_le hq
  unfold fo at h ⊢
  split at h
  · rename_i h0
    rw [if_pos h0]
    obtain ⟨n1, n2⟩ := nmc_may hq h0
    split at h
    · rename_i h3
      rw [if_pos h3]
      obtain ⟨h1, h2⟩ := hv _ hle.2 h3
      refine ⟨⟨ha.1.put (fun e => by cases e) (fun _ => n1) h1, fun e => (ha.2 e).put _ _ _ _ _⟩, ?_⟩
      show wl (V.T.put _ _ _ _ _ _) 1 + 6 * q ≤ _
      have h4 := wl_put a (nmc s q).1 (v (nmc s q).2.1).1.1 (v (nmc s q).2.1).1.2.1 (v (nmc s q).2.1).1.2.2.1 (v (nmc s q).2.1).1.2.2.2 1
      have e : (ahead 1 false (nmc s q).1).length = (qL (nmc s q).1).length + 2 := by simp [ahead]
      rw [e] at h4
      show _ ≤ _ + 1 + 6 * (v (nmc s q).2.1).2.1
      omega
    · rename_i h3
      exact absurd h h3
  · rename_i h0
    exact absurd h h0
theorem itG_may {s : ByteArray} {d dep c : Nat} {one : Nat → V.T → V.T × Nat × Nat} (ho : RmI s d dep one) (hle : ∀ q a, q ≤ s.size → Le s q (one q a).2.1) : ∀ (f q : Nat) (a : V.T), q ≤ s.size → Pr d dep a → (itG s c one f q a).2.2 = 0 →
    Pr d dep (itG s c one f q a).1 ∧ wl (itG s c one f q a).1 d + 6 * q + 6 ≤ wl a d + 6 * (itG s c one f q a).2.1
  | 0, _, _, _, _, h => by cases h
  | f + 1, q, a, hq, ha, h => by
    unfold itG at h ⊢
    split
    · rename_i hi
      rw [if_pos hi] at h
      have h1 := is_lt hi
      split
      · rename_i h0
        rw [if_pos h0] at h
        obtain ⟨p1, p2⟩ := ho (q + 1) a h1 ha h0
        have h3 := hle (q + 1) a h1
        obtain ⟨p3, p4⟩ := itG_may ho hle f _ _ h3.2 p1 h
        exact ⟨p3, by omega⟩
      · rename_i h0
        rw [if_neg h0] at h
        exact absurd h h0
    · rename_i hi
      rw [if_neg hi] at h
      split
      · exact ⟨ha, by simp only; omega⟩
      · rename_i h0
        rw [if_neg h0] at h
        cases h
theorem its_may {s : ByteArray} {d dep c d0 p : Nat} {one : Nat → V.T → V.T × Nat × Nat} (ho : RmI s d dep one) (hle : ∀ q a, q ≤ s.size → Le s q (one q a).2.1) (hp : p < s.size) (h : (its s c one d0 p .nil).2.2 = 0) :
    ¬ d0 = 64 ∧ Pr d dep (its s c one d0 p .nil).1 ∧ (wrT (its s c one d0 p .nil).1 d true).length + 2 + 6 * p ≤ 6 * (its s c one d0 p .nil).2.1 := by
  unfold its at h ⊢
  split
  · rename_i h0
    rw [if_pos h0] at h
    cases h
  · rename_i h0
    rw [if_neg h0] at h
    refine ⟨h0, ?_⟩
    have b1 := J.bl_le (s := s) (p := p + 1) 0 hp
    generalize J.bl s (p + 1) 0 = q at *
    have hnil : Pr d dep .nil := ⟨trivial, fun _ => trivial⟩
    unfold itB at h ⊢
    split
    · refine ⟨hnil, ?_⟩
      show 0 + 2 + 6 * p ≤ 6 * (q + 1)
      omega
    · rename_i hi
      rw [if_neg hi] at h
      split
      · rename_i h1
        rw [if_pos h1] at h
        obtain ⟨p1, p2⟩ := ho q .nil b1.2 hnil h1
        have h3 := hle q .nil b1.2
        obtain ⟨p3, p4⟩ := itG_may ho hle (s.size + 1) _ _ h3.2 p1 h
        have h5 := wrT_first (itG s c one (s.size + 1) (one q .nil).2.1 (one q .nil).1).1 d
        have h6 : wl .nil d = 0 := rfl
        exact ⟨p3, by omega⟩
      · rename_i h1
        rw [if_neg h1] at h
        exact absurd h h1
theorem al_may {s w : ByteArray} {p : Nat} : ∀ k, (J.al s w k (p, 0)).2 = 0 → (J.al s w k (p, 0)).1 = p + k
  | 0, _ => rfl
  | k + 1, h => by
    have h' : (J.tk s (J.al s w k (p, 0)).1 (J.al s w k (p, 0)).2 (w.get! k).toNat).2 = 0 := h
    show (J.tk s (J.al s w k (p, 0)).1 (J.al s w k (p, 0)).2 (w.get! k).toNat).1 = _
    by_cases h0 : (J.al s w k (p, 0)).2 = 0
    · have ih := al_may k h0
      rw [h0] at h' ⊢
      cases hb : J.is s (J.al s w k (p, 0)).1 0 (w.get! k).toNat
      · rw [J.tk_no hb] at h'; cases h'
      · rw [J.tk_yes hb, ih]; rfl
    · rw [J.tk_wrong _ h0] at h'
      exact absurd h' h0
theorem mayV_of5 {l : V.T} {dep : Nat} (h : ¬ dep = 64) (hm : mayT l 0 [] (dep + 1) = true) : mayV 5 ⟨#[]⟩ l .nil dep = true := by
  unfold mayV
  rw [if_pos rfl, if_neg (by decide), hm, decide_eq_false h]
  rfl
theorem mayV_of6 {f : V.T} {dep : Nat} (h : ¬ dep = 64) (hm : mayT f 1 [] (dep + 1) = true) : mayV 6 ⟨#[]⟩ .nil f dep = true := by
  unfold mayV
  rw [if_neg (by decide), if_pos rfl, hm, decide_eq_false h]
  rfl
theorem br_may {s : ByteArray} {d p : Nat} {v : Nat → VR} (hv : RmV s (d + 1) v) (hle : ∀ q, q ≤ s.size → Le s q (v q).2.1) (hp : p ≤ s.size) (h : (br s d v p).2.2 = 0) :
    Mv d (br s d v p).1 ∧ (wrV (br s d v p).1.1 (br s d v p).1.2.1 (br s d v p).1.2.2.1 (br s d v p).1.2.2.2).length + 6 * p ≤ 6 * (br s d v p).2.1 := by
  unfold br at h ⊢
  split
  · rename_i h0
    rw [if_pos h0] at h
    have e := al_may 4 h
    refine ⟨⟨rfl, trivial, trivial⟩, ?_⟩
    show 4 + 6 * p ≤ 6 * (J.al s wn 4 (p, 0)).1
    omega
  rename_i a1
  rw [if_neg a1] at h
  split
  · rename_i h0
    rw [if_pos h0] at h
    have e := al_may 5 h
    refine ⟨⟨rfl, trivial, trivial⟩, ?_⟩
    show 5 + 6 * p ≤ 6 * (J.al s wf 5 (p, 0)).1
    omega
  rename_i a2
  rw [if_neg a2] at h
  split
  · rename_i h0
    rw [if_pos h0] at h
    have e := al_may 4 h
    refine ⟨⟨rfl, trivial, trivial⟩, ?_⟩
    show 4 + 6 * p ≤ 6 * (J.al s wt 4 (p, 0)).1
    omega
  rename_i a3
  rw [if_neg a3] at h
  split
  · rename_i h0
    rw [if_pos h0] at h
    obtain ⟨h1, h2⟩ := ptw_may h
    refine ⟨⟨?_, trivial, trivial⟩, h2⟩
    show mayV 4 (enc (ptw s p).1) .nil .nil d = true
    unfold mayV
    have e : txk 4 (enc (ptw s p).1) = true := h1
    rw [e]
    rfl
  rename_i a4
  rw [if_neg a4] at h
  split
  · rename_i h0
    rw [if_pos h0] at h
    have hlt := pk_lt_size h0 (by decide)
    obtain ⟨h1, h2, h3⟩ := its_may (lo_may hv) (fun q a hq => lo_le hle q a hq) hlt h
    refine ⟨⟨mayV_of5 h1 (h2.1.may0 []), h2.1.nn, trivial⟩, ?_⟩
    show ([91] ++ wrT (its s 93 (lo v) d p .nil).1 0 true ++ [93]).length + 6 * p ≤ 6 * (its s 93 (lo v) d p .nil).2.1
    simp only [List.length_append, List.length_singleton]
    omega
  rename_i a5
  rw [if_neg a5] at h
  split
  · rename_i h0
    rw [if_pos h0] at h
    have hlt := pk_lt_size h0 (by decide)
    obtain ⟨h1, h2, h3⟩ := its_may (fo_may hv) (fun q a hq => fo_le hle q a hq) hlt h
    refine ⟨⟨mayV_of6 h1 (h2.1.may1 (h2.2 rfl) [] (fun n hn => by cases hn)), trivial, h2.1.nn⟩, ?_⟩
    show ([123] ++ wrT (its s 125 (fo s v) d p .nil).1 1 true ++ [125]).length + 6 * p ≤ 6 * (its s 125 (fo s v) d p .nil).2.1
    simp only [List.length_append, List.length_singleton]
    omega
  rename_i a6
  rw [if_neg a6] at h
  have hle2 := (J.nm_le (s := s) 0 hp).1
  obtain ⟨h1, h2⟩ := nm_may hp h
  refine ⟨⟨?_, trivial, trivial⟩, ?_⟩
  · show mayV 3 (s.extract p (J.nm s p 0).1) .nil .nil d = true
    unfold mayV
    have e : txk 3 (s.extract p (J.nm s p 0).1) = true := h1
    rw [e]
    rfl
  · have e := Lib.size_eq (s.extract p (J.nm s p 0).1)
    show ((s.extract p (J.nm s p 0).1).data.toList).length + 6 * p ≤ 6 * (J.nm s p 0).1
    omega
theorem vl_may (s : ByteArray) : ∀ (n : Nat), n ≤ 64 → RmV s (64 - n) (vl s n)
  | 0, _ => by
    intro p hp h
    have hb := J.bl_le (s := s) 0 hp
    rw [vl_is s 0 p (by omega)] at h ⊢
    have hv : RmV s (64 - 0 + 1) (inn s 0) := fun q _ e => by cases e
    have hl : ∀ q, q ≤ s.size → Le s q (inn s 0 q).2.1 := inn_le s 0
    generalize hr : br s (64 - 0) (inn s 0) (J.bl s p 0) = r at *
    by_cases h0 : r.2.2 = 0
    · have := br_may (d := 64 - 0) hv hl hb.2 (by rw [hr]; exact h0)
      rw [hr] at this
      unfold ar at h ⊢
      rw [if_pos h0] at h ⊢
      have hb2 := J.bl_le (s := s) (p := r.2.1) 0 (by have := (br_le (s := s) hl (64 - 0) (J.bl s p 0) hb.2).2; rw [hr] at this; exact this)
      exact ⟨this.1, by have := this.2; simp only; omega⟩
    · rw [ar_wrong h0] at h
      exact absurd h h0
  | n + 1, hn => by
    intro p hp h
    have hb := J.bl_le (s := s) 0 hp
    rw [vl_is s (n + 1) p hn] at h ⊢
    have hv : RmV s (64 - (n + 1) + 1) (inn s (n + 1)) := by rw [show 64 - (n + 1) + 1 = 64 - n by omega]; exact vl_may s n (by omega)
    have hl : ∀ q, q ≤ s.size → Le s q (inn s (n + 1) q).2.1 := inn_le s (n + 1)
    generalize hr : br s (64 - (n + 1)) (inn s (n + 1)) (J.bl s p 0) = r at *
    by_cases h0 : r.2.2 = 0
    · have := br_may (d := 64 - (n + 1)) hv hl hb.2 (by rw [hr]; exact h0)
      rw [hr] at this
      unfold ar at h ⊢
      rw [if_pos h0] at h ⊢
      have hb2 := J.bl_le (s := s) (p := r.2.1) 0 (by have := (br_le (s := s) hl (64 - (n + 1)) (J.bl s p 0) hb.2).2; rw [hr] at this; exact this)
      exact ⟨this.1, by have := this.2; simp only; omega⟩
    · rw [ar_wrong h0] at h
      exact absurd h h0
/-- what is read of a text may be, and is not written too long -/
theorem prs_may {s : ByteArray} (h : (prsAll s).2.2 = 0) : Mv 0 (prsAll s).1 ∧ (wrV (prsAll s).1.1 (prsAll s).1.2.1 (prsAll s).1.2.2.1 (prsAll s).1.2.2.2).length ≤ 6 * s.size := by
  unfold prsAll at h ⊢
  split
  · rename_i h0
    rw [if_pos h0] at h
    cases h
  · rename_i h0
    rw [if_neg h0] at h
    have e : prs s = ((prs s).1, (prs s).2.1, 0) := by rw [← h]
    obtain ⟨h1, _⟩ := prs_inv e
    have h2 := vl_may s 64 (Nat.le_refl _) 0 (Nat.zero_le _) (by rw [h1])
    rw [h1] at h2
    exact ⟨h2.1, by have := h2.2; simp only at this; omega⟩
end Go.Proofs.YtbkciiogkgndiaaGreatDoor

namespace Go.Proofs.YtbkciiogkgndiaaGreatDoor
open Go Go.RowKit Go.Lib

theorem parse_snoc : ∀ (l r : List UInt8) (acc v : Nat), Lib.parseUint10 acc l = .ok v → Lib.parseUint10 acc (l ++ r) = Lib.parseUint10 v r
  | [], r, acc, v, h => by
    simp only [Lib.parseUint10] at h
    injection h with h
    rw [h]; rfl
  | c :: l, r, acc, v, h => by
    simp only [Lib.parseUint10, List.cons_append] at h ⊢
    split at h
    · rename_i h1
      rw [if_pos h1]
      split at h
      · cases h
      · rename_i h2
        rw [if_neg h2]
        split at h
        · cases h
        · rename_i h3
          rw [if_neg h3]
          exact parse_snoc l r _ v h
    · cases h
theorem digit_u8 {d : Nat} (h : d < 10) : (UInt8.ofNat (48 + d)).toNat = 48 + d := Nat.mod_eq_of_lt (by omega)
theorem parse_one {acc d : Nat} (hd : d < 10) (h : acc * 10 + d < 18446744073709551616) (ha : acc < 1844674407370955162) : Lib.parseUint10 acc [UInt8.ofNat (48 + d)] = .ok (acc * 10 + d) := by
  simp only [Lib.parseUint10]
  rw [digit_u8 hd, if_pos (by omega), if_neg (by omega), show 48 + d - 48 = d by omega, if_neg (by omega)]
theorem parse_dec (u : Nat) : u < 18446744073709551616 → Lib.parseUint10 0 (Lib.decDigits u) = .ok u := by
  induction u using Nat.strongRecOn with
  | ind u ih =>
    intro hu
    unfold Lib.decDigits
    by_cases h : u < 10
    · rw [dif_pos h]
      have := parse_one (acc := 0) h (by omega) (by omega)
      rw [Nat.zero_mul, Nat.zero_add] at this
      exact this
    · rw [dif_neg h, parse_snoc _ _ _ _ (ih (u / 10) (by omega) (by omega)), parse_one (by omega) (by omega) (by omega)]
      congr 1
      omega
theorem dec_digits (u : Nat) : ∀ b ∈ Lib.decDigits u, 48 ≤ b.toNat ∧ b.toNat ≤ 57 := by
  induction u using Nat.strongRecOn with
  | ind u ih =>
    intro b hb
    unfold Lib.decDigits at hb
    by_cases h : u < 10
    · rw [dif_pos h, List.mem_singleton] at hb
      rw [hb, digit_u8 h]; omega
    · rw [dif_neg h, List.mem_append, List.mem_singleton] at hb
      rcases hb with hb | hb
      · exact ih (u / 10) (by omega) b hb
      · rw [hb, digit_u8 (by omega)]; omega
/-- the first digit -/
theorem dec_first (u : Nat) : ∃ b l, Lib.decDigits u = b :: l ∧ (b.toNat = 48 → u = 0) := by
  induction u using Nat.strongRecOn with
  | ind u ih =>
    unfold Lib.decDigits
    by_cases h : u < 10
    · rw [dif_pos h]
      exact ⟨_, [], rfl, fun e => by rw [digit_u8 h] at e; omega⟩
    · obtain ⟨b, l, e, hb⟩ := ih (u / 10) (by omega)
      rw [dif_neg h, e]
      exact ⟨b, l ++ [UInt8.ofNat (48 + u % 10)], rfl, fun e2 => by have := hb e2; omega⟩
theorem parseMag_dec {u : Nat} (hu : u < 18446744073709551616) : Lib.parseMag (Lib.decDigits u) = .ok u := by
  obtain ⟨b, l, e, _⟩ := dec_first u
  unfold Lib.parseMag
  rw [if_neg (by rw [e]; simp)]
  exact parse_dec u hu
theorem atoi_itoa (n : Int) (h0 : -9223372036854775808 ≤ n) (h1 : n ≤ 9223372036854775807) : Lib.atoiAll (Lib.itoa n) = .ok n := by
  by_cases hn : n < 0
  · obtain ⟨u, rfl⟩ : ∃ u : Nat, n = -(u : Int) := ⟨n.natAbs, by omega⟩
    rw [Lib.itoa_neg u (by omega), Lib.atoiAll_minus, parseMag_dec (by omega)]
    unfold Lib.signed
    simp only
    rw [if_neg (by omega)]
  · obtain ⟨u, rfl⟩ := Int.eq_ofNat_of_zero_le (show 0 ≤ n by omega)
    rw [Lib.itoa_nonneg]
    obtain ⟨b, l, e, _⟩ := dec_first u
    have hb := dec_digits u b (by rw [e]; exact List.mem_cons_self ..)
    have hp := parseMag_dec (u := u) (by omega)
    rw [e] at hp ⊢
    rw [Lib.atoiAll_plain b l (by omega) (by omega), hp]
    unfold Lib.signless
    simp only
    rw [if_neg (by omega)]
theorem dg_all {s : ByteArray} : ∀ (n p : Nat), p + n = s.size → (∀ i, p ≤ i → i < s.size → J.dgt (s.get! i).toNat = true) → J.dg s p = s.size
  | 0, p, h, _ => by
    rw [J.dg_stop (fun e => by omega)]
    omega
  | n + 1, p, h, hd => by
    rw [J.dg_step (by omega) (hd p (Nat.le_refl _) (by omega))]
    exact dg_all n (p + 1) (by omega) (fun i h1 h2 => hd i (by omega) h2)
/-- digits stand from a place on -/
theorem int_from {s : ByteArray} {p u : Nat} (h : Seg s p (Lib.decDigits u)) (hz : s.size = p + (Lib.decDigits u).length) : J.n2 s p 0 = (s.size, 0) := by
  obtain ⟨b, l, e, hb⟩ := dec_first u
  have hd := dec_digits u
  unfold J.n2
  cases hi : J.is s p 0 48
  · rw [if_neg (by decide)]
    have hall : ∀ i, p ≤ i → i < s.size → J.dgt (s.get! i).toNat = true := fun i h1 h2 => by
      have h3 := h.2 (i - p) (by omega)
      rw [show p + (i - p) = i by omega] at h3
      rw [h3]
      have h4 := hd ((Lib.decDigits u).getD (i - p) 0) (by
        rw [List.getD_eq_getElem?_getD, List.getElem?_eq_getElem (show i - p < (Lib.decDigits u).length by omega)]
        exact List.getElem_mem _)
      exact decide_eq_true h4
    have hg := dg_all (s.size - p) p (by omega) hall
    have hl : 0 < (Lib.decDigits u).length := by rw [e]; simp
    rw [J.ds_some (by rw [hg]; omega), hg]
  · rw [if_pos rfl]
    rw [e] at h
    have h0 := h.at
    rw [h0.is] at hi
    have hu := hb (of_decide_eq_true hi)
    subst hu
    have : Lib.decDigits 0 = [UInt8.ofNat (48 + 0)] := Lib.decDigits_one (by decide)
    rw [this] at hz
    rw [hz]
    rfl
theorem int_itoa (n : Int) : bothS (ciS ⟨(Lib.itoa n).toArray⟩) = true := by
  have h := ci_is ⟨(Lib.itoa n).toArray⟩ 0
  rw [suf_zero] at h
  have hsz : (⟨(Lib.itoa n).toArray⟩ : ByteArray).size = (Lib.itoa n).length := List.size_toArray
  have hw := Seg.whole (Lib.itoa n)
  have key : J.n2 ⟨(Lib.itoa n).toArray⟩ (J.bp ⟨(Lib.itoa n).toArray⟩ 0 0 45) 0 = ((⟨(Lib.itoa n).toArray⟩ : ByteArray).size, 0) := by
    by_cases hn : n < 0
    · obtain ⟨u, hu⟩ : ∃ u : Nat, n = -(u : Int) := ⟨n.natAbs, by omega⟩
      have e : Lib.itoa n = 45 :: Lib.decDigits u := by rw [hu, Lib.itoa_neg u (by omega)]
      rw [e] at hw hsz ⊢
      have h0 := hw.at
      rw [J.bp_yes (by rw [h0.is]; decide)]
      exact int_from hw.tail (by rw [hsz, List.length_cons]; omega)
    · obtain ⟨u, hu⟩ := Int.eq_ofNat_of_zero_le (show 0 ≤ n by omega)
      have e : Lib.itoa n = Lib.decDigits u := by rw [hu, Lib.itoa_nonneg]
      rw [e] at hw hsz ⊢
      obtain ⟨b, l, e2, _⟩ := dec_first u
      have hb := dec_digits u b (by rw [e2]; exact List.mem_cons_self ..)
      have h0 : At ⟨(Lib.decDigits u).toArray⟩ 0 b.toNat := by
        have hw2 := hw
        rw [e2] at hw2 ⊢
        exact hw2.at
      rw [J.bp_no (by rw [h0.is]; exact decide_eq_false (by omega))]
      exact int_from hw (by rw [hsz]; omega)
  rw [h, key]
  unfold bothS cut2
  rw [suf_size]
  simp
theorem sk_none {s x : ByteArray} {p : Nat} (h0 : J.am x 0 = false) (h : s.size = 0) : J.sk s x p = false := by
  cases hb : J.sk s x p
  · rfl
  · have := J.sk_lt h0 hb
    omega
theorem caS_none {s x : ByteArray} (h0 : J.am x 0 = false) (h : s.size = 0) : caS s x = (s, false) := by
  unfold caS
  rw [sk_none h0 h, if_neg (by decide)]
theorem numS_itoa (n : Int) : numS ⟨(Lib.itoa n).toArray⟩ = true := by
  have h := int_itoa n
  unfold numS
  generalize ciS ⟨(Lib.itoa n).toArray⟩ = r at h ⊢
  have h2 : r.2 = true ∧ r.1.size = 0 := by
    unfold bothS at h
    simpa using h
  have e2 : n2S r = r := by unfold n2S; rw [caS_none (by decide +kernel) h2.2]; simp
  have e3 : n3S r = r := by unfold n3S; rw [caS_none (by decide +kernel) h2.2]; simp
  rw [e2, e3]
  exact h
end Go.Proofs.YtbkciiogkgndiaaGreatDoor
