/- What the reader makes of a value's bytes that stand at a place: words, numbers, strings. Conditions: none. -/
import Derived.Test.YtoolkaahjmnjeaaGreatDoorMW33
import Derived.Test.YtoolkaahjmnjeaaGreatDoorMW22
import Derived.Test.YtoolkaahjmnjeaaGreatDoorMW07
import Derived.Laws.Cover4
namespace Go.Proofs.YtoolkaahjmnjeaaGreatDoor
open Go Go.RowKit Go.Lib

/-- a row of bytes stands at a place -/
def Seg (s : ByteArray) (p : Nat) (l : List UInt8) : Prop := p + l.length ≤ s.size ∧ ∀ i, i < l.length → s.get! (p + i) = l.getD i 0
theorem getD_left {a b : List UInt8} {i : Nat} (h : i < a.length) : (a ++ b).getD i 0 = a.getD i 0 := by
  simp [List.getD, List.getElem?_append_left h]
theorem getD_right (a b : List UInt8) (i : Nat) : (a ++ b).getD (a.length + i) 0 = b.getD i 0 := by
  simp [List.getD, List.getElem?_append_right]
theorem Seg.left {s : ByteArray} {p : Nat} {a b : List UInt8} (h : Seg s p (a ++ b)) : Seg s p a :=
  ⟨by have := h.1; rw [List.length_append] at this; omega, fun i hi => by rw [h.2 i (by rw [List.length_append]; omega), getD_left hi]⟩
theorem Seg.right {s : ByteArray} {p : Nat} {a b : List UInt8} (h : Seg s p (a ++ b)) : Seg s (p + a.length) b :=
  ⟨by have := h.1; rw [List.length_append] at this; omega, fun i hi => by rw [Nat.add_assoc, h.2 (a.length + i) (by rw [List.length_append]; omega), getD_right]⟩
theorem Seg.at {s : ByteArray} {p : Nat} {b : UInt8} {l : List UInt8} (h : Seg s p (b :: l)) : At s p b.toNat :=
  ⟨by have := h.1; rw [List.length_cons] at this; omega, by
    have h2 := h.2 0 (by rw [List.length_cons]; omega)
    rw [Nat.add_zero] at h2
    rw [h2]; rfl⟩
theorem Seg.tail {s : ByteArray} {p : Nat} {b : UInt8} {l : List UInt8} (h : Seg s p (b :: l)) : Seg s (p + 1) l := Seg.right (a := [b]) h
theorem Seg.whole (l : List UInt8) : Seg ⟨l.toArray⟩ 0 l :=
  ⟨by show 0 + l.length ≤ l.toArray.size; rw [List.size_toArray]; omega, fun i _ => by rw [Nat.zero_add, U.get_list]⟩
theorem Seg.sh {s x : ByteArray} {p : Nat} (h : Seg s p x.data.toList) : Sh x 0 s p x.size := by
  have e := Lib.size_eq x
  refine ⟨by omega, by have := h.1; omega, fun i hi => ?_⟩
  rw [h.2 i (by omega), Nat.zero_add, U.get_list]
/-- words -/
theorem al_seg {s w : ByteArray} {p : Nat} (h : Seg s p w.data.toList) : ∀ k, k ≤ w.size → J.al s w k (p, 0) = (p + k, 0)
  | 0, _ => rfl
  | k + 1, hk => by
    have hs := h.sh
    show J.tk s (J.al s w k (p, 0)).1 (J.al s w k (p, 0)).2 _ = _
    rw [al_seg h k (by omega)]
    refine J.tk_yes (J.is_yes (by have := hs.2.1; show p + k < _; omega) ?_)
    have := hs.2.2 k (by omega)
    rw [Nat.zero_add] at this
    show (s.get! (p + k)).toNat = _
    rw [this]
/-- numbers -/
theorem num_seg {s x : ByteArray} {p : Nat} (hx : numS x = true) (h : Seg s p x.data.toList) (hC : st1 (J.pk s (p + x.size))) : J.nm s p 0 = (p + x.size, 0) ∧ s.extract p (p + x.size) = x ∧ (J.pk s p = 45 ∨ J.dgt (J.pk s p) = true) := by
  have h1 := (numS_iff x).1 hx
  have hs := h.sh
  have h2 := nm_shift (s := x) (s' := s) (p := 0) (p' := p) (n := x.size) (e := 0) (by rw [Nat.zero_add]; exact h1) hs (.inr hC)
  refine ⟨h2, ?_, nm_first (by rw [h2])⟩
  have h3 := hs.extract
  rw [← h3, Nat.zero_add]
  exact suf_zero x
/-- no character is half a pair -/
theorem dn_plain (n b0 b1 b2 b3 : Nat) : ¬ (55296 ≤ (Lib.decodeN n b0 b1 b2 b3).1 ∧ (Lib.decodeN n b0 b1 b2 b3).1 ≤ 57343) := by
  unfold Lib.decodeN
  repeat' split
  all_goals (simp only; omega)
theorem ch_plain (s : ByteArray) (p : Nat) : ¬ (55296 ≤ U.ch s p ∧ U.ch s p ≤ 57343) := by rw [U.ch_eq]; exact dn_plain _ _ _ _ _
theorem joi_plain {L : List Nat} {c : Nat} (h : ¬ (55296 ≤ c ∧ c ≤ 57343)) : joi L c = L ++ [c] := by
  rcases List.eq_nil_or_concat L with rfl | ⟨l, a, rfl⟩
  · rfl
  · rw [List.concat_eq_append]
    exact joi_no (fun e => h (by have := e.2; unfold low at this; omega))
theorem hv_hx : ∀ n, n < 16 → J.hv (hx n).toNat = (n : Int) := by decide
/-- signs behind a backslash -/
theorem esc1 {s : ByteArray} {q k : Nat} {g : UInt8} (h : Seg s q [92, g]) (hk : k < 8) (hs : J.sgn k = g.toNat) : cr s q = (J.unt k, q + 2, 0) := by
  have h0 := h.at
  have h1 := h.tail.at
  unfold cr
  rw [if_pos (by rw [h0.is]; decide)]
  exact es_of h1.1 h1.2 hk hs
theorem esc6 {s : ByteArray} {q c : Nat} (hc : c < 32) (h : Seg s q [92, 117, 48, 48, hx (c / 16), hx (c % 16)]) : cr s q = (c, q + 6, 0) := by
  have h0 := h.at
  have h1 := h.tail.at
  have h2 := h.tail.tail.at
  have h3 := h.tail.tail.tail.at
  have h4 := h.tail.tail.tail.tail.at
  have h5 := h.tail.tail.tail.tail.tail.at
  have a4 := hv_hx (c / 16) (by omega)
  have a5 := hv_hx (c % 16) (by omega)
  unfold cr
  rw [if_pos (by rw [h0.is]; decide), es_u h1.1 h1.2]
  rw [J.hxF_step h2.1 (by rw [h2.2]; decide), h2.2]
  rw [J.hxF_step h3.1 (by rw [h3.2]; decide), h3.2]
  rw [J.hxF_step h4.1 (by rw [h4.2, a4]; omega), h4.2, a4]
  rw [J.hxF_step h5.1 (by rw [h5.2, a5]; omega), h5.2, a5]
  have e : J.hv (48 : UInt8).toNat = 0 := by decide
  rw [e]
  show ((((0 * 16 + (0 : Int).toNat) * 16 + (0 : Int).toNat) * 16 + ((c / 16 : Nat) : Int).toNat) * 16 + ((c % 16 : Nat) : Int).toNat, q + 1 + 1 + 1 + 1 + 1 + 1, 0) = _
  congr 1
  omega
/-- a character that is no sign -/
theorem cr_piece {x s : ByteArray} {pos q : Nat} (hp : pos < x.size) (hg : U.bad x pos = false) (h32 : 32 ≤ U.ch x pos) (h34 : ¬ U.ch x pos = 34) (h92 : ¬ U.ch x pos = 92) (h : Seg s q (U.piece x pos)) :
    cr s q = (U.ch x pos, q + (U.piece x pos).length, 0) ∧ J.is s q 0 34 = false := by
  have hw := U.wd_pos hp
  rw [U.piece_good hg] at h ⊢
  have hl := U.stretch_length x pos (U.wd x pos)
  have hb : ∀ k, k < U.wd x pos → s.get! (q + k) = x.get! (pos + k) := fun k hk => by
    rw [h.2 k (by omega), U.stretch_getD x pos _ k hk]
  obtain ⟨e1, e2⟩ := U.same_char x s pos q hp hg (by have := h.1; omega) hb
  have hq : q < s.size := by have := h.1; omega
  have hne : ∀ c, c < 128 → ¬ U.ch x pos = c → J.is s q 0 c = false := fun c hc hn => by
    refine J.is_other 0 (fun e => hn ?_)
    have h0 := hb 0 (by omega)
    rw [Nat.add_zero, Nat.add_zero] at h0
    rw [h0] at e
    rw [(U.next_ascii x pos (by omega)).1, e]
  have hbad : U.bad s q = false := by
    unfold U.bad at hg ⊢
    rw [e1, e2]
    exact hg
  refine ⟨?_, hne 34 (by decide) h34⟩
  unfold cr
  rw [if_neg (by rw [hne 92 (by decide) h92]; decide), if_pos ⟨hq, hbad, by rw [e1]; exact h32⟩, e1, e2, hl]
theorem is_at_not {s : ByteArray} {p c d : Nat} (h : At s p c) (hd : ¬ c = d) : J.is s p 0 d = false := by rw [h.is]; exact decide_eq_false hd
theorem sgn1 {s : ByteArray} {q k c : Nat} {g : UInt8} (h : Seg s q [92, g]) (hk : k < 8) (hs : J.sgn k = g.toNat) (hu : J.unt k = c) : cr s q = (c, q + [92, g].length, 0) ∧ J.is s q 0 34 = false := by
  subst hu
  exact ⟨esc1 h hk hs, is_at_not h.at (by decide)⟩
theorem cr_sign {s : ByteArray} {q c : Nat} (hc : c < 32 ∨ c = 34 ∨ c = 92) (h : Seg s q (rb c)) : cr s q = (c, q + (rb c).length, 0) ∧ J.is s q 0 34 = false := by
  unfold rb at h ⊢
  split at h
  · rename_i e; subst e; exact sgn1 (k := 0) h (by decide) (by decide) (by decide)
  split at h
  · rename_i e1 e; subst e; exact sgn1 (k := 1) h (by decide) (by decide) (by decide)
  split at h
  · rename_i e; subst e; exact sgn1 (k := 3) h (by decide) (by decide) (by decide)
  split at h
  · rename_i e; subst e; exact sgn1 (k := 7) h (by decide) (by decide) (by decide)
  split at h
  · rename_i e; subst e; exact sgn1 (k := 5) h (by decide) (by decide) (by decide)
  split at h
  · rename_i e; subst e; exact sgn1 (k := 4) h (by decide) (by decide) (by decide)
  split at h
  · rename_i e; subst e; exact sgn1 (k := 6) h (by decide) (by decide) (by decide)
  split at h
  · rename_i a1 a2 a3 a4 a5 a6 a7 e
    rw [if_neg a1, if_neg a2, if_neg a3, if_neg a4, if_neg a5, if_neg a6, if_neg a7, if_pos e]
    exact ⟨esc6 e h, is_at_not h.at (by decide)⟩
  · rename_i a1 a2 a3 a4 a5 a6 a7 a8
    omega
theorem cr_seg {x s : ByteArray} {pos q : Nat} (hp : pos < x.size) (hg : U.bad x pos = false) (h : Seg s q (pq x pos)) : cr s q = (U.ch x pos, q + (pq x pos).length, 0) ∧ J.is s q 0 34 = false := by
  unfold pq at h ⊢
  split at h
  · rename_i e
    rw [if_pos e]
    exact cr_sign e h
  · rename_i e
    rw [if_neg e]
    exact cr_piece hp hg (by omega) (by omega) (by omega) h
/-- a string's characters -/
def chF (x : ByteArray) : Nat → Nat → List Nat
  | 0, _ => []
  | f + 1, pos => if pos < x.size then U.ch x pos :: chF x f (pos + U.wd x pos) else []
theorem ptx_seg {x s : ByteArray} : ∀ (f pos F q : Nat) (L : List Nat), U.vFrom x f pos = true → Seg s q (qF x f pos ++ [34]) → (qF x f pos).length < F → x.size ≤ pos + f → ptx s F q L = (L ++ chF x f pos, q + (qF x f pos).length + 1, 0)
  | 0, pos, F + 1, q, L, _, h, _, _ => by
    have h0 : At s q 34 := Seg.at (l := []) h
    unfold ptx
    rw [if_pos (by rw [h0.is]; decide)]
    show _ = (L ++ [], _, _)
    rw [List.append_nil]
    rfl
  | f + 1, pos, F + 1, q, L, hv, h, hF, hs => by
    by_cases hp : pos < x.size
    · cases hb : U.bad x pos
      · rw [qF_step x f pos hp] at h hF ⊢
        rw [U.vFrom_step x f pos hp hb] at hv
        rw [List.append_assoc] at h
        obtain ⟨h1, h2⟩ := cr_seg hp hb h.left
        have h3 := h.right
        rw [List.length_append] at hF ⊢
        have hpos : 0 < (pq x pos).length := by
          have := cr_go (s := s) (q := q) (by rw [h1])
          rw [h1] at this
          simp only at this
          omega
        have hw := U.wd_pos hp
        have ih := ptx_seg f (pos + U.wd x pos) F (q + (pq x pos).length) (L ++ [U.ch x pos]) hv h3 (by omega) (by omega)
        unfold ptx
        rw [if_neg (by rw [h2]; decide), h1, if_pos rfl, joi_plain (ch_plain x pos)]
        simp only
        rw [ih]
        have e : chF x (f + 1) pos = U.ch x pos :: chF x f (pos + U.wd x pos) := by simp [chF, hp]
        rw [e, List.append_assoc, List.singleton_append]
        congr 2
        omega
      · rw [U.vFrom_bad x f pos hp hb] at hv; cases hv
    · rw [qF_end x (f + 1) pos hp] at h hF ⊢
      have h0 : At s q 34 := Seg.at (l := []) h
      have e : chF x (f + 1) pos = [] := by simp [chF, hp]
      unfold ptx
      rw [if_pos (by rw [h0.is]; decide), e, List.append_nil]
      rfl
/-- a character's bytes, by its size -/
def enN (c : Nat) : List UInt8 :=
  if c < 128 then [UInt8.ofNat c] else if c < 2048 then [UInt8.ofNat (192 + c / 64), UInt8.ofNat (128 + c % 64)]
  else if c < 65536 then [UInt8.ofNat (224 + c / 4096), UInt8.ofNat (128 + c / 64 % 64), UInt8.ofNat (128 + c % 64)]
  else [UInt8.ofNat (240 + c / 262144), UInt8.ofNat (128 + c / 4096 % 64), UInt8.ofNat (128 + c / 64 % 64), UInt8.ofNat (128 + c % 64)]
theorem enc_N (r : Int) (d : Nat) (hd : (if Utf8.valid r = true then r.toNat else Utf8.runeError) = d) : (Utf8.encode r).data.toList = enN d := by
  unfold Utf8.encode enN
  simp only [hd]
  split
  · rfl
  split
  · rfl
  split
  · rfl
  · rfl
theorem valid_yes {c : Nat} (h : c < 55296 ∨ (57344 ≤ c ∧ c ≤ 1114111)) : Utf8.valid (c : Int) = true := by
  unfold Utf8.valid
  rw [Bool.or_eq_true, Bool.and_eq_true, Bool.and_eq_true]
  simp only [decide_eq_true_eq]
  omega
theorem valid_no {c : Nat} (h : ¬ (c < 55296 ∨ (57344 ≤ c ∧ c ≤ 1114111))) : Utf8.valid (c : Int) = false := by
  cases hh : Utf8.valid (c : Int)
  · rfl
  · exfalso
    unfold Utf8.valid at hh
    rw [Bool.or_eq_true, Bool.and_eq_true, Bool.and_eq_true] at hh
    simp only [decide_eq_true_eq] at hh
    omega
/-- a character's bytes -/
def en (c : Nat) : List UInt8 := if c < 55296 ∨ (57344 ≤ c ∧ c ≤ 1114111) then enN c else [239, 191, 189]
theorem en_yes {c : Nat} (h : c < 55296 ∨ (57344 ≤ c ∧ c ≤ 1114111)) : en c = enN c := if_pos h
theorem en_no {c : Nat} (h : ¬ (c < 55296 ∨ (57344 ≤ c ∧ c ≤ 1114111))) : en c = [239, 191, 189] := if_neg h
theorem en_def (c : Nat) : (Utf8.encode (c : Int)).data.toList = en c := by
  by_cases h : c < 55296 ∨ (57344 ≤ c ∧ c ≤ 1114111)
  · rw [en_yes h]
    exact enc_N _ _ (by rw [valid_yes h, if_pos rfl, Int.toNat_natCast])
  · rw [en_no h, enc_N _ 65533 (by rw [valid_no h, if_neg (by decide)]; exact (by decide : Utf8.runeError = 65533))]
    decide
theorem en_cases (c : Nat) : (c < 128 ∧ en c = [UInt8.ofNat c]) ∨ (128 ≤ c ∧ c < 2048 ∧ en c = [UInt8.ofNat (192 + c / 64), UInt8.ofNat (128 + c % 64)]) ∨
    (2048 ≤ c ∧ c < 65536 ∧ ¬ (55296 ≤ c ∧ c ≤ 57343) ∧ en c = [UInt8.ofNat (224 + c / 4096), UInt8.ofNat (128 + c / 64 % 64), UInt8.ofNat (128 + c % 64)]) ∨
    (65536 ≤ c ∧ c ≤ 1114111 ∧ en c = [UInt8.ofNat (240 + c / 262144), UInt8.ofNat (128 + c / 4096 % 64), UInt8.ofNat (128 + c / 64 % 64), UInt8.ofNat (128 + c % 64)]) ∨
    ((55296 ≤ c ∧ c ≤ 57343 ∨ 1114111 < c) ∧ en c = [239, 191, 189]) := by
  by_cases h1 : c < 55296 ∨ (57344 ≤ c ∧ c ≤ 1114111)
  · have he := en_yes h1
    unfold enN at he
    by_cases h2 : c < 128
    · rw [if_pos h2] at he
      exact .inl ⟨h2, he⟩
    · rw [if_neg h2] at he
      by_cases h3 : c < 2048
      · rw [if_pos h3] at he
        exact .inr (.inl ⟨by omega, h3, he⟩)
      · rw [if_neg h3] at he
        by_cases h4 : c < 65536
        · rw [if_pos h4] at he
          exact .inr (.inr (.inl ⟨by omega, h4, by omega, he⟩))
        · rw [if_neg h4] at he
          exact .inr (.inr (.inr (.inl ⟨by omega, by omega, he⟩)))
  · exact .inr (.inr (.inr (.inr ⟨by omega, en_no h1⟩)))
theorem en_rune (c : Nat) : en c = Lib.encodeRune (c : Int) := by
  unfold Lib.encodeRune
  rcases en_cases c with ⟨h1, h⟩ | ⟨h1, h2, h⟩ | ⟨h1, h2, h3, h⟩ | ⟨h1, h2, h⟩ | ⟨h1, h⟩
  · rw [h, Lib.encodeRuneZ_one (by omega) (by omega)]
    rfl
  · rw [h, Lib.encodeRuneZ_two (by omega) (by omega)]
    simp only [List.map_cons, List.map_nil]
    rw [show (192 + (c : Int) / 64).toNat = 192 + c / 64 by omega, show (128 + (c : Int) % 64).toNat = 128 + c % 64 by omega]
  · rw [h, Lib.encodeRuneZ_three (by omega)]
    simp only [List.map_cons, List.map_nil]
    rw [show (224 + (c : Int) / 4096).toNat = 224 + c / 4096 by omega, show (128 + (c : Int) / 64 % 64).toNat = 128 + c / 64 % 64 by omega, show (128 + (c : Int) % 64).toNat = 128 + c % 64 by omega]
  · rw [h, Lib.encodeRuneZ_four (by omega) (by omega)]
    simp only [List.map_cons, List.map_nil]
    rw [show (240 + (c : Int) / 262144).toNat = 240 + c / 262144 by omega, show (128 + (c : Int) / 4096 % 64).toNat = 128 + c / 4096 % 64 by omega, show (128 + (c : Int) / 64 % 64).toNat = 128 + c / 64 % 64 by omega, show (128 + (c : Int) % 64).toNat = 128 + c % 64 by omega]
  · rw [h]
    unfold Lib.encodeRuneZ
    rw [if_neg (by omega), if_neg (by omega), if_neg (by omega), if_neg (by omega)]
    rfl
theorem cells_inj {a b : List UInt8} (h : U.cellsOf a = U.cellsOf b) : a = b := by
  induction a generalizing b with
  | nil =>
    cases b with
    | nil => rfl
    | cons y b => simp [U.cellsOf] at h
  | cons x a ih =>
    cases b with
    | nil => simp [U.cellsOf] at h
    | cons y b =>
      simp only [U.cellsOf, List.map_cons, List.cons.injEq, Value.int.injEq, true_and] at h
      have h1 : x = y := UInt8.toNat_inj.1 (by omega)
      rw [h1, ih h.2]
theorem en_piece {x : ByteArray} {p : Nat} (hp : p < x.size) : en (U.ch x p) = U.piece x p := by
  apply cells_inj
  rw [← U.runeCells_piece x p hp, en_rune]
  unfold U.cellsOf Lib.encodeRune Lib.runeCells
  rw [List.map_map]
  apply List.map_congr_left
  intro z hz
  have hb : 0 ≤ z ∧ z < 256 := by
    have hf := U.facts x p hp
    have hc := hf.2.2.2.2.2
    unfold Lib.encodeRuneZ at hz
    split at hz
    · simp only [List.mem_cons, List.not_mem_nil, or_false] at hz; omega
    split at hz
    · simp only [List.mem_cons, List.not_mem_nil, or_false] at hz; omega
    split at hz
    · simp only [List.mem_cons, List.not_mem_nil, or_false] at hz; omega
    split at hz
    · simp only [List.mem_cons, List.not_mem_nil, or_false] at hz; omega
    · simp only [List.mem_cons, List.not_mem_nil, or_false] at hz; omega
  show Value.int .u8 ((z.toNat.toUInt8).toNat : Int) = Value.int .u8 z
  have : (z.toNat.toUInt8).toNat = z.toNat := Nat.mod_eq_of_lt (by omega)
  rw [this]
  congr 1
  omega
theorem enc_foldl : ∀ (L : List Nat) (r : ByteArray), ((L.map fun (c : Nat) => (c : Int)).foldl (fun r n => r ++ Utf8.encode n) r).data.toList = r.data.toList ++ (L.map en).flatten
  | [], r => by simp
  | c :: L, r => by
    simp only [List.map_cons, List.foldl_cons, List.flatten_cons]
    rw [enc_foldl L, ByteArray.data_append, Array.toList_append, List.append_assoc, en_def]
theorem enc_list (L : List Nat) : (enc L).data.toList = (L.map en).flatten := by
  unfold enc runesBytes
  rw [enc_foldl]
  rfl
theorem chF_enc (x : ByteArray) : ∀ f pos, ((chF x f pos).map en).flatten = U.fixFrom x f pos
  | 0, _ => rfl
  | f + 1, pos => by
    by_cases hp : pos < x.size
    · have e : chF x (f + 1) pos = U.ch x pos :: chF x f (pos + U.wd x pos) := by simp [chF, hp]
      rw [e, U.fixFrom_step x f pos hp, List.map_cons, List.flatten_cons, en_piece hp, chF_enc x f _]
    · have e : chF x (f + 1) pos = [] := by simp [chF, hp]
      rw [e, U.fixFrom_end x _ pos hp]
      rfl
/-- a string is read as it was -/
theorem ptw_seg {s x : ByteArray} {p : Nat} (hv : U.valid x = true) (h : Seg s p (qL x)) : ∃ L, ptw s p = (L, p + (qL x).length, 0) ∧ enc L = x := by
  refine ⟨chF x x.size 0, ?_, ?_⟩
  · have hl : (qL x).length = (qF x x.size 0).length + 2 := by unfold qL; simp only [List.length_append, List.length_singleton]; omega
    have hs := h.1
    unfold qL at h
    rw [List.append_assoc] at h
    have h0 : At s p 34 := Seg.at h
    have h1 : Seg s (p + 1) (qF x x.size 0 ++ [34]) := Seg.tail h
    unfold ptw
    rw [if_pos (by rw [h0.is]; decide), ptx_seg x.size 0 (s.size - p) (p + 1) [] hv h1 (by omega) (by omega), hl]
    show (_, p + 1 + _ + 1, 0) = (_, _, 0)
    rw [List.nil_append]
    congr 2
    omega
  · have e := enc_list (chF x x.size 0)
    rw [chF_enc] at e
    have e2 := U.fixS_valid x hv
    apply ByteArray.ext
    apply Array.ext'
    rw [e]
    have := congrArg (fun y : ByteArray => y.data.toList) e2
    exact this
theorem none_of {x : ByteArray} (h : x.size = 0) : x = ⟨#[]⟩ := by
  apply ByteArray.ext
  have h2 : x.data.size = 0 := h
  exact Array.eq_empty_of_size_eq_zero h2
/-- a byte with which a value begins -/
def Beg (c : Nat) : Prop := J.ws c = false ∧ ¬ c = 93 ∧ ¬ c = 125 ∧ ¬ c = 44
theorem beg_num {c : Nat} (h : c = 45 ∨ J.dgt c = true) : Beg c ∧ ¬ c = 110 ∧ ¬ c = 102 ∧ ¬ c = 116 ∧ ¬ c = 34 ∧ ¬ c = 91 ∧ ¬ c = 123 := by
  have hc : c = 45 ∨ (48 ≤ c ∧ c ≤ 57) := h.imp_right (fun e => of_decide_eq_true e)
  refine ⟨⟨decide_eq_false (by omega), by omega, by omega, by omega⟩, by omega, by omega, by omega, by omega, by omega, by omega⟩
/-- leaves -/
theorem br_leaf {s : ByteArray} {d p k : Nat} {x : ByteArray} (v : Nat → VR) (hk : k ≤ 4) (hx : txk k x = true) (h : Seg s p (lf k x)) (hC : st1 (J.pk s (p + (lf k x).length))) :
    br s d v p = ((k, x, .nil, .nil), p + (lf k x).length, 0) ∧ Beg (J.pk s p) := by
  have hkk : k = 0 ∨ k = 1 ∨ k = 2 ∨ k = 3 ∨ k = 4 := by omega
  rcases hkk with rfl | rfl | rfl | rfl | rfl
  · have e := none_of (of_decide_eq_true (show decide (x.size = 0) = true from hx))
    subst e
    have h0 := Seg.at h
    have h1 := al_seg (w := wn) h 4 (by decide)
    unfold br
    rw [h0.pk, if_pos (by decide), h1]
    exact ⟨rfl, by decide, by decide, by decide, by decide⟩
  · have e := none_of (of_decide_eq_true (show decide (x.size = 0) = true from hx))
    subst e
    have h0 := Seg.at h
    have h1 := al_seg (w := wf) h 5 (by decide)
    unfold br
    rw [h0.pk, if_neg (by decide), if_pos (by decide), h1]
    exact ⟨rfl, by decide, by decide, by decide, by decide⟩
  · have e := none_of (of_decide_eq_true (show decide (x.size = 0) = true from hx))
    subst e
    have h0 := Seg.at h
    have h1 := al_seg (w := wt) h 4 (by decide)
    unfold br
    rw [h0.pk, if_neg (by decide), if_neg (by decide), if_pos (by decide), h1]
    exact ⟨rfl, by decide, by decide, by decide, by decide⟩
  · have e : lf 3 x = x.data.toList := rfl
    have e2 := Lib.size_eq x
    rw [e] at h hC ⊢
    obtain ⟨h1, h2, h3⟩ := num_seg (show numS x = true from hx) h (by rw [e2]; exact hC)
    obtain ⟨b0, b1, b2, b3, b4, b5, b6⟩ := beg_num h3
    unfold br
    rw [if_neg b1, if_neg b2, if_neg b3, if_neg b4, if_neg b5, if_neg b6, h1]
    simp only
    rw [h2, ← e2]
    exact ⟨rfl, b0⟩
  · have e : lf 4 x = qL x := rfl
    rw [e] at h ⊢
    obtain ⟨L, h1, h2⟩ := ptw_seg (show U.valid x = true from hx) h
    have h0 : At s p 34 := by unfold qL at h; rw [List.append_assoc] at h; exact Seg.at h
    unfold br
    rw [h0.pk, if_neg (by decide), if_neg (by decide), if_neg (by decide), if_pos rfl, h1, h2]
    exact ⟨rfl, by decide, by decide, by decide, by decide⟩
end Go.Proofs.YtoolkaahjmnjeaaGreatDoor
