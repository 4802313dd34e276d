/- What is written is read as it was: values, whole. Conditions: none. -/
import Derived.Test.YtoolkaahjmnjeaaGreatDoorMW34
import Derived.Test.YtoolkaahjmnjeaaGreatDoorMW17
import Derived.Test.YtoolkaahjmnjeaaGreatDoorMW37
namespace Go.Proofs.YtoolkaahjmnjeaaGreatDoor
open Go Go.RowKit Go.Lib

namespace V
def T.app : T → T → T
  | .nil, t => t
  | .cons a b c d e tl, t => .cons a b c d e (tl.app t)
theorem T.app_nil (t : T) : t.app .nil = t := by
  induction t with
  | nil => rfl
  | cons a b c d e tl _ _ ih => exact congrArg (T.cons a b c d e) ih
theorem T.snoc_app (t : T) (nm : ByteArray) (k : Nat) (x : ByteArray) (l f tl : T) : (t.snoc nm k x l f).app tl = t.app (.cons nm k x l f tl) := by
  induction t with
  | nil => rfl
  | cons a b c d e t2 _ _ ih => exact congrArg (T.cons a b c d e) ih
end V
/-- items as they are written, the first one among them, or others ahead -/
def wrT : V.T → Nat → Bool → List UInt8
  | .nil, _, _ => []
  | .cons nm k x l f tl, d, first => ahead d first nm ++ ((if k = 5 then [91] ++ wrT l 0 true ++ [93] else if k = 6 then [123] ++ wrT f 1 true ++ [125] else lf k x) ++ wrT tl d false)
/-- a value as it is written -/
def wrV (k : Nat) (x : ByteArray) (l f : V.T) : List UInt8 := if k = 5 then [91] ++ wrT l 0 true ++ [93] else if k = 6 then [123] ++ wrT f 1 true ++ [125] else lf k x
theorem wrT_cons (nm : ByteArray) (k : Nat) (x : ByteArray) (l f tl : V.T) (d : Nat) (first : Bool) : wrT (.cons nm k x l f tl) d first = ahead d first nm ++ (wrV k x l f ++ wrT tl d false) := rfl
theorem ahead_false (d : Nat) (nm : ByteArray) : ahead d false nm = 44 :: ahead d true nm := by
  unfold ahead
  simp
/-- the elements of lists have no names -/
def Nn : V.T → Nat → Prop
  | .nil, _ => True
  | .cons nm _ _ l f tl, d => (d = 0 → nm = ⟨#[]⟩) ∧ Nn l 0 ∧ Nn f 1 ∧ Nn tl d
/-- what stands behind a value -/
def stC (c : Nat) : Prop := c = 0 ∨ c = 44 ∨ c = 93 ∨ c = 125
theorem stC.st1 {c : Nat} (h : stC c) : Go.Proofs.YtoolkaahjmnjeaaGreatDoor.st1 c := by
  rcases h with rfl | rfl | rfl | rfl <;> exact ⟨by decide, by decide, by decide, by decide, by decide, by decide, by decide⟩
theorem stC.ws {c : Nat} (h : stC c) : J.ws c = false := by rcases h with rfl | rfl | rfl | rfl <;> decide
theorem mayT_cons {nm : ByteArray} {k : Nat} {x : ByteArray} {l f tl : V.T} {d : Nat} {seen : List ByteArray} {dep : Nat} : mayT (.cons nm k x l f tl) d seen dep = ((if d = 1 then !(seen.contains nm) && U.valid nm else true) && mayV k x l f dep && mayT tl d (nm :: seen) dep) := by
  unfold mayV
  conv => lhs; unfold mayT
theorem mayV_six {k : Nat} {x : ByteArray} {l f : V.T} {dep : Nat} (h : mayV k x l f dep = true) : k ≤ 6 := by
  unfold mayV at h
  exact of_decide_eq_true (Bool.and_eq_true_iff.1 h).1
theorem mayV_leaf {k : Nat} {x : ByteArray} {l f : V.T} {dep : Nat} (h : mayV k x l f dep = true) (h5 : ¬ k = 5) (h6 : ¬ k = 6) : k ≤ 4 ∧ txk k x = true ∧ l = .nil ∧ f = .nil := by
  have hk := mayV_six h
  unfold mayV at h
  rw [if_neg h5, if_neg h6, Bool.and_eq_true, Bool.and_eq_true, Bool.and_eq_true] at h
  exact ⟨by omega, h.2.1.1, V.T.len_nil (of_decide_eq_true h.2.1.2), V.T.len_nil (of_decide_eq_true h.2.2)⟩
theorem mayV_list {x : ByteArray} {l f : V.T} {dep : Nat} (h : mayV 5 x l f dep = true) : x = ⟨#[]⟩ ∧ ¬ dep = 64 ∧ mayT l 0 [] (dep + 1) = true ∧ f = .nil := by
  unfold mayV at h
  rw [if_pos rfl, if_neg (by decide), Bool.and_eq_true, Bool.and_eq_true, Bool.and_eq_true, Bool.and_eq_true, Bool.not_eq_true', decide_eq_false_iff_not] at h
  exact ⟨none_of (of_decide_eq_true (show decide (x.size = 0) = true from h.2.1.1)), h.2.1.2.1, h.2.1.2.2, V.T.len_nil (of_decide_eq_true h.2.2)⟩
theorem mayV_obj {x : ByteArray} {l f : V.T} {dep : Nat} (h : mayV 6 x l f dep = true) : x = ⟨#[]⟩ ∧ ¬ dep = 64 ∧ mayT f 1 [] (dep + 1) = true ∧ l = .nil := by
  unfold mayV at h
  rw [if_neg (by decide), if_pos rfl, Bool.and_eq_true, Bool.and_eq_true, Bool.and_eq_true, Bool.and_eq_true, Bool.not_eq_true', decide_eq_false_iff_not, decide_eq_true_eq (p := l.len = 0)] at h
  exact ⟨none_of (of_decide_eq_true (show decide (x.size = 0) = true from h.2.1.1)), h.2.2.1, h.2.2.2, V.T.len_nil h.2.1.2⟩
/-- its first byte -/
theorem wr_beg {s : ByteArray} {q k : Nat} {x : ByteArray} {l f : V.T} {dep : Nat} (h : mayV k x l f dep = true) (hs : Seg s q (wrV k x l f)) : Beg (J.pk s q) := by
  unfold wrV at hs
  by_cases h5 : k = 5
  · rw [if_pos h5] at hs
    have h0 : At s q 91 := by rw [List.append_assoc] at hs; exact Seg.at hs
    rw [h0.pk]
    exact ⟨by decide, by decide, by decide, by decide⟩
  · by_cases h6 : k = 6
    · rw [if_neg h5, if_pos h6] at hs
      have h0 : At s q 123 := by rw [List.append_assoc] at hs; exact Seg.at hs
      rw [h0.pk]
      exact ⟨by decide, by decide, by decide, by decide⟩
    · rw [if_neg h5, if_neg h6] at hs
      obtain ⟨hk, hx, _, _⟩ := mayV_leaf h h5 h6
      have hkk : k = 0 ∨ k = 1 ∨ k = 2 ∨ k = 3 ∨ k = 4 := by omega
      rcases hkk with rfl | rfl | rfl | rfl | rfl
      · rw [(Seg.at hs : At s q 110).pk]; exact ⟨by decide, by decide, by decide, by decide⟩
      · rw [(Seg.at hs : At s q 102).pk]; exact ⟨by decide, by decide, by decide, by decide⟩
      · rw [(Seg.at hs : At s q 116).pk]; exact ⟨by decide, by decide, by decide, by decide⟩
      · have h1 := nm_first (s := x) (p := 0) (by rw [(numS_iff x).1 (show numS x = true from hx)])
        have h2 := (beg_num h1).1
        have h3 : 0 < J.pk x 0 := by
          rcases h1 with h1 | h1
          · rw [h1]; decide
          · have := of_decide_eq_true h1; omega
        have hS := Seg.sh (x := x) hs
        rw [← hS.pk0 (pk_pos h3)]
        exact h2
      · have h0 : At s q 34 := by
          have e : lf 4 x = qL x := rfl
          rw [e] at hs
          unfold qL at hs
          rw [List.append_assoc] at hs
          exact Seg.at hs
        rw [h0.pk]
        exact ⟨by decide, by decide, by decide, by decide⟩
theorem rest_stop {s : ByteArray} {q d : Nat} {t : V.T} {c : UInt8} (hc : c = 93 ∨ c = 125) (h : Seg s q (wrT t d false ++ [c])) : stC (J.pk s q) := by
  cases t with
  | nil =>
    have h0 : At s q c.toNat := Seg.at (l := []) h
    rw [h0.pk]
    rcases hc with rfl | rfl
    · exact .inr (.inr (.inl rfl))
    · exact .inr (.inr (.inr rfl))
  | cons nm k x l f tl =>
    rw [wrT_cons, ahead_false] at h
    have h0 : At s q 44 := Seg.at h
    rw [h0.pk]
    exact .inr (.inl rfl)
theorem wrT_len (t : V.T) (d : Nat) : t.len ≤ (wrT t d false).length := by
  induction t with
  | nil => exact Nat.zero_le _
  | cons nm k x l f tl _ _ ih =>
    rw [wrT_cons, ahead_false]
    simp only [List.length_append, List.length_cons, V.T.len]
    omega
/-- what is read of an item -/
def ItemOk (s : ByteArray) (N dep d : Nat) (one : Nat → V.T → V.T × Nat × Nat) : Prop := ∀ (q : Nat) (acc : V.T) (seen : List ByteArray) (nm : ByteArray) (k : Nat) (x : ByteArray) (l f : V.T), l.size + f.size < N → (d = 0 → nm = ⟨#[]⟩) → Nn l 0 → Nn f 1 →
  (d = 1 → seen.contains nm = false ∧ U.valid nm = true) → mayV k x l f dep = true → Seg s q (ahead d true nm ++ wrV k x l f) → stC (J.pk s (q + (ahead d true nm ++ wrV k x l f).length)) → (∀ n, seen.contains n = false → acc.idx n = none) →
  one q acc = (acc.snoc nm k x l f, q + (ahead d true nm ++ wrV k x l f).length, 0)
theorem seen_snoc {acc : V.T} {seen : List ByteArray} (h : ∀ n, seen.contains n = false → acc.idx n = none) (nm : ByteArray) (k : Nat) (x : ByteArray) (l f : V.T) : ∀ n, (nm :: seen).contains n = false → (acc.snoc nm k x l f).idx n = none := by
  intro n hn
  rw [List.contains_cons, Bool.or_eq_false_iff] at hn
  rw [V.T.idx_snoc, h n hn.2]
  simp only
  have hne : ¬ nm = n := fun e => by
    have h2 := hn.1
    rw [e, ba_beq, decide_eq_true rfl] at h2
    cases h2
  rw [if_neg hne]
theorem named {d : Nat} {seen : List ByteArray} {nm : ByteArray} (h : (if d = 1 then !(seen.contains nm) && U.valid nm else true) = true) : d = 1 → seen.contains nm = false ∧ U.valid nm = true := by
  intro e
  rw [if_pos e, Bool.and_eq_true, Bool.not_eq_true'] at h
  exact h
theorem itG_seg {s : ByteArray} {N dep d : Nat} {one : Nat → V.T → V.T × Nat × Nat} {c : UInt8} (hone : ItemOk s N dep d one) (hc : c = 93 ∨ c = 125) : ∀ (t acc : V.T) (seen : List ByteArray) (q f : Nat), t.size ≤ N → t.len < f → mayT t d seen dep = true → Nn t d →
    Seg s q (wrT t d false ++ [c]) → (∀ n, seen.contains n = false → acc.idx n = none) → itG s c.toNat one f q acc = (acc.app t, q + (wrT t d false).length + 1, 0)
  | .nil, acc, seen, q, f, _, hf, _, _, h, _ => by
    obtain ⟨f', rfl⟩ : ∃ f', f = f' + 1 := ⟨f - 1, by have : 0 < f := hf; omega⟩
    have h0 : At s q c.toNat := Seg.at (l := []) h
    unfold itG
    rw [if_neg (by rw [h0.is]; rcases hc with rfl | rfl <;> decide), if_pos (by rw [h0.is]; exact decide_eq_true rfl), V.T.app_nil]
    rfl
  | .cons nm k x l f0 tl, acc, seen, q, f, hs, hf, hm, hn, h, hi => by
    obtain ⟨f', rfl⟩ : ∃ f', f = f' + 1 := ⟨f - 1, by have : tl.len + 1 < f := hf; omega⟩
    have hs' : l.size + f0.size + tl.size + 1 ≤ N := hs
    have hf' : tl.len + 1 < f' + 1 := hf
    rw [mayT_cons, Bool.and_eq_true, Bool.and_eq_true] at hm
    obtain ⟨⟨m1, m2⟩, m3⟩ := hm
    have e : wrT (.cons nm k x l f0 tl) d false = 44 :: ((ahead d true nm ++ wrV k x l f0) ++ wrT tl d false) := by
      rw [wrT_cons, ahead_false, List.cons_append, List.append_assoc]
    rw [e] at h ⊢
    rw [List.cons_append, List.append_assoc] at h
    have h0 : At s q 44 := Seg.at h
    have hA := Seg.tail h
    have hR := Seg.right hA
    have ho := hone (q + 1) acc seen nm k x l f0 (by omega) hn.1 hn.2.1 hn.2.2.1 (named m1) m2 hA.left (rest_stop hc hR) hi
    have hi2 := seen_snoc hi nm k x l f0
    generalize ahead d true nm ++ wrV k x l f0 = A at *
    rw [itG_comma (by rw [h0.is]; decide), ho, if_pos rfl]
    simp only
    rw [itG_seg hone hc tl _ (nm :: seen) _ f' (by omega) (by omega) m3 hn.2.2.2 hR hi2, V.T.snoc_app]
    congr 2
    simp only [List.length_cons, List.length_append]
    omega
theorem its_seg {s : ByteArray} {N dep d d0 p : Nat} {one : Nat → V.T → V.T × Nat × Nat} {c : UInt8} (hone : ItemOk s N dep d one) (hc : c = 93 ∨ c = 125) (hd : d = 0 ∨ d = 1) (h64 : ¬ d0 = 64) (t : V.T) (hs : t.size ≤ N) (hm : mayT t d [] dep = true) (hn : Nn t d)
    (h : Seg s (p + 1) (wrT t d true ++ [c])) : its s c.toNat one d0 p .nil = (t, p + 1 + (wrT t d true).length + 1, 0) := by
  unfold its
  rw [if_neg h64]
  cases t with
  | nil =>
    have h0 : At s (p + 1) c.toNat := Seg.at (l := []) h
    rw [h0.bl (by rcases hc with rfl | rfl <;> decide)]
    unfold itB
    rw [if_pos (by rw [h0.is]; exact decide_eq_true rfl)]
    rfl
  | cons nm k x l f0 tl =>
    have hs' : l.size + f0.size + tl.size + 1 ≤ N := hs
    rw [mayT_cons, Bool.and_eq_true, Bool.and_eq_true] at hm
    obtain ⟨⟨m1, m2⟩, m3⟩ := hm
    have e : wrT (.cons nm k x l f0 tl) d true = (ahead d true nm ++ wrV k x l f0) ++ wrT tl d false := by
      rw [wrT_cons, List.append_assoc]
    rw [e] at h ⊢
    rw [List.append_assoc] at h
    have hR := Seg.right h
    have hbeg : Beg (J.pk s (p + 1)) := by
      rcases hd with rfl | rfl
      · have e2 : ahead 0 true nm = [] := by simp [ahead]
        have h2 := h.left
        rw [e2, List.nil_append] at h2
        exact wr_beg m2 h2
      · have e2 : ahead 1 true nm = qL nm ++ [58] := by simp [ahead]
        have h2 := h.left.left
        rw [e2] at h2
        have h3 := h2.left
        unfold qL at h3
        rw [List.append_assoc] at h3
        have h0 : At s (p + 1) 34 := Seg.at h3
        rw [h0.pk]
        exact ⟨by decide, by decide, by decide, by decide⟩
    have ho := hone (p + 1) .nil [] nm k x l f0 (by omega) hn.1 hn.2.1 hn.2.2.1 (named m1) m2 h.left (rest_stop hc hR) (fun _ _ => rfl)
    have hi2 := seen_snoc (acc := .nil) (seen := []) (fun _ _ => rfl) nm k x l f0
    have hl := wrT_len tl d
    have hR1 := hR.1
    simp only [List.length_append, List.length_singleton] at hR1
    generalize ahead d true nm ++ wrV k x l f0 = A at *
    rw [bl_no hbeg.1]
    unfold itB
    rw [if_neg (by rw [is_pk (by rcases hc with rfl | rfl <;> decide)]; rcases hc with rfl | rfl; exact (fun e => hbeg.2.1 (of_decide_eq_true e)); exact (fun e => hbeg.2.2.1 (of_decide_eq_true e))), ho, if_pos rfl]
    simp only
    rw [itG_seg hone hc tl _ [nm] _ (s.size + 1) (by omega) (by omega) m3 hn.2.2.2 hR hi2, V.T.snoc_app]
    congr 2
    simp only [List.length_append]
    omega
/-- values of fewer than N elements are read as they are written -/
def RdV (N : Nat) : Prop := ∀ (k : Nat) (x : ByteArray) (l f : V.T) (dep : Nat) (s : ByteArray) (p : Nat), l.size + f.size < N → dep ≤ 64 → mayV k x l f dep = true → Nn l 0 → Nn f 1 → Seg s p (wrV k x l f) → stC (J.pk s (p + (wrV k x l f).length)) →
  vl s (64 - dep) p = ((k, x, l, f), p + (wrV k x l f).length, 0)
theorem item_list {s : ByteArray} {N dep : Nat} (ih : RdV N) (hd : dep ≤ 64) : ItemOk s N dep 0 (lo (vl s (64 - dep))) := by
  intro q acc seen nm k x l f hs hnm hnl hnf _ hm h hst _
  obtain rfl := hnm rfl
  have e2 : ahead 0 true ⟨#[]⟩ = [] := by simp [ahead]
  rw [e2, List.nil_append] at h hst ⊢
  have hv := ih k x l f dep s q hs hd hm hnl hnf h hst
  unfold lo
  rw [hv, if_pos rfl]
theorem name_seg {s nm : ByteArray} {q : Nat} (hv : U.valid nm = true) (h : Seg s q (qL nm ++ [58])) : nmc s q = (nm, q + (qL nm).length + 1, 0) := by
  obtain ⟨L, h1, h2⟩ := ptw_seg hv h.left
  have h0 : At s q 34 := by
    have h3 := h.left
    unfold qL at h3
    rw [List.append_assoc] at h3
    exact Seg.at h3
  have h4 : At s (q + (qL nm).length) 58 := Seg.at (l := []) h.right
  unfold nmc
  rw [h0.bl (by decide), h1, if_pos rfl]
  simp only
  rw [h4.bl (by decide), if_pos (by rw [h4.is]; decide), h2]
theorem item_field {s : ByteArray} {N dep : Nat} (ih : RdV N) (hd : dep ≤ 64) : ItemOk s N dep 1 (fo s (vl s (64 - dep))) := by
  intro q acc seen nm k x l f hs hnm hnl hnf hv hm h hst hi
  obtain ⟨v1, v2⟩ := hv rfl
  have e2 : ahead 1 true nm = qL nm ++ [58] := by simp [ahead]
  rw [e2] at h hst ⊢
  have hn := name_seg v2 h.left
  have hl : (qL nm ++ [58] ++ wrV k x l f).length = (qL nm).length + 1 + (wrV k x l f).length := by simp only [List.length_append, List.length_singleton]
  have hr := h.right
  rw [hl] at hst ⊢
  rw [List.length_append, List.length_singleton] at hr
  have hv := ih k x l f dep s (q + (qL nm).length + 1) hs hd hm hnl hnf (by rw [Nat.add_assoc]; exact hr) (by rw [show q + (qL nm).length + 1 + (wrV k x l f).length = q + ((qL nm).length + 1 + (wrV k x l f).length) by omega]; exact hst)
  unfold fo
  rw [hn, if_pos rfl]
  simp only
  rw [hv, if_pos rfl, V.T.put_new (hi nm v1)]
  congr 2
  show q + (qL nm).length + 1 + (wrV k x l f).length = _
  omega
theorem rd_all : ∀ N, RdV N
  | 0 => fun _ _ _ _ _ _ _ h => absurd h (Nat.not_lt_zero _)
  | N + 1 => by
    intro k x l f dep s p hN hdep hm hnl hnf h hst
    have ih := rd_all N
    have hbeg := wr_beg hm h
    rw [vl_is _ _ _ (by omega), show 64 - (64 - dep) = dep by omega, bl_no hbeg.1]
    have fin : ∀ r : VR, r = ((k, x, l, f), p + (wrV k x l f).length, 0) → ar s r = ((k, x, l, f), p + (wrV k x l f).length, 0) := fun r e => by
      subst e
      exact ar_stop rfl (bl_no hst.ws)
    apply fin
    by_cases h5 : k = 5
    · subst h5
      obtain ⟨rfl, h64, m1, rfl⟩ := mayV_list hm
      have ew : wrV 5 ⟨#[]⟩ l .nil = 91 :: (wrT l 0 true ++ [93]) := by unfold wrV; rw [if_pos rfl, List.append_assoc]; rfl
      rw [ew] at h ⊢
      have h0 : At s p 91 := Seg.at h
      have e1 : inn s (64 - dep) = vl s (64 - (dep + 1)) := by rw [show 64 - dep = (64 - (dep + 1)) + 1 by omega]; rfl
      have hi := its_seg (c := 93) (d0 := dep) (item_list ih (show dep + 1 ≤ 64 by omega)) (.inl rfl) (.inl rfl) h64 l (by simp only [V.T.size] at hN; omega) m1 hnl (Seg.tail h)
      unfold br
      rw [h0.pk, if_neg (by decide), if_neg (by decide), if_neg (by decide), if_neg (by decide), if_pos rfl, e1]
      rw [show (93 : UInt8).toNat = 93 from rfl] at hi
      rw [hi, show p + (91 :: (wrT l 0 true ++ [93])).length = p + 1 + (wrT l 0 true).length + 1 by simp only [List.length_cons, List.length_append, List.length_nil]; omega]
    · by_cases h6 : k = 6
      · subst h6
        obtain ⟨rfl, h64, m1, rfl⟩ := mayV_obj hm
        have ew : wrV 6 ⟨#[]⟩ .nil f = 123 :: (wrT f 1 true ++ [125]) := by unfold wrV; rw [if_neg (by decide), if_pos rfl, List.append_assoc]; rfl
        rw [ew] at h ⊢
        have h0 : At s p 123 := Seg.at h
        have e1 : inn s (64 - dep) = vl s (64 - (dep + 1)) := by rw [show 64 - dep = (64 - (dep + 1)) + 1 by omega]; rfl
        have hi := its_seg (c := 125) (d0 := dep) (item_field ih (show dep + 1 ≤ 64 by omega)) (.inr rfl) (.inr rfl) h64 f (by simp only [V.T.size] at hN; omega) m1 hnf (Seg.tail h)
        unfold br
        rw [h0.pk, if_neg (by decide), if_neg (by decide), if_neg (by decide), if_neg (by decide), if_neg (by decide), if_pos rfl, e1]
        rw [show (125 : UInt8).toNat = 125 from rfl] at hi
        rw [hi, show p + (123 :: (wrT f 1 true ++ [125])).length = p + 1 + (wrT f 1 true).length + 1 by simp only [List.length_cons, List.length_append, List.length_nil]; omega]
      · obtain ⟨hk, hx, rfl, rfl⟩ := mayV_leaf hm h5 h6
        have ew : wrV k x .nil .nil = lf k x := by unfold wrV; rw [if_neg h5, if_neg h6]
        rw [ew] at h hst ⊢
        exact (br_leaf _ hk hx h hst.st1).1
/-- a text that was written, whole -/
theorem back_whole {k : Nat} {x : ByteArray} {l f : V.T} (hm : mayV k x l f 0 = true) (hnl : Nn l 0) (hnf : Nn f 1) (hz : (wrV k x l f).length ≤ 262144) : prsAll ⟨(wrV k x l f).toArray⟩ = ((k, x, l, f), 0, 0) := by
  have hsz : (⟨(wrV k x l f).toArray⟩ : ByteArray).size = (wrV k x l f).length := List.size_toArray
  have h := rd_all (l.size + f.size + 1) k x l f 0 ⟨(wrV k x l f).toArray⟩ 0 (by omega) (by omega) hm hnl hnf (Seg.whole _) (by
    unfold J.pk
    rw [if_neg (by rw [hsz]; omega)]
    exact .inl rfl)
  rw [Nat.zero_add, ← hsz] at h
  unfold prsAll
  rw [if_neg (by rw [hsz]; omega)]
  exact prs_of h
end Go.Proofs.YtoolkaahjmnjeaaGreatDoor
