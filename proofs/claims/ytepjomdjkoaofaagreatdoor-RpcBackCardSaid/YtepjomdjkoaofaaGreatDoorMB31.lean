/- Plain arithmetic of UTF-8: what is repaired is valid and has as many units. Conditions: none. -/
import Derived.Test.YtepjomdjkoaofaaGreatDoorMB26
import Derived.Test.YtepjomdjkoaofaaGreatDoorMB30
import Derived.Lib.ItoaMem
import Derived.Lib.ItoaLen
namespace Go.Proofs.YtepjomdjkoaofaaGreatDoor.U
open Go

set_option maxRecDepth 100000 in
set_option maxHeartbeats 4000000 in
/-- a character hangs on its own bytes alone -/
theorem dn_local (n n' b0 b1 b2 b3 c1 c2 c3 : Nat) (hg : ¬ ((Lib.decodeN n b0 b1 b2 b3).1 = 65533 ∧ (Lib.decodeN n b0 b1 b2 b3).2 = 1)) (hn : (Lib.decodeN n b0 b1 b2 b3).2 ≤ n')
    (h1 : 2 ≤ (Lib.decodeN n b0 b1 b2 b3).2 → c1 = b1) (h2 : 3 ≤ (Lib.decodeN n b0 b1 b2 b3).2 → c2 = b2) (h3 : 4 ≤ (Lib.decodeN n b0 b1 b2 b3).2 → c3 = b3) :
    Lib.decodeN n' b0 c1 c2 c3 = Lib.decodeN n b0 b1 b2 b3 := by
  by_cases k0 : b0 < 128
  · unfold Lib.decodeN
    rw [if_pos k0, if_pos k0]
  by_cases k1 : b0 / 32 = 6 ∧ (1 < n ∧ b1 / 64 = 2)
  · have e : Lib.decodeN n b0 b1 b2 b3 = (if b0 % 32 * 64 + b1 % 64 ≥ 128 then (b0 % 32 * 64 + b1 % 64, 2) else (65533, 1)) := by
      unfold Lib.decodeN
      rw [if_neg k0, if_pos k1]
    rw [e] at hg hn h1 h2 h3 ⊢
    split at hg
    · rename_i hc
      rw [if_pos hc] at hn h1 h2 h3 ⊢
      obtain rfl := h1 (Nat.le_refl _)
      unfold Lib.decodeN
      rw [if_neg k0, if_pos ⟨k1.1, by simp only at hn; omega, k1.2.2⟩, if_pos hc]
    · exact absurd ⟨rfl, rfl⟩ hg
  by_cases k2 : b0 / 16 = 14 ∧ (1 < n ∧ b1 / 64 = 2) ∧ (2 < n ∧ b2 / 64 = 2)
  · have e : Lib.decodeN n b0 b1 b2 b3 = (if b0 % 16 * 4096 + b1 % 64 * 64 + b2 % 64 ≥ 2048 ∧ (b0 % 16 * 4096 + b1 % 64 * 64 + b2 % 64 < 55296 ∨ (57344 ≤ b0 % 16 * 4096 + b1 % 64 * 64 + b2 % 64 ∧ b0 % 16 * 4096 + b1 % 64 * 64 + b2 % 64 ≤ 1114111)) then (b0 % 16 * 4096 + b1 % 64 * 64 + b2 % 64, 3) else (65533, 1)) := by
      unfold Lib.decodeN
      rw [if_neg k0, if_neg k1, if_pos k2]
    rw [e] at hg hn h1 h2 h3 ⊢
    split at hg
    · rename_i hc
      rw [if_pos hc] at hn h1 h2 h3 ⊢
      obtain rfl := h1 (by simp only; omega)
      obtain rfl := h2 (Nat.le_refl _)
      unfold Lib.decodeN
      simp only at hn
      rw [if_neg k0, if_neg (by omega), if_pos ⟨k2.1, ⟨by omega, k2.2.1.2⟩, by omega, k2.2.2.2⟩, if_pos hc]
    · exact absurd ⟨rfl, rfl⟩ hg
  by_cases k3 : b0 / 8 = 30 ∧ (1 < n ∧ b1 / 64 = 2) ∧ (2 < n ∧ b2 / 64 = 2) ∧ (3 < n ∧ b3 / 64 = 2)
  · have e : Lib.decodeN n b0 b1 b2 b3 = (if b0 % 8 * 262144 + b1 % 64 * 4096 + b2 % 64 * 64 + b3 % 64 ≥ 65536 ∧ (b0 % 8 * 262144 + b1 % 64 * 4096 + b2 % 64 * 64 + b3 % 64 < 55296 ∨ (57344 ≤ b0 % 8 * 262144 + b1 % 64 * 4096 + b2 % 64 * 64 + b3 % 64 ∧ b0 % 8 * 262144 + b1 % 64 * 4096 + b2 % 64 * 64 + b3 % 64 ≤ 1114111)) then (b0 % 8 * 262144 + b1 % 64 * 4096 + b2 % 64 * 64 + b3 % 64, 4) else (65533, 1)) := by
      unfold Lib.decodeN
      rw [if_neg k0, if_neg k1, if_neg k2, if_pos k3]
    rw [e] at hg hn h1 h2 h3 ⊢
    split at hg
    · rename_i hc
      rw [if_pos hc] at hn h1 h2 h3 ⊢
      obtain rfl := h1 (by simp only; omega)
      obtain rfl := h2 (by simp only; omega)
      obtain rfl := h3 (Nat.le_refl _)
      unfold Lib.decodeN
      simp only at hn
      rw [if_neg k0, if_neg (by omega), if_neg (by omega), if_pos ⟨k3.1, ⟨by omega, k3.2.1.2⟩, ⟨by omega, k3.2.2.1.2⟩, by omega, k3.2.2.2.2⟩, if_pos hc]
    · exact absurd ⟨rfl, rfl⟩ hg
  · exfalso
    apply hg
    unfold Lib.decodeN
    rw [if_neg k0, if_neg k1, if_neg k2, if_neg k3]
    exact ⟨rfl, rfl⟩

/-- a character that stands elsewhere, too, is the same there -/
theorem same_char (s t : ByteArray) (p q : Nat) (hp : p < s.size) (hg : bad s p = false) (hq : q + wd s p ≤ t.size) (hb : ∀ k, k < wd s p → t.get! (q + k) = s.get! (p + k)) : ch t q = ch s p ∧ wd t q = wd s p := by
  have hf := facts s p hp
  have hn : ¬ (ch s p = 65533 ∧ wd s p = 1) := fun hx => by rw [(bad_iff s p).2 hx] at hg; cases hg
  have h0 := hb 0 (by omega)
  rw [Nat.add_zero, Nat.add_zero] at h0
  have hl := dn_local (s.size - p) (t.size - q) (s.get! p).toNat (s.get! (p + 1)).toNat (s.get! (p + 2)).toNat (s.get! (p + 3)).toNat (t.get! (q + 1)).toNat (t.get! (q + 2)).toNat (t.get! (q + 3)).toNat
    (by rw [← ch_eq, ← wd_eq]; exact hn) (by rw [← wd_eq]; omega) (by rw [← wd_eq]; intro h; rw [hb 1 (by omega)]) (by rw [← wd_eq]; intro h; rw [hb 2 (by omega)]) (by rw [← wd_eq]; intro h; rw [hb 3 (by omega)])
  rw [ch_eq t q, wd_eq t q, ch_eq s p, wd_eq s p, h0, hl]
  exact ⟨rfl, rfl⟩

theorem get_list (t : ByteArray) (q : Nat) : t.get! q = t.data.toList.getD q 0 := (Lib.getD_get!' t q).symm
theorem get_app (t : ByteArray) (l m r : List UInt8) (h : t.data.toList = l ++ (m ++ r)) (k : Nat) (hk : k < m.length) : t.get! (l.length + k) = m.getD k 0 := by
  rw [get_list, h]
  simp only [List.getD]
  rw [List.getElem?_append_right (by omega), Nat.add_sub_cancel_left, List.getElem?_append_left hk]
theorem stretch_length (s : ByteArray) (p n : Nat) : (stretch s p n).length = n := by unfold stretch; rw [List.length_map, List.length_range]
theorem stretch_getD (s : ByteArray) (p n k : Nat) (hk : k < n) : (stretch s p n).getD k 0 = s.get! (p + k) := by
  unfold stretch
  simp [List.getD, hk]

/-- where a piece stands, it is what is next, and no invalid byte -/
theorem piece_next (s t : ByteArray) (p : Nat) (l r : List UInt8) (hp : p < s.size) (h : t.data.toList = l ++ (piece s p ++ r)) :
    ch t l.length = ch s p ∧ wd t l.length = (piece s p).length ∧ bad t l.length = false := by
  have hsz : t.size = l.length + ((piece s p).length + r.length) := by rw [Lib.size_eq, h, List.length_append, List.length_append]
  cases hb : bad s p
  · have hl : (piece s p).length = wd s p := by rw [piece_good hb, stretch_length]
    obtain ⟨h1, h2⟩ := same_char s t p l.length hp hb (by omega) (fun k hk => by rw [get_app t l _ r h k (by omega), piece_good hb, stretch_getD s p _ k hk])
    refine ⟨h1, by omega, ?_⟩
    cases hx : bad t l.length
    · rfl
    · have hy := (bad_iff _ _).1 hx
      rw [h1, h2] at hy
      rw [(bad_iff s p).2 hy] at hb
      cases hb
  · have hpc := piece_bad hb
    have hl : (piece s p).length = 3 := by rw [hpc]; rfl
    have g := fun k hk => get_app t l _ r h k hk
    have g0 := g 0 (by omega)
    have g1 := g 1 (by omega)
    have g2 := g 2 (by omega)
    rw [hpc] at g0 g1 g2
    rw [Nat.add_zero] at g0
    have hd : Lib.decodeN (t.size - l.length) (t.get! l.length).toNat (t.get! (l.length + 1)).toNat (t.get! (l.length + 2)).toNat (t.get! (l.length + 3)).toNat = (65533, 3) := by
      rw [g0, g1, g2]
      show Lib.decodeN _ 239 191 189 _ = _
      unfold Lib.decodeN
      rw [if_neg (by omega), if_neg (by omega), if_pos (by omega), if_pos (by omega)]
    have hc : ch t l.length = 65533 := by rw [ch_eq, hd]
    have hw : wd t l.length = 3 := by rw [wd_eq, hd]
    refine ⟨by rw [hc, ((bad_iff s p).1 hb).1], by rw [hw, hl], good_of_wd (by omega)⟩

theorem fix_scan (s t : ByteArray) : ∀ f pos (l : List UInt8), t.data.toList = l ++ fixFrom s f pos → s.size ≤ pos + f → ∀ F, t.size ≤ l.length + F → vFrom t F l.length = true ∧ unitsFrom t F l.length = unitsFrom s f pos
  | 0, pos, l, h, hf, F, hF => by
    have hz : t.size = l.length := by rw [Lib.size_eq, h]; simp [fixFrom]
    rw [vFrom_end t F _ (by omega), unitsFrom_end t F _ (by omega), unitsFrom_end s 0 pos (by omega)]
    exact ⟨rfl, rfl⟩
  | f + 1, pos, l, h, hf, F, hF => by
    by_cases hp : pos < s.size
    · rw [fixFrom_step s f pos hp] at h
      obtain ⟨h1, h2, h3⟩ := piece_next s t pos l _ hp h
      have hpl := piece_le hp
      have hsz : t.size = l.length + ((piece s pos).length + (fixFrom s f (pos + wd s pos)).length) := by rw [Lib.size_eq, h, List.length_append, List.length_append]
      obtain ⟨F', rfl⟩ : ∃ F', F = F' + 1 := ⟨F - 1, by omega⟩
      have hlt : l.length < t.size := by omega
      have ih := fix_scan s t f (pos + wd s pos) (l ++ piece s pos) (by rw [List.append_assoc]; exact h) (by have := wd_pos hp; omega) F' (by rw [List.length_append]; omega)
      rw [List.length_append, ← h2] at ih
      rw [vFrom_step t F' _ hlt h3, unitsFrom_step t F' _ hlt, unitsFrom_step s f pos hp]
      refine ⟨ih.1, ?_⟩
      rw [ih.2]
      unfold un
      rw [h1]
    · rw [fixFrom_end s _ pos hp, List.append_nil] at h
      have hz : t.size = l.length := by rw [Lib.size_eq, h]
      rw [vFrom_end t F _ (by omega), unitsFrom_end t F _ (by omega), unitsFrom_end s _ pos hp]
      exact ⟨rfl, rfl⟩
theorem fixS_list (s : ByteArray) : (fixS s).data.toList = fixL s := rfl
theorem fix_valid (s : ByteArray) : valid (fixS s) = true := (fix_scan s (fixS s) s.size 0 [] rfl (by omega) (fixS s).size (by simp)).1
theorem fix_units (s : ByteArray) : units (fixS s) = units s := (fix_scan s (fixS s) s.size 0 [] rfl (by omega) (fixS s).size (by simp)).2
theorem fix_fix (s : ByteArray) : fixS (fixS s) = fixS s := fixS_valid _ (fix_valid s)
theorem fix_same (s : ByteArray) : fixS s = s ↔ valid s = true := ⟨fun h => by rw [← h]; exact fix_valid s, fixS_valid s⟩
theorem fixFrom_len (s : ByteArray) : ∀ f pos, pos ≤ s.size → (fixFrom s f pos).length ≤ 3 * (s.size - pos)
  | 0, _, _ => by simp [fixFrom]
  | f + 1, pos, h => by
    by_cases hp : pos < s.size
    · rw [fixFrom_step s f pos hp, List.length_append]
      have := fixFrom_len s f (pos + wd s pos) (wd_le hp)
      have := (piece_le hp).1
      have := wd_le hp
      omega
    · rw [fixFrom_end s _ pos hp]; simp
theorem fix_size (s : ByteArray) : (fixS s).size ≤ 3 * s.size := by
  have := fixFrom_len s s.size 0 (Nat.zero_le _)
  rw [Lib.size_eq, fixS_list]
  exact this
end Go.Proofs.YtepjomdjkoaofaaGreatDoor.U

namespace Go.Proofs.YtepjomdjkoaofaaGreatDoor
open Go Go.RowKit Go.Lib

def numT (n : Int) : ByteArray := ⟨(Lib.itoa n).toArray⟩
def codeF (n : Int) : Fe := ⟨⟨#[99, 111, 100, 101]⟩, 3, numT n, .slice none 0 0, .slice none 0 0, .nil, .nil⟩
def msgF (F : ByteArray) : Fe := ⟨⟨#[109, 101, 115, 115, 97, 103, 101]⟩, 4, F, .slice none 0 0, .slice none 0 0, .nil, .nil⟩
def idF (k : Nat) (x : ByteArray) (v u : Value) (l f : V.T) : Fe := ⟨⟨#[105, 100]⟩, k, x, v, u, l, f⟩
def errF (v : Value) (n : Int) (F : ByteArray) : Fe := ⟨⟨#[101, 114, 114, 111, 114]⟩, 6, ⟨#[]⟩, .slice none 0 0, v, .nil, treeOf [codeF n, msgF F]⟩
/-- the fields of an error's reply -/
def failT (k : Nat) (x : ByteArray) (l f : V.T) (n : Int) (F : ByteArray) : V.T := treeOf [verF, idF k x (.slice none 0 0) (.slice none 0 0) l f, errF (.slice none 0 0) n F]
theorem num_fit (n : Int) (h0 : -9223372036854775808 ≤ n) (h1 : n ≤ 9223372036854775807) (nm : ByteArray) (h : nm.size ≤ 140737488355328) : Fit nm 3 (numT n) := by
  refine ⟨by decide, ?_, h⟩
  have := Lib.itoa_length_le n h0 h1
  show (Lib.itoa n).toArray.size ≤ _
  rw [List.size_toArray]
  omega
theorem pow_on {w w' : World} (h : PowTab w) (hb : Below w.heap.size w w') : PowTab w' := Lib.tabBelow_of_tabIs h w' hb

structure FaSt (w : World) (k : Nat) (x : ByteArray) (v u : Value) (l f : V.T) (W : World) : Prop where
  below : Below w.heap.size w W
  size : w.heap.size + 2 ≤ W.heap.size
  b0 : Blk4 W w.heap.size 25 (.int .u8 k) (.string x) v u
  b1 : Blk4 W (w.heap.size + 1) 25 (.int .u8 0) (.string ⟨#[]⟩) (.slice none 0 0) (.slice none 0 0)
  l : HS W (fun _ => True) 0 v l
  f : HS W (fun _ => True) 1 u f
theorem FaSt.on {w : World} {k : Nat} {x : ByteArray} {v u : Value} {l f : V.T} {W W' : World} (h : FaSt w k x v u l f W) (hB : Below W.heap.size W W') : FaSt w k x v u l f W' :=
  ⟨h.below.trans (hB.mono h.below.size), Nat.le_trans h.size hB.size, h.b0.same (hB.block _ h.b0.lt), h.b1.same (hB.block _ h.b1.lt), h.l.below hB, h.f.below hB⟩

set_option maxHeartbeats 2000000 in
set_option maxRecDepth 100000 in
theorem fail_any (k : Nat) (x : ByteArray) (v u : Value) (l f : V.T) (A : Nat → Prop) (n : Int) (s : ByteArray) (w : World) (hk : Fit ⟨#[]⟩ k x) (hl : HS w A 0 v l) (hf : HS w A 1 u f)
    (hn : -9223372036854775808 ≤ n ∧ n ≤ 9223372036854775807) (hs : s.size ≤ 10000) (hP : PowTab w) (hT : Tabs w) :
    Calls Tryz.prog 30 #[.agg #[.int .u8 k, .string x, v, u], .int .i64 n, .string s] w (Own4G 6 ⟨#[]⟩ .nil (failT k x l f n (U.fixS s)) w) := by
  obtain ⟨p, c, rfl, -⟩ := hl.len
  obtain ⟨q, d, rfl, -⟩ := hf.len
  have hz : (U.fixS s).size ≤ 30000 := by have := U.fix_size s; omega
  have HO := Lib.hid (fun W p n c => object_any p n c W)
  have hnu : ∀ W, FaSt w k x (.slice p l.len c) (.slice q f.len d) l f W → Calls Tryz.prog 70 #[.int .i64 n] W (fun e w' => e = .returned (.agg #[.int .u8 3, .string (numT n), .slice none 0 0, .slice none 0 0]) ∧ Below W.heap.size W w') := fun W h => numberJ_any n hn.1 hn.2 W (fun w' hb => pow_on (pow_on hP h.below) hb)
  have HN := Lib.hid hnu
  have HT := Lib.hid (fun W (h : FaSt w k x (.slice p l.len c) (.slice q f.len d) l f W) => text4_any s W (by omega) (by omega) (tabs_below hT h.below))
  have HM := Lib.hid (fun W p c es (h : es.length = 2) (hb : Below w.heap.size w W) (hL : Lies W (.slice p 2 c) es) (ho : ∀ e ∈ es, e.Ok W (fun _ => True)) => made_any p 2 c es (fun _ => True) W h.symm (by omega) hL ho (tabs_below hT hb))
  have H0 := Lib.hid (show FaSt w k x (.slice p l.len c) (.slice q f.len d) l f ((w.alloc (.cells #[.int .u8 k, .string x, .slice p l.len c, .slice q f.len d] 25)).alloc (.cells #[.int .u8 0, .string ⟨#[]⟩, .slice none 0 0, .slice none 0 0] 25)) from
    ⟨two_below _ _ _, by rw [two_size]; omega, (two_new _ _ _).1, (two_new _ _ _).2, (hl.mono (fun _ _ _ => trivial)).below (two_below _ _ _), (hf.mono (fun _ _ _ => trivial)).below (two_below _ _ _)⟩)
  have HK := Lib.hid hk
  have HC := Lib.hid (num_fit n hn.1 hn.2)
  have HZ := Lib.hid hz
  clear hl hf hn hs hP hT hk hz hnu
  generalize U.fixS s = F at *
  go_enter Tryz.func30, Tryz.ntmps30
  go_wp2_with fail
  refine (HN.out _ H0.out).mono ?_
  rintro e w1 ⟨rfl, hB1⟩
  have H1 := Lib.hid (H0.out.on hB1)
  clear hB1 H0
  go_wp2_with fail
  refine (HT.out _ H1.out).mono ?_
  rintro e w2 ⟨rfl, hB2⟩
  have H2 := Lib.hid (H1.out.on hB2)
  clear hB2 H1
  go_wp2_with fail
  refine (HO.out _ _ _ _).mono ?_
  rintro e w3 ⟨rfl, hB3⟩
  have L2 := lies_new (w := w2) (cs := #[.string ⟨#[99, 111, 100, 101]⟩, .int .u8 3, .string (numT n), .slice none 0 0, .slice none 0 0, .string ⟨#[109, 101, 115, 115, 97, 103, 101]⟩, .int .u8 4, .string F, .slice none 0 0, .slice none 0 0]) (es := [codeF n, msgF F]) (t := 91) (n := 2) rfl rfl (by decide)
  have S2 := (L2.below hB3).hs (A := fun _ => True) (fun e he => by
    simp only [List.mem_cons, List.mem_nil_iff, or_false] at he
    rcases he with rfl | rfl
    · exact ⟨HS.nil _ _ _, HS.nil _ _ _, HC.out _ (by show (4 : Nat) ≤ _; decide)⟩
    · exact ⟨HS.nil _ _ _, HS.nil _ _ _, by show (4 : Nat) < 256; decide, by show F.size ≤ _; have := HZ.out; omega, by show (7 : Nat) ≤ _; decide⟩) (fun _ _ => trivial) (by show (2 : Nat) ≤ _; decide)
  have H3 := Lib.hid (And.intro ((H2.out.on ((Below.refl w2.heap.size w2).alloc (Nat.le_refl _) (.cells #[.string ⟨#[99, 111, 100, 101]⟩, .int .u8 3, .string (numT n), .slice none 0 0, .slice none 0 0, .string ⟨#[109, 101, 115, 115, 97, 103, 101]⟩, .int .u8 4, .string F, .slice none 0 0, .slice none 0 0] 91))).on hB3) S2)
  clear S2 L2 hB3 H2
  have hB4 := (Below.refl w3.heap.size w3).alloc (Nat.le_refl _) (.cells #[.int .u8 6, .string ⟨#[]⟩, .slice none 0 0, .slice (some ⟨w2.heap.size, 0, none⟩) 2 2] 25)
  have H4 := Lib.hid (And.intro (H3.out.1.on hB4) (H3.out.2.below hB4))
  obtain ⟨x0, x1, x2, x3⟩ := H4.out.1.b0.box
  clear hB4
  go_wp2_with fail
  have hB5 := (Below.refl (w3.alloc (.cells #[.int .u8 6, .string ⟨#[]⟩, .slice none 0 0, .slice (some ⟨w2.heap.size, 0, none⟩) 2 2] 25)).heap.size (w3.alloc (.cells #[.int .u8 6, .string ⟨#[]⟩, .slice none 0 0, .slice (some ⟨w2.heap.size, 0, none⟩) 2 2] 25))).alloc (Nat.le_refl _) (.cells #[.string ⟨#[105, 100]⟩, .int .u8 k, .string x, .slice p l.len c, .slice q f.len d, .string ⟨#[101, 114, 114, 111, 114]⟩, .int .u8 6, .string ⟨#[]⟩, .slice none 0 0, .slice (some ⟨w2.heap.size, 0, none⟩) 2 2] 91)
  have H5 := Lib.hid (And.intro (H4.out.1.on hB5) (H4.out.2.below hB5))
  have L5 := lies_new (w := w3.alloc (.cells #[.int .u8 6, .string ⟨#[]⟩, .slice none 0 0, .slice (some ⟨w2.heap.size, 0, none⟩) 2 2] 25)) (cs := #[.string ⟨#[105, 100]⟩, .int .u8 k, .string x, .slice p l.len c, .slice q f.len d, .string ⟨#[101, 114, 114, 111, 114]⟩, .int .u8 6, .string ⟨#[]⟩, .slice none 0 0, .slice (some ⟨w2.heap.size, 0, none⟩) 2 2]) (es := [idF k x (.slice p l.len c) (.slice q f.len d) l f, errF (.slice (some ⟨w2.heap.size, 0, none⟩) 2 2) n F]) (t := 91) (n := 2) rfl rfl (by decide)
  rw [World.size_alloc] at L5
  have hfields : ∀ e ∈ [idF k x (.slice p l.len c) (.slice q f.len d) l f, errF (.slice (some ⟨w2.heap.size, 0, none⟩) 2 2) n F], e.Ok ((w3.alloc (.cells #[.int .u8 6, .string ⟨#[]⟩, .slice none 0 0, .slice (some ⟨w2.heap.size, 0, none⟩) 2 2] 25)).alloc (.cells #[.string ⟨#[105, 100]⟩, .int .u8 k, .string x, .slice p l.len c, .slice q f.len d, .string ⟨#[101, 114, 114, 111, 114]⟩, .int .u8 6, .string ⟨#[]⟩, .slice none 0 0, .slice (some ⟨w2.heap.size, 0, none⟩) 2 2] 91)) (fun _ => True) := fun e he => by
    simp only [List.mem_cons, List.mem_nil_iff, or_false] at he
    rcases he with rfl | rfl
    · exact ⟨H5.out.1.l, H5.out.1.f, HK.out.1, HK.out.2.1, by show (2 : Nat) ≤ _; decide⟩
    · exact ⟨HS.nil _ _ _, H5.out.2, by show (6 : Nat) < 256; decide, by show (0 : Nat) ≤ _; decide, by show (5 : Nat) ≤ _; decide⟩
  refine (HM.out _ _ _ _ rfl H5.out.1.below L5 hfields).mono ?_
  rintro e w6 ⟨v2, u2, rfl, hl2, hf2, hB6⟩
  have H6 := Lib.hid (H5.out.1.on hB6)
  have hs5 := H5.out.1.size
  obtain ⟨p2, c2, rfl, -⟩ := hl2.len
  obtain ⟨q2, d2, rfl, -⟩ := hf2.len
  clear L5 hfields hB5 hB6 H4 H3 x0 x1 x2 x3
  generalize (w3.alloc (.cells #[.int .u8 6, .string ⟨#[]⟩, .slice none 0 0, .slice (some ⟨w2.heap.size, 0, none⟩) 2 2] 25)).alloc (.cells #[.string ⟨#[105, 100]⟩, .int .u8 k, .string x, .slice p l.len c, .slice q f.len d, .string ⟨#[101, 114, 114, 111, 114]⟩, .int .u8 6, .string ⟨#[]⟩, .slice none 0 0, .slice (some ⟨w2.heap.size, 0, none⟩) 2 2] 91) = w5 at *
  obtain ⟨y0, y1, y2, y3⟩ := H6.out.b1.box
  have f1 := H6.out.b1.free
  go_wp2_with fail
  obtain ⟨g1, g2, g3⟩ := H6.out.b1.all (.int .u8 6) (.string ⟨#[]⟩) (.slice p2 V.T.nil.len c2) (.slice q2 (treeOf [verF, idF k x (.slice p l.len c) (.slice q f.len d) l f, errF (.slice (some ⟨w2.heap.size, 0, none⟩) 2 2) n F]).len d2)
  have hw3 := set4_else w6 (w.heap.size + 1) (.int .u8 6) (.string ⟨#[]⟩) (.slice p2 V.T.nil.len c2) (.slice q2 (treeOf [verF, idF k x (.slice p l.len c) (.slice q f.len d) l f, errF (.slice (some ⟨w2.heap.size, 0, none⟩) 2 2) n F]).len d2)
  have g3' := g3 w.heap.size (Nat.le_succ _)
  clear y0 y1 y2 y3 f1
  generalize (((w6.setCell ⟨w.heap.size + 1, 0, none⟩ (.int .u8 6)).setCell ⟨w.heap.size + 1, 1, none⟩ (.string ⟨#[]⟩)).setCell ⟨w.heap.size + 1, 2, none⟩ (.slice p2 V.T.nil.len c2)).setCell ⟨w.heap.size + 1, 3, none⟩ (.slice q2 (treeOf [verF, idF k x (.slice p l.len c) (.slice q f.len d) l f, errF (.slice (some ⟨w2.heap.size, 0, none⟩) 2 2) n F]).len d2) = w7 at *
  obtain ⟨y0, y1, y2, y3⟩ := g1.box
  have keep : ∀ b, w5.heap.size ≤ b → b < w6.heap.size → w7.heap[b]? = w6.heap[b]? := fun b hb _ => hw3 b (by omega)
  refine bodyPost_ret (v := .agg #[.int .u8 6, .string ⟨#[]⟩, .slice p2 V.T.nil.len c2, .slice q2 (treeOf [verF, idF k x (.slice p l.len c) (.slice q f.len d) l f, errF (.slice (some ⟨w2.heap.size, 0, none⟩) 2 2) n F]).len d2]) (by simp [results, Tryz.results30, go_sem, y0, y1, y2, y3]) rfl ?_
  exact ⟨_, _, rfl, hl2.fre (fun b hb => by omega) keep, hf2.fre (fun b hb => by omega) keep, H6.out.below.trans g3'⟩
end Go.Proofs.YtepjomdjkoaofaaGreatDoor

namespace Go.Proofs.YtepjomdjkoaofaaGreatDoor
open Go Go.RowKit Go.Lib

/-- the first place of a byte from i on, or -1 -/
def ix8 (x : Nat) : List Nat → Nat → Int
  | [], _ => -1
  | z :: r, i => if z = x then i else ix8 x r (i + 1)
theorem ix8_has (x : Nat) : ∀ (l : List Nat) (i : Nat), decide (0 ≤ ix8 x l i) = decide (x ∈ l)
  | [], _ => by simp [ix8]
  | z :: r, i => by
    unfold ix8
    by_cases h : z = x
    · rw [if_pos h]; subst h; simp
    · rw [if_neg h, ix8_has x r (i + 1)]
      have h2 : ¬ x = z := fun e => h e.symm
      simp [h2]
def SameW (w w' : World) : Prop := w' = w
theorem SameW.refl (w : World) : SameW w w := rfl
theorem ix8_on {x : Nat} {l : List Nat} {i : Nat} (h : i < l.length) : ix8 x (l.drop i) i = if l.getD i 0 = x then (i : Int) else ix8 x (l.drop (i + 1)) (i + 1) := by
  rw [List.drop_eq_getElem_cons h, List.getD_eq_getElem?_getD, List.getElem?_eq_getElem h]
  rfl

set_option maxHeartbeats 1000000 in
set_option maxRecDepth 100000 in
theorem index8_any (b o n c : Nat) (l : List Nat) (x : Nat) (w : World) (hn : l.length = n) (hc : n ≤ c ∧ c ≤ 9223372036854775807) (hz : ∀ j, j < n → w.cell? ⟨b, o + j, none⟩ = some (.int .u8 (l.getD j 0 : Nat))) :
    Calls Tryz.prog 190 #[.slice (some ⟨b, o, none⟩) n c, .int .u8 x] w (fun e w' => e = .returned (.int .i64 (ix8 x l 0)) ∧ SameW w w') := by
  have HZ := Lib.hid hz
  have HN := Lib.hid hn
  clear hz hn
  go_enter Tryz.func190, Tryz.ntmps190
  go_wp2_with fail
  go_loopw [8] (fun p wr => ∃ i : Nat, p = .int .i64 i ∧ i ≤ n ∧ Hid (SameW w wr ∧ ix8 x (l.drop i) i = ix8 x l 0)) (fun p _ => n - (RowKit.intOf p).toNat)
  case atStart => exact ⟨0, rfl, Nat.zero_le _, Lib.hid ⟨SameW.refl _, rfl⟩⟩
  case round =>
    obtain ⟨i, rfl, hi, HR⟩ := hrel
    by_cases hlt : i < n
    · have hx := HR.out.2
      obtain rfl : wr = w := HR.out.1
      rw [ix8_on (by rw [HN.out]; exact hlt)] at hx
      have c1 := HZ.out i hlt
      generalize l.getD i 0 = z at *
      have HL := Lib.hid hlt
      by_cases hzx : z = x
      · subst hzx
        rw [if_pos rfl] at hx
        have t1 : ((z : Int) == z) = true := by simp
        have HX := Lib.hid hx
        clear hx HR
        go_wp2_with fail
        go_ret
        exact ⟨by rw [← HX.out]; rfl, SameW.refl _⟩
      · rw [if_neg hzx] at hx
        have t1 : ((x : Int) == z) = false := by simp; omega
        have HX := Lib.hid hx
        clear hx HR hzx
        go_wp2_with fail
        go_roundw
        case rel => exact ⟨i + 1, by go_num, HL.out, Lib.hid ⟨SameW.refl _, HX.out⟩⟩
        case measure => have := HL.out; simp [RowKit.intOf]; omega
    · obtain rfl : i = n := by omega
      have hx := HR.out.2
      obtain rfl : wr = w := HR.out.1
      rw [← HN.out, List.drop_length] at hx
      have HX := Lib.hid hx
      clear hx HR
      go_wp2_with fail
      go_ret
      exact ⟨by rw [← HX.out]; rfl, SameW.refl _⟩
set_option maxHeartbeats 1000000 in
set_option maxRecDepth 100000 in
theorem contains8_any (b o n c : Nat) (l : List Nat) (x : Nat) (w : World) (hn : l.length = n) (hc : n ≤ c ∧ c ≤ 9223372036854775807) (hz : ∀ j, j < n → w.cell? ⟨b, o + j, none⟩ = some (.int .u8 (l.getD j 0 : Nat))) :
    Calls Tryz.prog 128 #[.slice (some ⟨b, o, none⟩) n c, .int .u8 x] w (fun e w' => e = .returned (.bool (decide (x ∈ l))) ∧ SameW w w') := by
  have HI := Lib.hid (index8_any b o n c l x w hn hc hz)
  have HB := Lib.hid (ix8_has x l 0)
  clear hz hn hc
  go_enter Tryz.func128, Tryz.ntmps128
  go_wp2_with fail
  refine HI.out.mono ?_
  rintro e w1 ⟨rfl, hs⟩
  obtain rfl : w1 = w := hs
  go_wp2_with fail
  go_ret
  exact ⟨by rw [← HB.out]; rfl, SameW.refl _⟩
set_option maxHeartbeats 1000000 in
set_option maxRecDepth 100000 in
theorem isOf_any (k : Nat) (x : ByteArray) (v u : Value) (l f : V.T) (A : Nat → Prop) (b n c : Nat) (ks : List Nat) (w : World) (hl : HS w A 0 v l) (hf : HS w A 1 u f) (hn : ks.length = n) (hc : n ≤ c ∧ c ≤ 9223372036854775807) (hb : b < w.heap.size) (hz : ∀ j, j < n → w.cell? ⟨b, 0 + j, none⟩ = some (.int .u8 (ks.getD j 0 : Nat))) :
    Calls Tryz.prog 71 #[.agg #[.int .u8 k, .string x, v, u], .slice (some ⟨b, 0, none⟩) n c] w (fun e w' => e = .returned (.bool (decide (k ∈ ks))) ∧ Below w.heap.size w w') := by
  obtain ⟨p, d, rfl, -⟩ := hl.len
  obtain ⟨q, g, rfl, -⟩ := hf.len
  have hB := (Below.refl w.heap.size w).alloc (Nat.le_refl _) (.cells #[.int .u8 k, .string x, .slice p l.len d, .slice q f.len g] 25)
  have HC := Lib.hid (contains8_any b 0 n c ks k (w.alloc (.cells #[.int .u8 k, .string x, .slice p l.len d, .slice q f.len g] 25)) hn hc (fun j hj => (hB.cell (p := ⟨b, 0 + j, none⟩) hb).trans (hz j hj)))
  have HB := Lib.hid hB
  clear hl hf hz hB hn hc
  go_enter Tryz.func71, Tryz.ntmps71
  go_wp2_with fail
  refine HC.out.mono ?_
  rintro e w1 ⟨rfl, hs⟩
  obtain rfl : w1 = _ := hs
  go_wp2_with fail
  go_ret
  exact ⟨rfl, HB.out⟩
end Go.Proofs.YtepjomdjkoaofaaGreatDoor
