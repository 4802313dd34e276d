/- The program's reader of JSON: a string. Conditions: a string of at most 10^12 bytes; the library's tables of UTF-8 as its text lays them. -/
import Derived.Test.YtbdpghmpdghnbaaDoorMJ17
import Derived.Laws.Cover4
namespace Go.Proofs.YtbdpghmpdghnbaaDoor
open Go Go.RowKit Go.Lib

def enc (L : List Nat) : ByteArray := runesBytes (L.map fun (c : Nat) => (c : Int))
/-- a string's runes, behind its first sign: they, the place behind, what is wrong -/
def ptx (s : ByteArray) : Nat → Nat → List Nat → List Nat × Nat × Nat
  | 0, q, _ => ([], q, 30)
  | f + 1, q, L => if J.is s q 0 34 = true then (L, q + 1, 0) else if (cr s q).2.2 = 0 then ptx s f (cr s q).2.1 (joi L (cr s q).1) else ([], (cr s q).2)
def ptw (s : ByteArray) (p : Nat) : List Nat × Nat × Nat := if J.is s p 0 34 = true then ptx s (s.size - p) (p + 1) [] else ([], p, 30)
theorem am34 (c : Nat) : J.am ⟨#[34]⟩ c = decide (c = 34) := J.am_one 34 c (by decide)
theorem joi_len (L : List Nat) (c : Nat) : (joi L c).length ≤ L.length + 1 := by
  rcases List.eq_nil_or_concat L with rfl | ⟨l, a, rfl⟩
  · simp [joi_nil]
  · rw [List.concat_eq_append]
    by_cases h : hig a ∧ low c
    · rw [joi_yes h]; simp
    · rw [joi_no h]; simp
theorem joi_lt {L : List Nat} {c : Nat} (hL : ∀ a ∈ L, a < 2097152) (hc : c < 2097152) : ∀ a ∈ joi L c, a < 2097152 := by
  rcases List.eq_nil_or_concat L with rfl | ⟨l, a, rfl⟩
  · rw [joi_nil]; intro a ha; rw [List.mem_singleton.1 ha]; exact hc
  · rw [List.concat_eq_append] at *
    by_cases h : hig a ∧ low c
    · rw [joi_yes h]
      intro b hb
      rcases List.mem_append.1 hb with hb | hb
      · exact hL b (List.mem_append_left _ hb)
      · rw [List.mem_singleton.1 hb]
        unfold hig low at h
        omega
    · rw [joi_no h]
      intro b hb
      rcases List.mem_append.1 hb with hb | hb
      · exact hL b hb
      · rw [List.mem_singleton.1 hb]; exact hc
theorem Runes.keep {base B : Nat} {L : List Nat} {v : Value} {w w' : World} (h : Runes base L v w) (hB : B < base) (g : w.grownBy w' (some B)) : Runes base L v w' := by
  obtain ⟨h1, h2⟩ := h
  refine ⟨h1, ?_⟩
  rcases h2 with h2 | ⟨k, cap, cur, h3, hb, hg, h4⟩
  · exact .inl h2
  · exact .inr ⟨k, cap, cur, h3, hb, (g.block k (Array.getElem?_eq_some_iff.1 hg).1 (fun e => by cases e; omega)).trans hg, h4⟩
theorem Runes.above {base b : Nat} {L : List Nat} {v : Value} {w : World} (h : Runes base L v w) (hv : v.ownBlock = some b) : base ≤ b := by
  obtain ⟨h1, ⟨rfl, _⟩ | ⟨k, cap, cur, rfl, hb, hg, h4⟩⟩ := h
  · cases hv
  · cases hv; exact hb
theorem grow_own {w w1 w2 : World} {B : Nat} {v : Value} (g : w.grownBy w1 (some B)) (h : w1.grownBy w2 v.ownBlock) (hv : ∀ b, v.ownBlock = some b → w.heap.size ≤ b) : w.grownBy w2 (some B) :=
  ⟨h.os.trans g.os, h.tape.trans g.tape, h.output.trans g.output, Nat.le_trans g.size h.size, fun k hk hne => (h.block k (Nat.lt_of_lt_of_le hk g.size) (fun e => by have := hv k e.symm; omega)).trans (g.block k hk hne)⟩
theorem Rd.own {s : ByteArray} {p d B : Nat} {w w' : World} {v : Value} (h : Rd s p d B w) (g : w.grownBy w' v.ownBlock) (hv : ∀ b, v.ownBlock = some b → B < b) : Rd s p d B w' :=
  h.same (g.block B h.lt (fun e => by have := hv B e.symm; omega))
theorem convRunes {base : Nat} {L : List Nat} {v : Value} {w : World} (h : Runes base L v w) : (convert 60 9 v).run Tryd.prog w = .ok (.string (enc L)) w := by
  obtain ⟨h1, ⟨rfl, h2⟩ | ⟨k, cap, cur, rfl, hb, hg, h3, h4, h5, h6⟩⟩ := h
  · obtain rfl : L = [] := List.length_eq_zero_iff.1 h2
    exact run_convert_runes_nil w _ _ 21 _ _ (by kernel_rfl) (by kernel_rfl) (by kernel_rfl)
  · have := run_convert_runes (P := Tryd.prog) w 60 9 21 ⟨k, 0, none⟩ L.length cap (L.map fun (c : Nat) => (c : Int)) (by simp) (by kernel_rfl) (by kernel_rfl) (by kernel_rfl) (fun j hj => by
      rw [List.length_map] at hj
      have e : w.cell? ⟨k, j, none⟩ = cur[j]? := cell_of_row w k j cur _ (0, 0) hg
      have e2 := congrArg (fun x => x[j]?) h6
      rw [List.getElem?_take_of_lt (by omega)] at e2
      show w.cell? ((⟨k, 0, none⟩ : Addr).add j) = _
      have e3 : (⟨k, 0, none⟩ : Addr).add j = ⟨k, j, none⟩ := by cases j <;> simp [Addr.add]
      rw [e3, e, ← Array.getElem?_toList, e2]
      simp [ru, List.getD, hj])
    rw [List.take_of_length_le (by simp)] at this
    exact this

/-- where the loop stands -/
def TxAt (s : ByteArray) (p d B : Nat) (w : World) (v : Value) (wr : World) : Prop :=
  ∃ (L : List Nat) (q f : Nat), q ≤ s.size ∧ Rd s q d B wr ∧ w.grownBy wr (some B) ∧ Runes w.heap.size L v wr ∧ L.length ≤ q ∧ (∀ a ∈ L, a < 2097152) ∧ s.size + 1 ≤ q + f ∧ ptw s p = ptx s f q L

set_option maxRecDepth 100000 in
set_option maxHeartbeats 1000000 in
theorem text_any (s : ByteArray) (p d B : Nat) (w : World) (hs : s.size ≤ 100000000000) (hp : p ≤ s.size) (hT : Hid (TB B w)) (h : Rd s p d B w) :
    Calls Tryd.prog 29 #[.pointer (some ⟨B, 0, none⟩)] w (Out (.string (enc (ptw s p).1)) s (ptw s p).2 d B w) := by
  have hs2 : s.size ≤ 1000000000000 := by omega
  have hB := h.lt
  have hsk := fun q => J.sk_is (s := s) q (by decide) am34
  cases hb : J.is s p 0 34
  · have hk := take_no s ⟨#[34]⟩ p d B w hs2 hp h (by rw [hsk, hb])
    rw [show ptw s p = ([], p, 30) by unfold ptw; rw [if_neg (by rw [hb]; decide)]]
    clear hsk hb
    go_enter Tryd.func29, Tryd.ntmps29
    go_wp2_with fail
    refine hk.mono ?_
    rintro en w1 ⟨rfl, h1, g1⟩
    exact ⟨rfl, out_no ⟨rfl, h1, g1⟩⟩
  · have hk := take_yes s ⟨#[34]⟩ p d B w hs2 hp h (by rw [hsk, hb])
    have hlt := (J.of_is hb).2.1
    have H0 := Lib.hid (show ptw s p = ptx s (s.size - p) (p + 1) [] by unfold ptw; rw [if_pos hb])
    clear hb
    generalize J.pk s p = c at *
    go_enter Tryd.func29, Tryd.ntmps29
    go_wp2_with fail
    refine hk.mono ?_
    rintro en w1 ⟨rfl, h1, g1⟩
    have HA := Lib.hid (show TxAt s p d B w (.slice none 0 0) w1 from ⟨[], p + 1, s.size - p, hlt, h1, g1, World.ownsRow_nil _ _ _ _, Nat.zero_le _, (fun a ha => absurd ha (List.not_mem_nil)), by omega, H0.out⟩)
    clear h1 g1 H0
    go_wp2_with fail
    go_loopw [3] (fun v wr => Hid (TxAt s p d B w v wr)) (fun _ wr => s.size - stand B wr)
    case atStart => exact HA
    case round =>
      obtain ⟨L, q, f, hq, h1, g1, r1, l1, b1, f1, e1⟩ := hrel.out
      obtain ⟨f, rfl⟩ : ∃ f', f = f' + 1 := ⟨f - 1, by omega⟩
      cases hb : J.is s q 0 34
      · have hk := skip_no s ⟨#[34]⟩ q d B wr hs2 hq h1 (by rw [hsk, hb])
        have hcl := cr_lt s q
        have hcg := cr_go (s := s) (q := q)
        have hcle := cr_le hq
        have hstep : ptx s (f + 1) q L = if (cr s q).2.2 = 0 then ptx s f (cr s q).2.1 (joi L (cr s q).1) else ([], (cr s q).2) := by
          show (if _ then _ else _) = _
          rw [if_neg (by rw [hb]; decide)]
        clear hb hsk
        have hch := fun W hT hW => character_any s q d B W hs2 hq hT hW
        generalize cr s q = x at *
        obtain ⟨n, q2, e⟩ := x
        have HL := Lib.hid (And.intro e1 (And.intro hstep (And.intro hcg (And.intro hcle f1))))
        have HT := Lib.hid (hT.out.grow g1)
        have HQ := Lib.hid (stand_eq h1)
        clear hstep hcg hcle e1 f1
        go_wp2_with fail
        refine hk.mono ?_
        rintro en w2 ⟨rfl, h2, g2⟩
        have hch := hch w2 (Lib.hid (HT.out.grow g2)) h2
        have r2 := r1.keep hB g2
        have HG := Lib.hid (grow_trans g1 g2)
        clear h2 g2 h1 g1 r1
        go_wp2_with fail
        refine hch.mono ?_
        rintro en w3 ho
        unfold OutN Out at ho
        split at ho
        · rename_i h0
          obtain ⟨rfl, h3, g3⟩ := ho
          obtain rfl : e = 0 := h0
          have r3 := r2.keep hB g3
          have hj := join_any w.heap.size n L u3 w3 (Nat.le_trans HG.out.size g3.size) (Lib.hid (by omega)) hcl b1 r3
          have HF := Lib.hid (And.intro h3 (And.intro (grow_trans HG.out g3) r3))
          clear h3 g3 r3 r2
          go_wp2_with fail
          refine hj.mono ?_
          rintro en w4 ⟨v4, rfl, r4, g4⟩
          have HN := Lib.hid (show TxAt s p d B w v4 w4 from by
            obtain ⟨e1, hstep, hcg, hcle, f1⟩ := HL.out
            have hcg := hcg trivial
            have hjl := joi_len L n
            exact ⟨joi L n, q2, f, hcle.2, HF.out.1.own g4 (fun b hb => Nat.lt_of_lt_of_le hB (HF.out.2.2.above hb)), grow_own HF.out.2.1 g4 (fun b hb => HF.out.2.2.above hb), r4, by omega, joi_lt b1 hcl, by omega, e1.trans (hstep.trans (if_pos trivial))⟩)
          have HM := Lib.hid (show s.size - stand B w4 < s.size - stand B wr from by
            rw [HQ.out, stand_eq (HF.out.1.own g4 (fun b hb => Nat.lt_of_lt_of_le hB (HF.out.2.2.above hb)))]
            have hcg := HL.out.2.2.1 trivial
            have hcle := HL.out.2.2.2.1
            omega)
          clear r4 g4 hj
          go_wp2_with fail
          go_roundw
          case rel => exact HN
          case measure => exact HM.out
        · rename_i h0
          obtain ⟨rfl, h3, g3⟩ := ho
          have HF := Lib.hid (And.intro h3 (grow_trans HG.out g3))
          clear h3 g3 r2
          go_wp2_with fail
          have e2 := HL.out.1.trans (HL.out.2.1.trans (if_neg h0))
          rw [e2]
          exact ⟨rfl, out_died h0 ⟨rfl, HF.out⟩⟩
      · have hk := skip_yes s ⟨#[34]⟩ q d B wr hs2 hq h1 (by rw [hsk, hb])
        have HE := Lib.hid (show ptw s p = (L, q + 1, 0) from e1.trans (by show (if _ then _ else _) = _; rw [if_pos hb]))
        clear hb hsk e1
        go_wp2_with fail
        refine hk.mono ?_
        rintro en w2 ⟨rfl, h2, g2⟩
        have hcv := convRunes (r1.keep hB g2)
        have HF := Lib.hid (And.intro h2 (grow_trans g1 g2))
        clear h2 g2 g1 h1 r1
        go_wp2_with fail
        go_ret
        rw [HE.out]
        exact out_ok ⟨rfl, HF.out⟩
end Go.Proofs.YtbdpghmpdghnbaaDoor

namespace Go.Proofs.YtbdpghmpdghnbaaDoor
open Go Go.RowKit Go.Lib

section
variable {A : Type}
/-- the rest of some items: behind each a comma or the bracket -/
def itG (s : ByteArray) (c : Nat) (one : Nat → A → A × Nat × Nat) : Nat → Nat → A → A × Nat × Nat
  | 0, q, a => (a, q, 30)
  | f + 1, q, a => if J.is s q 0 44 = true then (if (one (q + 1) a).2.2 = 0 then itG s c one f (one (q + 1) a).2.1 (one (q + 1) a).1 else one (q + 1) a)
    else if J.is s q 0 c = true then (a, q + 1, 0) else (a, q, 30)
/-- all of some items, behind the first bracket -/
def itB (s : ByteArray) (c : Nat) (one : Nat → A → A × Nat × Nat) (q : Nat) (a : A) : A × Nat × Nat :=
  if J.is s q 0 c = true then (a, q + 1, 0) else if (one q a).2.2 = 0 then itG s c one (s.size + 1) (one q a).2.1 (one q a).1 else one q a
/-- what stands in brackets: so deep at most -/
def its (s : ByteArray) (c : Nat) (one : Nat → A → A × Nat × Nat) (d p : Nat) (a : A) : A × Nat × Nat :=
  if d = 64 then (a, p, 31) else itB s c one (J.bl s (p + 1) 0) a
/-- what comes of an item: all is kept, or an error -/
def OutI (I : A → World → Prop) (s : ByteArray) (x : A × Nat × Nat) (d B : Nat) (w : World) (en : Ending) (w' : World) : Prop :=
  if x.2.2 = 0 then en = .returned (.tuple #[]) ∧ I x.1 w' ∧ Rd s x.2.1 d B w' ∧ w.grownBy w' (some B) else Died x.2.2 s x.2.1 B w en w'
theorem outI_died {I : A → World → Prop} {s : ByteArray} {x : A × Nat × Nat} {d B : Nat} {w : World} {en : Ending} {w' : World} (h0 : ¬ x.2.2 = 0) (h : Died x.2.2 s x.2.1 B w en w') : OutI I s x d B w en w' := by unfold OutI; rw [if_neg h0]; exact h
theorem outI_ok {I : A → World → Prop} {s : ByteArray} {a : A} {p d B : Nat} {w : World} {en : Ending} {w' : World} (h : en = .returned (.tuple #[]) ∧ I a w' ∧ Rd s p d B w' ∧ w.grownBy w' (some B)) : OutI I s (a, p, 0) d B w en w' := h
theorem itG_comma {s : ByteArray} {c : Nat} {one : Nat → A → A × Nat × Nat} {f q : Nat} {a : A} (h : J.is s q 0 44 = true) : itG s c one (f + 1) q a = if (one (q + 1) a).2.2 = 0 then itG s c one f (one (q + 1) a).2.1 (one (q + 1) a).1 else one (q + 1) a := if_pos h
theorem itG_le {s : ByteArray} {c : Nat} {one : Nat → A → A × Nat × Nat} (hle : ∀ q a, q ≤ s.size → q ≤ (one q a).2.1 ∧ (one q a).2.1 ≤ s.size) : ∀ (f q : Nat) (a : A), q ≤ s.size → q ≤ (itG s c one f q a).2.1 ∧ (itG s c one f q a).2.1 ≤ s.size
  | 0, q, a, h => ⟨Nat.le_refl _, h⟩
  | f + 1, q, a, h => by
    unfold itG
    split
    · rename_i hi
      have h1 := (J.of_is hi).2.1
      have h2 := hle (q + 1) a h1
      split
      · have := itG_le (c := c) hle f (one (q + 1) a).2.1 (one (q + 1) a).1 h2.2
        omega
      · omega
    · split
      · rename_i hi
        have := (J.of_is hi).2.1
        exact ⟨Nat.le_succ _, this⟩
      · exact ⟨Nat.le_refl _, h⟩
theorem itB_le {s : ByteArray} {c : Nat} {one : Nat → A → A × Nat × Nat} (hle : ∀ q a, q ≤ s.size → q ≤ (one q a).2.1 ∧ (one q a).2.1 ≤ s.size) (q : Nat) (a : A) (h : q ≤ s.size) : q ≤ (itB s c one q a).2.1 ∧ (itB s c one q a).2.1 ≤ s.size := by
  unfold itB
  split
  · rename_i hi
    have := (J.of_is hi).2.1
    exact ⟨Nat.le_succ _, this⟩
  · have h2 := hle q a h
    split
    · have := itG_le (c := c) hle (s.size + 1) (one q a).2.1 (one q a).1 h2.2
      omega
    · exact h2
end

theorem sk_or {s x : ByteArray} {a b : Nat} (p : Nat) (ha : 0 < a) (hb : 0 < b) (hx : ∀ k, J.am x k = (decide (k = a) || decide (k = b))) : J.sk s x p = (J.is s p 0 a || J.is s p 0 b) := by
  unfold J.sk J.pk J.is
  rw [hx]
  by_cases h : p < s.size
  · simp [h]
  · simp [h]; omega
theorem pk_is {s : ByteArray} {p k : Nat} (h : J.is s p 0 k = true) : J.pk s p = k := by
  have := J.of_is h
  unfold J.pk
  rw [if_pos this.2.1, this.2.2]
theorem fin_of {A : Type} {fin z x : A × Nat × Nat} (h : fin = if x.2.2 = 0 then z else x) : (x.2.2 = 0 → fin = z) ∧ (¬ x.2.2 = 0 → fin = x) := ⟨fun e => by rw [h, if_pos e], fun e => by rw [h, if_neg e]⟩
/-- where the loop over items stands -/
def ItAt {A : Type} (s : ByteArray) (c d B : Nat) (one : Nat → A → A × Nat × Nat) (I : A → World → Prop) (P : Nat → A → Prop) (w : World) (fin : A × Nat × Nat) (wr : World) : Prop :=
  ∃ (a : A) (q f : Nat), q ≤ s.size ∧ Rd s q (d + 1) B wr ∧ w.grownBy wr (some B) ∧ I a wr ∧ s.size + 1 ≤ q + f ∧ P (q + 1) a ∧ fin = itG s c one f q a

set_option maxRecDepth 100000 in
set_option maxHeartbeats 1000000 in
theorem items_any {A : Type} (s x y : ByteArray) (c d p B : Nat) (one : Nat → A → A × Nat × Nat) (I : A → World → Prop) (P : Nat → A → Prop) (fid : FuncId) (bs : Array Value) (a : A) (w W : World)
    (hs : s.size ≤ 1000000000000) (hp : p < s.size) (hx : J.sk s x p = true) (hd : d ≤ 64) (hc : 0 < c) (hc2 : ¬ c = 44)
    (hy : Hid (∀ k, J.am y k = decide (k = c))) (hyy : Hid (∀ k, J.am (⟨#[44]⟩ ++ y) k = (decide (k = 44) || decide (k = c)))) (hys : y.size ≤ 1000)
    (hle : Hid (∀ q a, q ≤ s.size → q ≤ (one q a).2.1 ∧ (one q a).2.1 ≤ s.size))
    (hI : Hid (∀ a W W', I a W → W.grownBy W' (some B) → I a W'))
    (hP : Hid ((∀ q q' a, P q a → q ≤ q' → P q' a) ∧ ∀ q a, q ≤ s.size → P q a → (one q a).2.2 = 0 → P ((one q a).2.1 + 1) (one q a).1)) (hPp : P (p + 1) a)
    (hone : Hid (d < 64 → ∀ q a W, q ≤ s.size → P q a → I a W → Rd s q (d + 1) B W → w.grownBy W (some B) → Calls Tryd.prog fid bs W (OutI I s (one q a) (d + 1) B w)))
    (hent : ∀ args w, (callFunc fid args).run Tryd.prog w = .ok (.enter fid args) w) (h : Rd s p d B W) (ha : I a W) (hg : w.grownBy W (some B)) :
    Calls Tryd.prog 38 #[.pointer (some ⟨B, 0, none⟩), .string x, .string y, .func (.func fid) #[] bs] W (OutI I s (its s c one d p a) d B w) := by
  have c2 := h.c2
  have f2 := h.f2
  by_cases h64 : d = 64
  · subst h64
    rw [show its s c one 64 p a = (a, p, 31) from if_pos rfl]
    go_enter Tryd.func38, Tryd.ntmps38
    go_wp2_with fail
    exact ⟨rfl, outI_died (show ¬ 31 = 0 by decide) ⟨rfl, ⟨_, h⟩, hg⟩⟩
  · rw [show its s c one d p a = itB s c one (J.bl s (p + 1) 0) a from if_neg h64]
    have h2 := h.set2 (d + 1)
    have g2 := grow_trans hg (grow_set W B 2 (.int .i64 (d + 1 : Nat)))
    have a2 := hI.out a _ _ ha (grow_set W B 2 (.int .i64 (d + 1 : Nat)))
    rw [Int.natCast_add] at h2 g2 a2
    have H2 := Lib.hid (And.intro h2 (And.intro g2 a2))
    clear h2 g2 a2
    have hlt : d < 64 := by omega
    go_enter Tryd.func38, Tryd.ntmps38
    go_wp2_with fail
    have hs2 : p + 1 ≤ s.size := hp
    refine (take_yes s x p (d + 1) B _ hs (by omega) H2.out.1 hx).mono ?_
    rintro en w1 ⟨rfl, h1, g1⟩
    have H3 := Lib.hid (And.intro h1 (And.intro (grow_trans H2.out.2.1 g1) (hI.out _ _ _ H2.out.2.2 g1)))
    clear h1 g1 c2 f2
    generalize J.pk s p = c0 at *
    go_wp2_with fail
    refine (skipAll_any s J.blk (p + 1) (d + 1) B _ hs hs2 blanks0 H3.out.1).mono ?_
    rintro en w2 ⟨rfl, h1, g1⟩
    rw [J.sa_bl] at h1
    have hq := J.bl_le 0 hs2
    generalize J.bl s (p + 1) 0 = q at *
    have H4 := Lib.hid (And.intro h1 (And.intro (grow_trans H3.out.2.1 g1) (hI.out _ _ _ H3.out.2.2 g1)))
    clear h1 g1
    have hsk := fun q => J.sk_is (s := s) q hc hy.out
    have hq2 := hq.2
    go_wp2_with fail
    cases hb : J.is s q 0 c
    · refine (skip_no s y q (d + 1) B _ hs hq2 H4.out.1 (by rw [hsk, hb])).mono ?_
      rintro en w3 ⟨rfl, h1, g1⟩
      have H5 := Lib.hid (And.intro h1 (And.intro (grow_trans H4.out.2.1 g1) (hI.out _ _ _ H4.out.2.2 g1)))
      clear h1 g1
      have hit := hone.out hlt q a w3 hq2 (hP.out.1 _ _ _ hPp hq.1) H5.out.2.2 H5.out.1 H5.out.2.1
      have HB := Lib.hid (fin_of (show itB s c one q a = if (one q a).2.2 = 0 then itG s c one (s.size + 1) (one q a).2.1 (one q a).1 else one q a by unfold itB; rw [if_neg (by rw [hb]; decide)]))
      have hle1 := Lib.hid (hle.out q a hq2)
      have hP1 := Lib.hid (hP.out.2 q a hq2 (hP.out.1 _ _ _ hPp hq.1))
      clear hb
      generalize itB s c one q a = fin at *
      generalize one q a = x1 at *
      go_wp2_with fail
      refine hit.mono ?_
      rintro en w4 ho
      unfold OutI at ho
      split at ho
      · rename_i h0
        obtain ⟨rfl, i1, h1, g1⟩ := ho
        have HA := Lib.hid (show ItAt s c d B one I P w fin w4 from ⟨x1.1, x1.2.1, s.size + 1, hle1.out.2, h1, g1, i1, by omega, hP1.out h0, HB.out.1 h0⟩)
        clear i1 h1 g1 hit
        have hsk2 := fun q => sk_or (s := s) q (by decide) hc hyy.out
        go_wp2_with fail
        go_loopw [] (fun wr => Hid (ItAt s c d B one I P w fin wr)) (fun wr => s.size - stand B wr)
        case atStart => exact HA
        case round =>
          obtain ⟨a2, q2, f, hq3, h1, g1, i1, f1, P1, e1⟩ := hrel.out
          obtain ⟨f, rfl⟩ : ∃ f', f = f' + 1 := ⟨f - 1, by omega⟩
          have HF := Lib.hid f1
          clear f1
          cases hb : J.is s q2 0 44
          · cases hb2 : J.is s q2 0 c
            · have hk := take_no s (⟨#[44]⟩ ++ y) q2 (d + 1) B wr hs hq3 h1 (by rw [hsk2, hb, hb2]; rfl)
              have HE := Lib.hid (e1.trans (show itG s c one (f + 1) q2 a2 = (a2, q2, 30) by unfold itG; rw [if_neg (by rw [hb]; decide), if_neg (by rw [hb2]; decide)]))
              clear hb hb2 e1 i1
              go_wp2_with fail
              refine hk.mono ?_
              rintro en w5 ⟨rfl, h2, g2⟩
              have HG := Lib.hid (And.intro h2 (grow_trans g1 g2))
              clear h2 g2
              go_wp2_with fail
              rw [HE.out]
              exact ⟨rfl, outI_died (show ¬ 30 = 0 by decide) ⟨rfl, HG.out⟩⟩
            · have hk := take_yes s (⟨#[44]⟩ ++ y) q2 (d + 1) B wr hs hq3 h1 (by rw [hsk2, hb, hb2]; rfl)
              rw [pk_is hb2] at hk
              have HE := Lib.hid (e1.trans (show itG s c one (f + 1) q2 a2 = (a2, q2 + 1, 0) by unfold itG; rw [if_neg (by rw [hb]; decide), if_pos hb2]))
              have e44 : ((c : Int) == 44) = false := by simp; omega
              clear hb hb2 e1
              go_wp2_with fail
              refine hk.mono ?_
              rintro en w5 ⟨rfl, h2, g2⟩
              have HG := Lib.hid (And.intro h2 (And.intro (grow_trans g1 g2) (hI.out _ _ _ i1 g2)))
              have c2 := h2.c2
              have f2 := h2.f2
              clear h2 g2 i1
              go_wp2_with fail
              go_end0
              rw [HE.out]
              exact outI_ok ⟨rfl, hI.out _ _ _ HG.out.2.2 (grow_set _ _ _ _), HG.out.1.set2 d, grow_trans HG.out.2.1 (grow_set _ _ _ _)⟩
          · have hk := take_yes s (⟨#[44]⟩ ++ y) q2 (d + 1) B wr hs hq3 h1 (by rw [hsk2, hb]; rfl)
            rw [pk_is hb] at hk
            have hq4 := (J.of_is hb).2.1
            have HE := Lib.hid (fin_of (e1.trans (itG_comma hb)))
            have HS := Lib.hid (stand_eq h1)
            have hle2 := Lib.hid (hle.out (q2 + 1) a2 hq4)
            clear hb e1
            have hit := fun W => hone.out hlt (q2 + 1) a2 W hq4 P1
            have hP2 := Lib.hid (hP.out.2 (q2 + 1) a2 hq4 P1)
            generalize one (q2 + 1) a2 = x2 at *
            go_wp2_with fail
            refine hk.mono ?_
            rintro en w5 ⟨rfl, h2, g2⟩
            have hit := hit w5 (hI.out _ _ _ i1 g2) h2 (grow_trans g1 g2)
            clear h2 g2 i1 g1 h1
            go_wp2_with fail
            refine hit.mono ?_
            rintro en w6 ho
            unfold OutI at ho
            split at ho
            · rename_i h0
              obtain ⟨rfl, i1, h1, g1⟩ := ho
              have HN := Lib.hid (show ItAt s c d B one I P w fin w6 from ⟨x2.1, x2.2.1, f, hle2.out.2, h1, g1, i1, by have := hle2.out; have := HF.out; omega, hP2.out h0, HE.out.1 h0⟩)
              have HM := Lib.hid (show s.size - stand B w6 < s.size - stand B wr from by
                rw [HS.out, stand_eq h1]
                have := hle2.out
                omega)
              clear i1 h1 g1 hit
              go_wp2_with fail
              go_roundw
              case rel => exact HN
              case measure => exact HM.out
            · rename_i h0
              have HD := Lib.hid ho
              have HE2 := Lib.hid (HE.out.2 h0)
              obtain ⟨rfl, h2, g2⟩ := ho
              clear h2 g2
              go_wp2_with fail
              rw [HE2.out]
              exact ⟨rfl, outI_died h0 HD.out⟩
      · rename_i h0
        have HD := Lib.hid ho
        obtain ⟨rfl, h2, g2⟩ := ho
        have HE := HB.out.2 h0
        refine ⟨rfl, ?_⟩
        rw [HE]
        exact outI_died h0 HD.out
    · refine (skip_yes s y q (d + 1) B _ hs hq2 H4.out.1 (by rw [hsk, hb])).mono ?_
      rintro en w3 ⟨rfl, h1, g1⟩
      have hB := Lib.hid (show itB s c one q a = (a, q + 1, 0) from if_pos hb)
      have H5 := Lib.hid (And.intro h1 (And.intro (grow_trans H4.out.2.1 g1) (hI.out _ _ _ H4.out.2.2 g1)))
      have c2 := h1.c2
      have f2 := h1.f2
      clear h1 g1 hb
      go_wp2_with fail
      go_end0
      rw [hB.out]
      exact outI_ok ⟨rfl, hI.out _ _ _ H5.out.2.2 (grow_set _ _ _ _), H5.out.1.set2 d, grow_trans H5.out.2.1 (grow_set _ _ _ _)⟩
end Go.Proofs.YtbdpghmpdghnbaaDoor
