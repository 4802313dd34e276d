/- The statement on Get, walked: whatever value and name, it answers true. Conditions: strings of at most 2^47 bytes, rows of at most 2 * 10^12 elements. -/
import Derived.Test.YthabbebjmkjmfaaJvCount
import Derived.Test.YthabbebjmkjmfaaJvTwin
import Derived.Test.YthabbebjmkjmfaaJvGet
namespace Go.Proofs.Ythabbebjmkjmfaa
open Go Go.RowKit Go.Lib

def SmallIs (s : Nat) (w : World) (en : Ending) (w' : World) : Prop := ∃ ok : Bool, en = .returned (.bool ok) ∧ (ok = true → s + 1 ≤ 2000) ∧ Below w.heap.size w w'

set_option maxRecDepth 100000 in
set_option maxHeartbeats 1000000 in
theorem small_any (ka : Nat) (xa : ByteArray) (va ua : Value) (la fa : V.T) (A : Nat → Prop) (w : World) (hva : HS w A 0 va la) (hua : HS w A 1 ua fa) :
    Calls Try.prog 4 #[.agg #[.int .u8 ka, .string xa, va, ua], .int .i64 2000, .int .i64 200] w (SmallIs (la.size + fa.size) w) := by
  obtain ⟨pa, ca, rfl, ba0, ba1, ba2⟩ := hva.len
  obtain ⟨qa, da, rfl, ba5, ba3, ba4⟩ := hua.len
  have hc := fun W hW => count_any (la.size + fa.size + 1) ka xa _ _ la fa 2000 200 A W (Nat.lt_succ_self _) (by decide) (by decide) (by decide) (by decide) (hva.below hW) (hua.below hW)
  have HB := Lib.hid (two_below w)
  clear hva hua
  go_enter Try.func4, Try.ntmps4
  go_wp2_with fail
  have hB := (Below.refl w.heap.size w).alloc (Nat.le_refl _) (.cells #[.int .u8 ka, .string xa, .slice pa la.len ca, .slice qa fa.len da] 25)
  refine (hc _ hB).mono ?_
  rintro e w1 ⟨r, ok, rfl, _, _, hok, hB1⟩
  have HK := Lib.hid hok
  have HB1 := Lib.hid (hB.trans (hB1.mono hB.size))
  clear hok hB hB1 hc
  go_wp2_with fail
  go_ret
  exact ⟨ok, rfl, fun h => by have := HK.out h; omega, HB1.out⟩

/-- what the law's loop finds at each head: three boxes, three values -/
structure GSt (w : World) (tv : TypeId) (s5 s6 : Nat) (k0 x0 v0 u0 k1 x1 v1 u1 k2 x2 v2 u2 : Value) (A : Nat → Prop) (B : Nat) (la fa lg fg : V.T) (W : World) : Prop where
  below : Below w.heap.size w W
  r1 : Blk4 W w.heap.size tv k0 x0 v0 u0
  r5 : Blk4 W s5 tv k1 x1 v1 u1
  r6 : Blk4 W s6 tv k2 x2 v2 u2
  m1 : HS W (fun b => B ≤ b) 0 v1 la
  m2 : HS W (fun b => B ≤ b) 1 u1 fa
  m3 : HS W A 0 v2 lg
  m4 : HS W A 1 u2 fg
  a1 : HS W A 0 v0 la
  a2 : HS W A 1 u0 fa
theorem GSt.on {w : World} {tv : TypeId} {s5 s6 : Nat} {k0 x0 v0 u0 k1 x1 v1 u1 k2 x2 v2 u2 : Value} {A : Nat → Prop} {B : Nat} {la fa lg fg : V.T} {W W' : World}
    (h : GSt w tv s5 s6 k0 x0 v0 u0 k1 x1 v1 u1 k2 x2 v2 u2 A B la fa lg fg W) (hB : Below W.heap.size W W') : GSt w tv s5 s6 k0 x0 v0 u0 k1 x1 v1 u1 k2 x2 v2 u2 A B la fa lg fg W' :=
  ⟨h.below.trans (hB.mono h.below.size), h.r1.same (hB.block _ h.r1.lt), h.r5.same (hB.block _ h.r5.lt), h.r6.same (hB.block _ h.r6.lt), h.m1.below hB, h.m2.below hB, h.m3.below hB, h.m4.below hB, h.a1.below hB, h.a2.below hB⟩
/-- what the loops that spoil keep -/
structure SpSt (wr : World) (s : Nat) (tv : TypeId) (k x : Value) (p : Option Addr) (n c : Nat) (q : Option Addr) (m d : Nat) (W : World) : Prop where
  below : Below wr.heap.size wr W
  box : Blk4 W s tv k x (.slice p n c) (.slice q m d)
  base : wr.heap.size ≤ s
  list : ∀ b o, p = some ⟨b, o, none⟩ → wr.heap.size ≤ b ∧ b ≠ s ∧ Cells W b o (n * 4) ∧ ∀ j, W.frozen? ⟨b, j, none⟩ = false
  fields : ∀ b o, q = some ⟨b, o, none⟩ → wr.heap.size ≤ b ∧ b ≠ s ∧ Cells W b o (m * 5) ∧ ∀ j, W.frozen? ⟨b, j, none⟩ = false
theorem SpSt.set {wr : World} {s : Nat} {tv : TypeId} {k x : Value} {p : Option Addr} {n c : Nat} {q : Option Addr} {m d : Nat} {W : World} (h : SpSt wr s tv k x p n c q m d W) {b : Nat} (hb : wr.heap.size ≤ b) (hs : b ≠ s) (j : Nat) (y : Value) :
    SpSt wr s tv k x p n c q m d (W.setCell ⟨b, j, none⟩ y) :=
  ⟨h.below.setCell hb _, h.box.else (Ne.symm hs), h.base, fun b' o e => ⟨(h.list b' o e).1, (h.list b' o e).2.1, (h.list b' o e).2.2.1.set _ _, fun i => by rw [World.frozen?_setCell]; exact (h.list b' o e).2.2.2 i⟩,
    fun b' o e => ⟨(h.fields b' o e).1, (h.fields b' o e).2.1, (h.fields b' o e).2.2.1.set _ _, fun i => by rw [World.frozen?_setCell]; exact (h.fields b' o e).2.2.2 i⟩⟩
theorem hs_cells {W : World} {A : Nat → Prop} {d : Nat} (hd : d = 0 ∨ d = 1) {p : Option Addr} {n c b o : Nat} {t : V.T} (h : HS W A d (.slice p n c) t) (hn : t.len = n) (hp : p = some ⟨b, o, none⟩) : Cells W b o (n * (4 + d)) := by
  rcases h with ⟨h1, _⟩ | ⟨h0, _⟩ | ⟨b', o', c', h1, _, _, h2⟩
  · cases h1; cases hp
  · intro j hj; rw [← hn, h0, Nat.zero_mul] at hj; omega
  · cases h1
    cases hp
    exact HR.cells hd t b o h2
theorem SpSt.start {wr W : World} {s : Nat} {tv : TypeId} {k x : Value} {p : Option Addr} {n c : Nat} {q : Option Addr} {m d : Nat} {A : Nat → Prop} {l f : V.T} (hB : Below wr.heap.size wr W) (hb : Blk4 W s tv k x (.slice p n c) (.slice q m d))
    (hs : wr.heap.size ≤ s) (hl : HS W A 0 (.slice p n c) l) (hf : HS W A 1 (.slice q m d) f) (hn : l.len = n) (hm : f.len = m) (g1 : SlFree wr.heap.size W (.slice p n c)) (g2 : SlFree wr.heap.size W (.slice q m d))
    (e1 : ∀ b, (Value.slice p n c).ownBlock = some b → b ≠ s) (e2 : ∀ b, (Value.slice q m d).ownBlock = some b → b ≠ s) : SpSt wr s tv k x p n c q m d W :=
  ⟨hB, hb, hs, fun b o e => ⟨(g1 b (by rw [e]; rfl)).1, e1 b (by rw [e]; rfl), hs_cells (.inl rfl) hl hn e, (g1 b (by rw [e]; rfl)).2.2⟩, fun b o e => ⟨(g2 b (by rw [e]; rfl)).1, e2 b (by rw [e]; rfl), hs_cells (.inr rfl) hf hm e, (g2 b (by rw [e]; rfl)).2.2⟩⟩

set_option maxRecDepth 100000 in
set_option maxHeartbeats 2000000 in
theorem getsLaw_any (ka : Nat) (xa nm : ByteArray) (va ua : Value) (la fa : V.T) (A : Nat → Prop) (w : World) (hva : HS w A 0 va la) (hua : HS w A 1 ua fa) :
    Calls Try.prog 3 #[.agg #[.int .u8 ka, .string xa, va, ua], .string nm] w (Bools true w) := by
  obtain ⟨pa, ca, rfl, ba0, ba1, ba2⟩ := hva.len
  obtain ⟨qa, da, rfl, ba5, ba3, ba4⟩ := hua.len
  have HA := Lib.hid (And.intro hva hua)
  clear hva hua
  go_enter Try.func3, Try.ntmps3
  go_wp2_with fail
  have hb1 := heap_alloc_new w (.cells #[.int .u8 ka, .string xa, .slice pa la.len ca, .slice qa fa.len da] 25)
  have hw0 := (Below.refl w.heap.size w).alloc (Nat.le_refl _) (.cells #[.int .u8 ka, .string xa, .slice pa la.len ca, .slice qa fa.len da] 25)
  generalize w.alloc (.cells #[.int .u8 ka, .string xa, .slice pa la.len ca, .slice qa fa.len da] 25) = W0 at *
  have r1 : Blk4 W0 w.heap.size 25 _ _ _ _ := hb1
  refine (small_any ka xa _ _ la fa A _ (HA.out.1.below hw0) (HA.out.2.below hw0)).mono ?_
  rintro e w1 ⟨ok, rfl, hok, hB1⟩
  have r1 := r1.same (hB1.block _ r1.lt)
  have hw1 := hw0.trans (hB1.mono hw0.size)
  clear hb1 hw0 hB1
  cases ok
  · have HW := Lib.hid hw1
    clear hw1 r1 hok
    go_wp2_with fail
    go_ret
    exact ⟨rfl, HW.out⟩
  · have HK := Lib.hid (hok rfl)
    clear hok
    obtain ⟨c0, c1, c2, c3⟩ := r1.box
    have HR1 := Lib.hid r1
    have HW := Lib.hid hw1
    clear r1 hw1
    go_wp2_with fail
    refine (twin_any (la.size + fa.size + 1) ka xa _ _ la fa A _ (Nat.lt_succ_self _) (by have := HK.out; omega) (HA.out.1.below HW.out) (HA.out.2.below HW.out)).mono ?_
    rintro e w2 ⟨v2, u2, rfl, hl2, hf2, hB2⟩
    obtain ⟨p2, c2', rfl, -⟩ := hl2.len
    obtain ⟨q2, d2', rfl, -⟩ := hf2.len
    have HB2 := Lib.hid hB2
    have HS2 := Lib.hid (And.intro hl2 hf2)
    clear c0 c1 c2 c3 hB2 hl2 hf2
    have hal2 := (Below.refl w2.heap.size w2).alloc (Nat.le_refl _) (.cells #[.int .u8 ka, .string xa, .slice p2 la.len c2', .slice q2 fa.len d2'] 25)
    have hn2 := heap_alloc_new w2 (.cells #[.int .u8 ka, .string xa, .slice p2 la.len c2', .slice q2 fa.len d2'] 25)
    obtain ⟨c0, c1, c2, c3⟩ := ((HR1.out.same (HB2.out.block _ HR1.out.lt)).same (hal2.block _ (Nat.lt_of_lt_of_le HR1.out.lt HB2.out.size))).box
    have HN2 := Lib.hid (And.intro hal2 hn2)
    clear hal2 hn2
    go_wp2_with fail
    have hw2 := (HW.out.trans (HB2.out.mono HW.out.size)).trans (HN2.out.1.mono (Nat.le_trans HW.out.size HB2.out.size))
    have r1 := (HR1.out.same (HB2.out.block _ HR1.out.lt)).same (HN2.out.1.block _ (Nat.lt_of_lt_of_le HR1.out.lt HB2.out.size))
    have r5 : Blk4 _ w2.heap.size 25 _ _ _ _ := HN2.out.2
    have m1 := HS2.out.1.below HN2.out.1
    have m2 := HS2.out.2.below HN2.out.1
    clear c0 c1 c2 c3 HN2 HS2 HR1 HB2
    generalize w2.alloc (.cells #[.int .u8 ka, .string xa, .slice p2 la.len c2', .slice q2 fa.len d2'] 25) = W2 at *
    generalize w2.heap.size = s5 at *
    have a1 := HA.out.1.below hw2
    have a2 := HA.out.2.below hw2
    refine (refGet_any ka xa nm _ _ la fa A _ a1 a2).mono ?_
    rintro e w3 ⟨v3, u3, rfl, hl3, hf3, hB3⟩
    obtain ⟨p3, c3', rfl, -⟩ := hl3.len
    obtain ⟨q3, d3', rfl, -⟩ := hf3.len
    have hal3 := (Below.refl w3.heap.size w3).alloc (Nat.le_refl _) (.cells #[.int .u8 (V.res (V.got ka fa nm)).1, .string (V.res (V.got ka fa nm)).2.1, .slice p3 (V.res (V.got ka fa nm)).2.2.1.len c3', .slice q3 (V.res (V.got ka fa nm)).2.2.2.1.len d3'] 25)
    have hn3 := heap_alloc_new w3 (.cells #[.int .u8 (V.res (V.got ka fa nm)).1, .string (V.res (V.got ka fa nm)).2.1, .slice p3 (V.res (V.got ka fa nm)).2.2.1.len c3', .slice q3 (V.res (V.got ka fa nm)).2.2.2.1.len d3'] 25)
    have lt1 := r1.lt
    have lt5 := r5.lt
    have le3 := hB3.size
    have hw3 := (hw2.trans (hB3.mono hw2.size)).trans (hal3.mono (Nat.le_trans hw2.size hB3.size))
    have r1 := (r1.same (hB3.block _ r1.lt)).same (hal3.block _ (by omega))
    have r5 := (r5.same (hB3.block _ r5.lt)).same (hal3.block _ (by omega))
    have r6 : Blk4 (w3.alloc _) w3.heap.size 25 _ _ _ _ := hn3
    have m1 := (m1.below hB3).below hal3
    have m2 := (m2.below hB3).below hal3
    have m3 := hl3.below hal3
    have m4 := hf3.below hal3
    have a1 := (a1.below hB3).below hal3
    have a2 := (a2.below hB3).below hal3
    have ALL := Lib.hid (GSt.mk hw3 r1 r5 r6 m1 m2 m3 m4 a1 a2)
    clear hw3 r1 r5 r6 m1 m2 m3 m4 a1 a2 hal3 hn3 lt1 lt5 le3 hB3 hl3 hf3 hw2 HK HA HW
    generalize hgt : V.res (V.got ka fa nm) = gt at *
    obtain ⟨kg, xg, lg, fg, bg⟩ := gt
    have HGT := Lib.hid hgt
    dsimp only at *
    clear hgt
    go_wp2_with fail
    generalize w3.alloc (.cells #[.int .u8 kg, .string xg, .slice p3 lg.len c3', .slice q3 fg.len d3'] 25) = W3 at *
    generalize w3.heap.size = s6 at *
    go_loopw [8] (fun t wr => ∃ i : Nat, t = .int .i64 i ∧ i ≤ 2 ∧ Hid (GSt w 25 s5 s6 (.int .u8 ka) (.string xa) (.slice pa la.len ca) (.slice qa fa.len da) (.int .u8 ka) (.string xa) (.slice p2 la.len c2') (.slice q2 fa.len d2') (.int .u8 kg) (.string xg) (.slice p3 lg.len c3') (.slice q3 fg.len d3') A w1.heap.size la fa lg fg wr)) (fun t _ => 2 - (RowKit.intOf t).toNat)
    case atStart => exact ⟨0, rfl, by decide, ALL⟩
    case round =>
      obtain ⟨i, rfl, hi, HQ⟩ := hrel
      by_cases hlt : i < 2
      · obtain ⟨c0, c1, c2, c3⟩ := HQ.out.r5.box
        have hget := get_any ka xa nm _ _ la fa _ wr HQ.out.m1 HQ.out.m2
        unfold GotF at hget
        rw [HGT.out] at hget
        dsimp only at hget
        go_wp2_with fail
        refine hget.mono ?_
        rintro e w4 ⟨v4, u4, rfl, hl4, hf4, hs4, hs5, hB4⟩
        clear c0 c1 c2 c3
        have HQ0 := HQ
        obtain ⟨p4, c4, rfl, bl0, -⟩ := hl4.len
        obtain ⟨q4, d4, rfl, bf0, -⟩ := hf4.len
        have hal := (Below.refl w4.heap.size w4).alloc (Nat.le_refl _) (.cells #[.int .u8 kg, .string xg, .slice p4 lg.len c4, .slice q4 fg.len d4] 25)
        have hn4 : Blk4 (w4.alloc _) w4.heap.size 25 _ _ _ _ := heap_alloc_new w4 (.cells #[.int .u8 kg, .string xg, .slice p4 lg.len c4, .slice q4 fg.len d4] 25)
        have hq5 := (HQ.out.on hB4).on hal
        have hB5 := hB4.trans (hal.mono hB4.size)
        have hl5 := hl4.below hal
        have hf5 := hf4.below hal
        have e4 : ∀ b, (Value.slice p4 lg.len c4).ownBlock = some b → b ≠ w4.heap.size := fun b hb => by have := (hs4 b hb).2.1; omega
        have e5 : ∀ b, (Value.slice q4 fg.len d4).ownBlock = some b → b ≠ w4.heap.size := fun b hb => by have := (hs5 b hb).2.1; omega
        have g4 := hs4.imp (Nat.le_refl _) hal.size (fun b _ hb => hal.block b hb)
        have g5 := hs5.imp (Nat.le_refl _) hal.size (fun b _ hb => hal.block b hb)
        have lt6 := hB4.size
        have HP := Lib.hid (And.intro e4 (And.intro e5 (And.intro g4 g5)))
        obtain ⟨c0, c1, c2, c3⟩ := hq5.r6.box
        have h9 := hn4.box
        have HQ5 := Lib.hid (And.intro hq5 (And.intro hB5 (And.intro hn4 (And.intro hl5 hf5))))
        clear hq5 hB5 hn4 hl5 hf5 e4 e5 g4 g5 hal hB4 hl4 hf4 hs4 hs5 hget HQ
        obtain ⟨y0, y1, y2, y3⟩ := h9
        have hne : (bg != bg) = false := by simp
        have LT6 := Lib.hid lt6
        clear lt6
        go_wp2_with fail
        generalize w4.alloc (.cells #[.int .u8 kg, .string xg, .slice p4 lg.len c4, .slice q4 fg.len d4] 25) = W5 at *
        generalize w4.heap.size = s9 at *
        have hv1 := same_any (lg.size + fg.size + 1) kg xg _ _ lg fg kg xg _ _ lg fg _ A W5 (Nat.lt_succ_self _) HQ5.out.2.2.2.1 HQ5.out.2.2.2.2 HQ5.out.1.m3 HQ5.out.1.m4
        rw [V.veq_self] at hv1
        refine hv1.mono ?_
        rintro e w6 ⟨rfl, hB6⟩
        clear c0 c1 c2 c3 y0 y1 y2 y3 hv1
        have hq6 := HQ5.out.1.on hB6
        have HQ6 := Lib.hid (And.intro hq6 (And.intro (HQ5.out.2.1.trans (hB6.mono HQ5.out.2.1.size)) (And.intro (HQ5.out.2.2.1.same (hB6.block _ HQ5.out.2.2.1.lt)) (And.intro (HQ5.out.2.2.2.1.below hB6) (HQ5.out.2.2.2.2.below hB6)))))
        have HP6 := Lib.hid (And.intro HP.out.1 (And.intro HP.out.2.1 (And.intro (HP.out.2.2.1.imp (Nat.le_refl _) hB6.size (fun b _ hb => hB6.block b hb)) (HP.out.2.2.2.imp (Nat.le_refl _) hB6.size (fun b _ hb => hB6.block b hb)))))
        obtain ⟨c0, c1, c2, c3⟩ := hq6.r5.box
        obtain ⟨y0, y1, y2, y3⟩ := hq6.r1.box
        clear hq6 HQ5 HP hB6
        go_wp2_with fail
        have hv2 := same_any (la.size + fa.size + 1) ka xa _ _ la fa ka xa _ _ la fa _ A w6 (Nat.lt_succ_self _) HQ6.out.1.m1 HQ6.out.1.m2 HQ6.out.1.a1 HQ6.out.1.a2
        rw [V.veq_self] at hv2
        refine hv2.mono ?_
        rintro e w7 ⟨rfl, hB7⟩
        clear c0 c1 c2 c3 y0 y1 y2 y3 hv2
        have hq7 := HQ6.out.1.on hB7
        have sp := SpSt.start (HQ6.out.2.1.trans (hB7.mono HQ6.out.2.1.size)) (HQ6.out.2.2.1.same (hB7.block _ HQ6.out.2.2.1.lt)) LT6.out (HQ6.out.2.2.2.1.below hB7) (HQ6.out.2.2.2.2.below hB7) rfl rfl
          (HP6.out.2.2.1.imp (Nat.le_refl _) hB7.size (fun b _ hb => hB7.block b hb)) (HP6.out.2.2.2.imp (Nat.le_refl _) hB7.size (fun b _ hb => hB7.block b hb)) HP6.out.1 HP6.out.2.1
        have SP := Lib.hid sp
        obtain ⟨y0, y1, y2, y3⟩ := sp.box.box
        clear sp hq7
        have PN := Lib.hid (show ∀ j, j < lg.len → ∃ b o, p4 = some ⟨b, o, none⟩ from fun j hj => by
          obtain ⟨b, o, c, e, _⟩ := HQ6.out.2.2.2.1.at hj
          cases e
          exact ⟨b, o, rfl⟩)
        have QN := Lib.hid (show ∀ j, j < fg.len → ∃ b o, q4 = some ⟨b, o, none⟩ from fun j hj => by
          obtain ⟨b, o, c, e, _⟩ := HQ6.out.2.2.2.2.at hj
          cases e
          exact ⟨b, o, rfl⟩)
        clear HQ6 HP6
        go_wp2_with fail
        obtain ⟨wo, rfl⟩ : ∃ wo : World, wo = wr := ⟨_, rfl⟩
        clear y0 y1 y2 y3
        go_loopw [11] (fun p W => ∃ j : Nat, p = .int .i64 j ∧ j ≤ lg.len ∧ Hid (SpSt wo s9 25 (.int .u8 kg) (.string xg) p4 lg.len c4 q4 fg.len d4 W)) (fun p _ => lg.len - (RowKit.intOf p).toNat)
        case atStart => exact ⟨0, rfl, Nat.zero_le _, SP⟩
        case round =>
          obtain ⟨j, rfl, hj, HJ⟩ := hrel
          obtain ⟨y0, y1, y2, y3⟩ := HJ.out.box.box
          by_cases hlt2 : j < lg.len
          · obtain ⟨b, o, rfl⟩ := PN.out j hlt2
            obtain ⟨l1, l2, l3, l4⟩ := HJ.out.list b o rfl
            have hjl : j * 4 + 4 ≤ lg.len * 4 := by omega
            obtain ⟨z0, x0⟩ := Option.isSome_iff_exists.1 (l3 (j * 4) (by omega))
            obtain ⟨z1, x1⟩ := Option.isSome_iff_exists.1 (l3 (j * 4 + 1) (by omega))
            obtain ⟨z2, x2⟩ := Option.isSome_iff_exists.1 (l3 (j * 4 + 2) (by omega))
            obtain ⟨z3, x3⟩ := Option.isSome_iff_exists.1 (l3 (j * 4 + 3) (by omega))
            rw [← Nat.add_assoc] at x1 x2 x3
            have g0 := l4 (o + j * 4)
            have g1 := l4 (o + j * 4 + 1)
            have g2 := l4 (o + j * 4 + 2)
            have g3 := l4 (o + j * 4 + 3)
            have HL := Lib.hid hlt2
            have NX := Lib.hid ((((HJ.out.set l1 l2 (o + j * 4) (.int .u8 0)).set l1 l2 (o + j * 4 + 1) (.string ⟨#[115, 112, 111, 105, 108, 116]⟩)).set l1 l2 (o + j * 4 + 2) (.slice none 0 0)).set l1 l2 (o + j * 4 + 3) (.slice none 0 0))
            clear l3 l4 l1 l2
            go_wp2_with fail
            go_roundw
            case rel => exact ⟨j + 1, by go_num, HL.out, NX⟩
            case measure => have := HL.out; simp [RowKit.intOf]; omega
          · obtain rfl : j = lg.len := by omega
            go_wp2_with fail
            obtain ⟨wp, rfl⟩ : ∃ wp : World, wp = wr := ⟨_, rfl⟩
            clear y0 y1 y2 y3
            go_loopw [12] (fun p W => ∃ j : Nat, p = .int .i64 j ∧ j ≤ fg.len ∧ Hid (SpSt wo s9 25 (.int .u8 kg) (.string xg) p4 lg.len c4 q4 fg.len d4 W)) (fun p _ => fg.len - (RowKit.intOf p).toNat)
            case atStart => exact ⟨0, rfl, Nat.zero_le _, HJ⟩
            case round =>
              obtain ⟨j2, rfl, hj2, HJ2⟩ := hrel
              obtain ⟨y0, y1, y2, y3⟩ := HJ2.out.box.box
              by_cases hlt3 : j2 < fg.len
              · obtain ⟨b, o, rfl⟩ := QN.out j2 hlt3
                obtain ⟨l1, l2, l3, l4⟩ := HJ2.out.fields b o rfl
                have hjl : j2 * 5 + 5 ≤ fg.len * 5 := by omega
                obtain ⟨z0, x0⟩ := Option.isSome_iff_exists.1 (l3 (j2 * 5) (by omega))
                have g0 := l4 (o + j2 * 5)
                have HL := Lib.hid hlt3
                have NX := Lib.hid (HJ2.out.set l1 l2 (o + j2 * 5) (.string ⟨#[115, 112, 111, 105, 108, 116]⟩))
                clear l3 l4 l1 l2
                go_wp2_with fail
                go_roundw
                case rel => exact ⟨j2 + 1, by go_num, HL.out, NX⟩
                case measure => have := HL.out; simp [RowKit.intOf]; omega
              · obtain rfl : j2 = fg.len := by omega
                have HL := Lib.hid hlt
                go_wp2_with fail
                go_roundw
                case rel => exact ⟨i + 1, by go_num, HL.out, Lib.hid (HQ0.out.on HJ2.out.below)⟩
                case measure => have := HL.out; simp [RowKit.intOf]; omega
      · obtain rfl : i = 2 := by omega
        have HB := Lib.hid HQ.out.below
        clear HQ
        go_wp2_with fail
        go_ret
        exact ⟨rfl, HB.out⟩
end Go.Proofs.Ythabbebjmkjmfaa
