/- Changes in two messages come to what they come to in one: the law's walk. Conditions: strings of at most 2^48 bytes; the library's tables. -/
import Derived.Test.YtjeopabnddekgaaDoorME49
namespace Go.Proofs.YtjeopabnddekgaaDoor
open Go Go.RowKit Go.Lib

theorem take_at {α : Type} {l : List α} {q j : Nat} {c : α} (h : (l.take q)[j]? = some c) : l[j]? = some c := by
  rw [List.getElem?_take] at h
  split at h
  · exact h
  · cases h
/-- what Do answers, in one -/
theorem DoR.ends {x : ByteArray} {l : List ChE} {w : World} {en : Ending} {w' : World} (h : (doE x l = 0 ∧ ∃ v t u, en = .returned (.tuple #[v, u, .int .i64 0]) ∧ RopeAt w' v t ∧ t.tx = (Ed.runD x l).y ∧ w'.ownsRow w.heap.size 63 3 u l.length (edCells (Ed.runD x l).es)) ∨ (¬ doE x l = 0 ∧ en = .returned (.tuple #[.pointer none, .slice none 0 0, .int .i64 (doE x l)]))) :
    ∃ vf uf nf cf, en = .returned (.tuple #[.pointer vf, .slice uf nf cf, .int .i64 (doE x l)]) ∧ (doE x l = 0 → nf = l.length ∧ ∃ t, RopeAt w' (.pointer vf) t ∧ t.tx = (Ed.runD x l).y) := by
  rcases h with ⟨h0, v, t, u, rfl, hR, hx, ho⟩ | ⟨h0, rfl⟩
  · obtain ⟨p, c, rfl⟩ := owned_slice ho
    obtain ⟨b, rv, rfl, hr⟩ := hR
    exact ⟨_, _, _, _, by rw [h0], fun _ => ⟨rfl, t, ⟨b, rv, rfl, hr⟩, hx⟩⟩
  · exact ⟨_, _, _, _, rfl, fun h => absurd h h0⟩
theorem runD_size {x : ByteArray} {l : List ChE} (hx : x.size ≤ 16384) (h : (Ed.runD x l).E = 0) : (Ed.runD x l).y.size ≤ 16384 := by
  have k := Ed.runD_out hx l l.length (Nat.le_refl _)
  rw [List.take_length] at k
  exact (k h).2.1
theorem doE_run {x : ByteArray} {l : List ChE} (hl : l.length ≤ 64) (h : doE x l = 0) : (Ed.runD x l).E = 0 := by
  unfold doE at h; rw [if_neg (by omega)] at h; exact h
theorem ch_drop {w : World} {z z' : Option Addr} {l : List ChE} {q j : Nat} {c : ChE} (hz' : z' = Option.map (fun x => x.add (q * 6)) z ∨ l.drop q = []) (hr : ∀ (j : Nat) (c : ChE), l[j]? = some c → ChAt w z j c) (hj : (l.drop q)[j]? = some c) : ChAt w z' j c := by
  rcases hz' with rfl | h
  · rw [List.getElem?_drop] at hj
    obtain ⟨b, o, rfl, hb, c0, c1, c2, c3, c4, c5⟩ := hr _ _ hj
    have ea : (⟨b, o, none⟩ : Addr).add (q * 6) = ⟨b, o + q * 6, none⟩ := by unfold Addr.add; by_cases h0 : q * 6 = 0 <;> simp [h0]
    have eo : o + q * 6 + j * 6 = o + (q + j) * 6 := by omega
    exact ⟨b, o + q * 6, by rw [Option.map_some, ea], hb, by rw [eo]; exact c0, by rw [eo]; exact c1, by rw [eo]; exact c2, by rw [eo]; exact c3, by rw [eo]; exact c4, by rw [eo]; exact c5⟩
  · rw [h] at hj; cases hj
theorem parted_is (s : ByteArray) (l : List ChE) (q : Nat) (hq : q ≤ l.length) (hl : l.length ≤ 64) : (¬ doE s (l.take q) = 0 → doE s l = doE s (l.take q)) ∧ (doE s (l.take q) = 0 → doE s l = doE (Ed.runD s (l.take q)).y (l.drop q) ∧ (Ed.runD s l).y = (Ed.runD (Ed.runD s (l.take q)).y (l.drop q)).y) := by
  have h := Ed.runD_two s (l.take q) (l.drop q)
  rw [List.take_append_drop] at h
  have e1 : doE s l = (Ed.runD s l).E := by unfold doE; rw [if_neg (by omega)]
  have e2 : doE s (l.take q) = (Ed.runD s (l.take q)).E := by unfold doE; rw [if_neg (by rw [List.length_take]; omega)]
  have e3 : doE (Ed.runD s (l.take q)).y (l.drop q) = (Ed.runD (Ed.runD s (l.take q)).y (l.drop q)).E := by unfold doE; rw [if_neg (by rw [List.length_drop]; omega)]
  rw [e1, e2, e3]
  exact ⟨fun h0 => by rw [h.1 h0], fun h0 => by rw [h.2 h0]; exact ⟨rfl, rfl⟩⟩
set_option maxHeartbeats 8000000 in
set_option maxRecDepth 100000 in
theorem editsParted_any (s : ByteArray) (v : Value) (l : List ChE) (at0 : Int) (w : World) (hs : s.size ≤ 281474976710656) (hl : ArgCh w v l) (ha : I64 at0) (hT : Tabs w) : Calls Tryd.prog 9 #[.string s, v, .int .i64 at0] w (BoolIs true w) := by
  obtain ⟨z, cap, rfl, hc1, hc2, hr, hq⟩ := hl
  have HGr := Lib.hid (great10_ch s z cap l w hs (by omega) hr hq)
  have HAw := Lib.hid (fun W (hB : Below w.heap.size w W) => awake10_any W (tabs_below hT hB))
  have HNw := Lib.hid (fun W (hB : Below w.heap.size w W) (h : s.size ≤ 70000) => new_any s W (by omega) (tabs_below hT hB))
  have HDo := Lib.hid (fun W (hB : Below w.heap.size w W) v t (h : RopeAt W v t) (hz : t.tx.size ≤ 16384) z' cap' (L : List ChE) (hr' : ∀ (j : Nat) (c : ChE), L[j]? = some c → ChAt w z' j c) (hc : ∀ c ∈ L, Ed.Ch6 c) => do_any v t z' cap' L W h hz (fun j c hj => (hr' j c hj).below hB) hc (tabs_below hT hB))
  have HQ := Lib.hid (And.intro hq (And.intro hr (And.intro hc1 hc2)))
  clear hc1 hc2 hr hq hs hT ha
  go_enter Tryd.func9, Tryd.ntmps9
  go_wp2_with fail
  refine HGr.out.mono ?_
  rintro en w1 ⟨ok, rfl, rfl, hfew⟩
  cases ok
  rotate_left
  · clear hfew
    go_wp2_with fail
    refine (HAw.out w1 (Below.refl w1.heap.size w1)).mono ?_
    rintro en wz ⟨rfl, hB⟩
    have HZ := Lib.hid (Below.trans (Below.refl w1.heap.size w1) (hB.mono (Below.size (Below.refl w1.heap.size w1))))
    clear hB
    go_wp2_with fail
    go_ret
    exact ⟨rfl, HZ.out⟩
  by_cases h64 : (l.length : Int) > 64
  · clear hfew
    go_wp2_with fail
    refine (HAw.out w1 (Below.refl w1.heap.size w1)).mono ?_
    rintro en wz ⟨rfl, hB⟩
    have HZ := Lib.hid (Below.trans (Below.refl w1.heap.size w1) (hB.mono (Below.size (Below.refl w1.heap.size w1))))
    clear hB
    go_wp2_with fail
    go_ret
    exact ⟨rfl, HZ.out⟩
  have HC6 := Lib.hid (few_ch6 HQ.out.1 (hfew rfl))
  have HN := Lib.hid (HNw.out w1 (Below.refl _ _) (hfew rfl).1)
  have HE1 := Lib.hid (fun h => newE_ok (s := s) h)
  have H64 := Lib.hid (show l.length ≤ 64 by omega)
  clear hfew HNw HGr
  go_wp2_with fail
  refine HN.out.mono ?_
  clear HN
  rintro en w2 ⟨v1, rfl, hB, hr⟩
  have H2 := Lib.hid hB
  generalize newE s = E at *
  clear hB
  rcases hr with ⟨hE, t, hR, htx⟩ | ⟨hE, rfl⟩
  rotate_left
  · go_wp2_with fail
    refine (HAw.out w2 H2.out).mono ?_
    rintro en wz ⟨rfl, hB⟩
    have HZ := Lib.hid (Below.trans H2.out (hB.mono (Below.size H2.out)))
    clear hB
    go_wp2_with fail
    go_ret
    exact ⟨rfl, HZ.out⟩
  subst hE
  have hsz : s.size ≤ 16384 := HE1.out rfl
  have HR := Lib.hid (And.intro hR (And.intro htx hsz))
  obtain ⟨b, rv, rfl, -⟩ := hR
  have hl63 : (l.length : Int) ≤ 64 := by have := H64.out; omega
  clear htx HE1 hsz
  go_upto_region 7 with fail
  obtain ⟨q, hq, hqe⟩ := at_is at0 l.length (by have := H64.out; omega)
  rw [hqe]
  have HQ2 := Lib.hid hq
  have HD1 := Lib.hid (HDo.out w2 H2.out _ t HR.out.1 (by rw [HR.out.2.1]; exact HR.out.2.2) z cap l HQ.out.2.1 HC6.out)
  rw [HR.out.2.1] at HD1
  go_wp2_with fail
  refine HD1.out.mono ?_
  clear HD1
  rintro en w3 ⟨hB3, hd⟩
  have H3 := Lib.hid (And.intro (H2.out.trans (hB3.mono H2.out.size)) hB3)
  obtain ⟨vf, uf, nf, cf, rfl, hf⟩ := DoR.ends hd
  have HFf := Lib.hid (fun h => hf h)
  have hpt := parted_is s l q HQ2.out (by have := H64.out; omega)
  have HP := Lib.hid hpt
  have HD2 := Lib.hid (fun W (hB : Below w2.heap.size w2 W) => (show Calls Tryd.prog 28 #[.pointer (some ⟨b, 0, none⟩), .slice z q cap] W (DoR s (l.take q) W) from by
    have k := HDo.out W (H2.out.trans (hB.mono H2.out.size)) _ t (HR.out.1.below hB) (by rw [HR.out.2.1]; exact HR.out.2.2) z cap (l.take q) (fun j c hj => HQ.out.2.1 j c (take_at hj)) (fun c hc => HC6.out c (List.mem_of_mem_take hc))
    rw [HR.out.2.1, List.length_take, Nat.min_eq_left HQ2.out] at k
    exact k))
  clear hd hB3 hf hpt
  have q1 : (0 : Int) ≤ (q : Int) := Int.natCast_nonneg q
  have q2 : (q : Int) ≤ (cap : Int) := by have := HQ.out.2.2.1; omega
  have q3 : (q : Int) ≤ (l.length : Int) := by omega
  obtain ⟨Ef, hEfd⟩ : ∃ Ef, doE s l = Ef := ⟨_, rfl⟩
  rw [hEfd] at HFf HP ⊢
  have HEf := Lib.hid hEfd
  clear hEfd
  go_wp2_with fail
  refine (HD2.out w3 H3.out.2).mono ?_
  clear HD2
  rintro en w4 ⟨hB4, hd⟩
  have H4 := Lib.hid (And.intro (H3.out.1.trans (hB4.mono H3.out.1.size)) hB4)
  obtain ⟨vg, ug, ng, cg, rfl, hg⟩ := DoR.ends hd
  have HFg := Lib.hid (fun h => hg h)
  obtain ⟨Eg, hEgd⟩ : ∃ Eg, doE s (l.take q) = Eg := ⟨_, rfl⟩
  rw [hEgd] at HFg HP ⊢
  have HEd := Lib.hid hEgd
  clear hd hB4 hg hqe hEgd
  by_cases hEg : Eg = 0
  rotate_left
  · obtain rfl := HP.out.1 hEg
    go_wp2_with fail
    refine (HAw.out w4 H4.out.1).mono ?_
    rintro en wz ⟨rfl, hB⟩
    have HZ := Lib.hid (Below.trans H4.out.1 (hB.mono (Below.size H4.out.1)))
    clear hB
    go_wp2_with fail
    go_ret
    exact ⟨rfl, HZ.out⟩
  subst hEg
  obtain ⟨hng, ta, hRa, hxa⟩ := HFg.out rfl
  rw [List.length_take, Nat.min_eq_left HQ2.out] at hng
  subst hng
  obtain ⟨hfe, hfy⟩ := HP.out.2 rfl
  obtain ⟨va, rfl⟩ : ∃ va, vg = some ⟨va, 0, none⟩ := by obtain ⟨b', rv', e, _⟩ := hRa; cases e; exact ⟨b', rfl⟩
  have hy1 : (Ed.runD s (l.take ng)).y.size ≤ 16384 := runD_size HR.out.2.2 (doE_run (by rw [List.length_take]; have := H64.out; omega) HEd.out)
  have HD3 := Lib.hid (fun z' cap' (hz' : z' = Option.map (fun x => x.add (ng * 6)) z ∨ l.drop ng = []) => (show Calls Tryd.prog 28 #[.pointer (some ⟨va, 0, none⟩), .slice z' (l.length - ng) cap'] w4 (DoR (Ed.runD s (l.take ng)).y (l.drop ng) w4) from by
    have k := HDo.out w4 H4.out.1 _ ta hRa (by rw [hxa]; exact hy1) z' cap' (l.drop ng) (fun j c hj => ch_drop hz' HQ.out.2.1 hj) (fun c hc => HC6.out c (List.mem_of_mem_drop hc))
    rw [hxa, List.length_drop] at k
    exact k))
  have HVf := Lib.hid (fun h => (HFf.out h))
  have HFE := Lib.hid (And.intro hfe hfy)
  clear hRa hxa hfe hfy hy1 HDo
  go_wp2_with fail
  all_goals
    first
      | (with_reducible refine (HD3.out _ _ (.inl rfl)).mono ?_)
      | (with_reducible refine (HD3.out _ _ (.inr (List.drop_of_length_le (by have := HQ.out.2.2.1; omega)))).mono ?_)
    rintro en w5 ⟨hB5, hd⟩
    have H5 := Lib.hid (And.intro (H4.out.1.trans (hB5.mono H4.out.1.size)) (And.intro (H4.out.2.trans (hB5.mono H4.out.2.size)) hB5))
    obtain ⟨vh, uh, nh, ch, rfl, hh⟩ := DoR.ends hd
    have HFh := Lib.hid (fun h => hh h)
    have hE := HFE.out.1
    have HY := Lib.hid HFE.out.2
    generalize doE (Ed.runD s (l.take ng)).y (l.drop ng) = Eh at *
    subst hE
    clear hd hh hB5 HD3 HFE HP
    by_cases hE0 : Ef = 0
    · have hf1 := HFf.out hE0
      have hh1 := HFh.out hE0
      subst hE0
      obtain ⟨rfl, tf, hRf, hxf⟩ := hf1
      obtain ⟨hnh, th, hRh, hxh⟩ := hh1
      rw [List.length_drop] at hnh
      subst hnh
      rw [HY.out] at hxf
      obtain ⟨fb, rfl⟩ : ∃ fb, vf = some ⟨fb, 0, none⟩ := by obtain ⟨b', rv', e, _⟩ := hRf; cases e; exact ⟨b', rfl⟩
      obtain ⟨hb, rfl⟩ : ∃ hb, vh = some ⟨hb, 0, none⟩ := by obtain ⟨b', rv', e, _⟩ := hRh; cases e; exact ⟨b', rfl⟩
      have hsm : (Ed.runD (Ed.runD s (l.take ng)).y (l.drop ng)).y.size ≤ 1000000000 := by
        rw [← HY.out]
        have := runD_size HR.out.2.2 (doE_run H64.out HEf.out)
        omega
      have HT := Lib.hid (fun W (hB : Below w5.heap.size w5 W) => (show Calls Tryd.prog 31 #[.pointer (some ⟨fb, 0, none⟩)] W (StrR (Ed.runD (Ed.runD s (l.take ng)).y (l.drop ng)).y W) ∧ Calls Tryd.prog 31 #[.pointer (some ⟨hb, 0, none⟩)] W (StrR (Ed.runD (Ed.runD s (l.take ng)).y (l.drop ng)).y W) from by
        refine ⟨?_, ?_⟩
        · rw [← hxf]; exact text_any _ tf W (hRf.below ((H4.out.2.trans (H5.out.2.2.mono H4.out.2.size)).trans (hB.mono (Nat.le_trans H4.out.2.size H5.out.2.2.size)))) (by rw [hxf]; exact hsm)
        · rw [← hxh]; exact text_any _ th W (hRh.below hB) (by rw [hxh]; exact hsm)))
      have nsum : (ng : Int) + ((l.length - ng : Nat) : Int) = (l.length : Int) := by omega
      have nle : ((l.length - ng : Nat) : Int) ≤ 64 := by have := H64.out; omega
      clear hRf hxf hRh hxh hsm
      go_wp2_with fail
      refine ((HT.out w5 (Below.refl _ _)).1).mono ?_
      rintro en w6 ⟨rfl, hB⟩
      have H6 := Lib.hid hB
      clear hB
      go_wp2_with fail
      refine ((HT.out w6 H6.out).2).mono ?_
      rintro en w7 ⟨rfl, hB⟩
      have H7 := Lib.hid (H5.out.1.trans ((H6.out.trans (hB.mono H6.out.size)).mono H5.out.1.size))
      clear hB
      go_wp2_with fail
      refine (HAw.out w7 H7.out).mono ?_
      rintro en wz ⟨rfl, hB⟩
      have HZ := Lib.hid (H7.out.trans (hB.mono H7.out.size))
      clear hB
      go_wp2_with fail
      go_ret
      exact ⟨rfl, HZ.out⟩
    · clear HFf HFg HFh
      go_wp2_with fail
      refine (HAw.out w5 H5.out.1).mono ?_
      rintro en wz ⟨rfl, hB⟩
      have HZ := Lib.hid (H5.out.1.trans (hB.mono H5.out.1.size))
      clear hB
      go_wp2_with fail
      go_ret
      exact ⟨rfl, HZ.out⟩
end Go.Proofs.YtjeopabnddekgaaDoor

namespace Go.Proofs.YtjeopabnddekgaaDoor
open Go Go.RowKit Go.Lib

set_option maxHeartbeats 4000000 in
set_option maxRecDepth 100000 in
theorem editsNil_any (c : ChE) (v : Value) (l : List ChE) (w : World) (hl : ArgCh w v l) (hT : Tabs w) : Calls Tryd.prog 7 #[.agg #[.bool c.r, .int .i64 c.a, .int .i64 c.b, .int .i64 c.c, .int .i64 c.d, .string c.s], v] w (BoolIs true w) := by
  obtain ⟨z, cap, rfl, -, -, -, -⟩ := hl
  have HAw := Lib.hid (fun W (hB : Below w.heap.size w W) => awake10_any W (tabs_below hT hB))
  have hb0 := (Below.refl w.heap.size w).alloc (Nat.le_refl _) (.cells #[.bool c.r, .int .i64 c.a, .int .i64 c.b, .int .i64 c.c, .int .i64 c.d, .string c.s] 69)
  have H0 := Lib.hid hb0
  have HOf := Lib.hid (fun W => of_nil c W)
  have HDo := Lib.hid (fun W => doNil_any z l.length cap W)
  clear hT hb0
  go_enter Tryd.func7, Tryd.ntmps7
  go_wp2_with fail
  refine (HOf.out _).mono ?_
  rintro e w1 ⟨rfl, hB⟩
  have hB1 := H0.out.trans (hB.mono (by rw [World.size_alloc]; omega))
  have hb := (Below.refl w1.heap.size w1).alloc (Nat.le_refl _) (.cells #[.int .i64 0, .int .i64 0, .string ⟨#[]⟩] 63)
  have hn : (w1.alloc (.cells #[.int .i64 0, .int .i64 0, .string ⟨#[]⟩] 63)).heap[w1.heap.size]? = _ := heap_alloc_new _ _
  have H1 := Lib.hid (And.intro (hB1.trans (hb.mono hB1.size)) hn)
  clear hB hB1 hb hn
  go_wp2_with fail
  refine (HDo.out _).mono ?_
  rintro e w2 ⟨rfl, hB⟩
  have k0 := (hB.block w1.heap.size (by rw [World.size_alloc]; omega)).trans H1.out.2
  have H2 := Lib.hid (And.intro (H1.out.1.trans (hB.mono H1.out.1.size)) k0)
  have x0 : w2.cell? ⟨w1.heap.size, 0, none⟩ = some (.int .i64 0) := by rw [Lib.cell_of_heap k0]; rfl
  have x1 : w2.cell? ⟨w1.heap.size, 1, none⟩ = some (.int .i64 0) := by rw [Lib.cell_of_heap k0]; rfl
  have x2 : w2.cell? ⟨w1.heap.size, 2, none⟩ = some (.string ⟨#[]⟩) := by rw [Lib.cell_of_heap k0]; rfl
  clear hB k0
  go_wp2_with fail
  refine (HAw.out _ H2.out.1).mono ?_
  rintro e w3 ⟨rfl, hB⟩
  have H3 := Lib.hid (H2.out.1.trans (hB.mono H2.out.1.size))
  clear hB x0 x1 x2
  go_wp2_with fail
  go_ret
  exact ⟨rfl, H3.out⟩
end Go.Proofs.YtjeopabnddekgaaDoor

namespace Go.Proofs.YtjeopabnddekgaaDoor
open Go Go.ChangeShapes Go.WideShapes Go.ChangeAt Go.RowKit Go.Joins

theorem str9_le {H : Type} {x : ByteArray} (h : OReach ((DataW.lit (H := H) (.string x.data.toList)).weights Tryd.prog 9)) : x.size ≤ 281474976710656 := by
  have := h x.data.toList.length (by unfold DataW.weights; exact List.mem_singleton_self _)
  rw [Array.length_toList] at this
  exact Nat.le_trans this (by decide)
end Go.Proofs.YtjeopabnddekgaaDoor
