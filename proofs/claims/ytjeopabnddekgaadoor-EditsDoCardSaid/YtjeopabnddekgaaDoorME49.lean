/- The chapter's rows hold: awake answers true; what is refused. Conditions: the library's tables. -/
import Derived.Test.YtjeopabnddekgaaDoorME46
import Derived.Test.YtjeopabnddekgaaDoorME47
import Derived.Test.YtjeopabnddekgaaDoorME55
namespace Go.Proofs.YtjeopabnddekgaaDoor
open Go Go.RowKit Go.Lib

set_option maxHeartbeats 4000000 in
set_option maxRecDepth 100000 in
theorem doNil_any (z : Option Addr) (n cap : Nat) (w : World) : Calls Tryd.prog 28 #[.pointer none, .slice z n cap] w (fun e w' => e = .returned (.tuple #[.pointer none, .slice none 0 0, .int .i64 1]) ∧ Below w.heap.size w w') := by
  have hn := three_newE w (.cells #[.pointer none] 24) (.cells #[.slice none 0 0] 55) (.cells #[.int .i64 1] 25)
  have hb := below_al (below_al (below_al (Below.refl w.heap.size w) (.cells #[.pointer none] 24)) (.cells #[.slice none 0 0] 55)) (.cells #[.int .i64 1] 25)
  have k0 := Boxed.cell (show Boxed (((w.alloc (.cells #[.pointer none] 24)).alloc (.cells #[.slice none 0 0] 55)).alloc (.cells #[.int .i64 1] 25)) w.heap.size 24 (.pointer none) from hn.1)
  have k1 := Boxed.cell (show Boxed (((w.alloc (.cells #[.pointer none] 24)).alloc (.cells #[.slice none 0 0] 55)).alloc (.cells #[.int .i64 1] 25)) (w.heap.size + 1) 55 (.slice none 0 0) from hn.2.1)
  have k2 := Boxed.cell (show Boxed (((w.alloc (.cells #[.pointer none] 24)).alloc (.cells #[.slice none 0 0] 55)).alloc (.cells #[.int .i64 1] 25)) (w.heap.size + 1 + 1) 25 (.int .i64 1) from hn.2.2)
  have HK := Lib.hid (And.intro k0 (And.intro k1 (And.intro k2 hb)))
  clear k0 k1 k2 hb hn
  go_enter Tryd.func28, Tryd.ntmps28
  go_wp2_with fail
  obtain ⟨k0, k1, k2, hb⟩ := HK.out
  refine bodyPost_ret (v := .tuple #[.pointer none, .slice none 0 0, .int .i64 1]) ?_ rfl ⟨rfl, hb⟩
  simp [results, Tryd.results28, go_sem, k0, k1, k2]
set_option maxHeartbeats 4000000 in
set_option maxRecDepth 100000 in
theorem doFull_any (b : Nat) (z : Option Addr) (n cap : Nat) (w : World) (hn64 : 64 < n) : Calls Tryd.prog 28 #[.pointer (some ⟨b, 0, none⟩), .slice z n cap] w (fun e w' => e = .returned (.tuple #[.pointer none, .slice none 0 0, .int .i64 4]) ∧ Below w.heap.size w w') := by
  have hn6 : (n : Int) > 64 := by omega
  have hn := three_newE w (.cells #[.pointer none] 24) (.cells #[.slice none 0 0] 55) (.cells #[.int .i64 4] 25)
  have hb := below_al (below_al (below_al (Below.refl w.heap.size w) (.cells #[.pointer none] 24)) (.cells #[.slice none 0 0] 55)) (.cells #[.int .i64 4] 25)
  have k0 := Boxed.cell (show Boxed (((w.alloc (.cells #[.pointer none] 24)).alloc (.cells #[.slice none 0 0] 55)).alloc (.cells #[.int .i64 4] 25)) w.heap.size 24 (.pointer none) from hn.1)
  have k1 := Boxed.cell (show Boxed (((w.alloc (.cells #[.pointer none] 24)).alloc (.cells #[.slice none 0 0] 55)).alloc (.cells #[.int .i64 4] 25)) (w.heap.size + 1) 55 (.slice none 0 0) from hn.2.1)
  have k2 := Boxed.cell (show Boxed (((w.alloc (.cells #[.pointer none] 24)).alloc (.cells #[.slice none 0 0] 55)).alloc (.cells #[.int .i64 4] 25)) (w.heap.size + 1 + 1) 25 (.int .i64 4) from hn.2.2)
  have HK := Lib.hid (And.intro k0 (And.intro k1 (And.intro k2 hb)))
  clear k0 k1 k2 hb hn hn64
  go_enter Tryd.func28, Tryd.ntmps28
  go_wp2_with fail
  obtain ⟨k0, k1, k2, hb⟩ := HK.out
  refine bodyPost_ret (v := .tuple #[.pointer none, .slice none 0 0, .int .i64 4]) ?_ rfl ⟨rfl, hb⟩
  simp [results, Tryd.results28, go_sem, k0, k1, k2]
/-- Do, of any changes -/
theorem do_any (v : Value) (t : R.T) (z : Option Addr) (cap : Nat) (L : List ChE) (w : World) (h : RopeAt w v t) (hs : t.tx.size ≤ 16384) (hz : ∀ (j : Nat) (c : ChE), L[j]? = some c → ChAt w z j c) (hc : ∀ c ∈ L, Ed.Ch6 c) (hT : Tabs w) :
    Calls Tryd.prog 28 #[v, .slice z L.length cap] w (DoR t.tx L w) := by
  by_cases hL : 64 < L.length
  · obtain ⟨b, rv, rfl, _⟩ := h
    refine (doFull_any b z L.length cap w hL).mono ?_
    rintro e w' ⟨rfl, hB⟩
    have h4 : doE t.tx L = 4 := by unfold doE; rw [if_pos hL]
    exact ⟨hB, .inr ⟨by rw [h4]; decide, by rw [h4]⟩⟩
  · exact doMany_any v t z cap L w h hs (by omega) hz hc hT
def awS10 : ByteArray := ⟨#[97, 98, 10, 99, 100]⟩
theorem aw10_new : newE awS10 = 0 := by decide +kernel
def awC10 : ChE := ⟨true, 0, 1, 1, 1, ⟨#[120]⟩⟩
theorem aw10_of : Ed.ofX awS10 awC10 = (⟨1, 4, ⟨#[120]⟩⟩, 0) := by
  have h1 : Ed.offX awS10 0 1 = 1 := by decide +kernel
  have h2 : Ed.offX awS10 1 1 = 4 := by decide +kernel
  unfold Ed.ofX Ed.ofF Ed.ofK awC10
  dsimp only
  rw [if_pos rfl, if_pos rfl, h1, h2]
  rfl
def awL10 : List EdE := [⟨1, 1, ⟨#[120, 120]⟩⟩, ⟨3, 4, ⟨#[]⟩⟩]
theorem aw10_err : Ed.err awL10 = 0 := by decide +kernel
theorem aw10_ans : (Ed.ans awL10).a = 1 ∧ (Ed.ans awL10).b = 2 ∧ (Ed.ans awL10).c = 3 := by decide +kernel
set_option maxHeartbeats 4000000 in
set_option maxRecDepth 100000 in
theorem awake10_any (w : World) (hT : Tabs w) : Calls Tryd.prog 34 #[] w (BoolIs true w) := by
  have HN := Lib.hid (show Calls Tryd.prog 11 #[.string ⟨#[97, 98, 10, 99, 100]⟩] w (NewR 0 awS10 w) from by
    have k := new_any awS10 w (by decide) hT
    rw [aw10_new] at k; exact k)
  have HO := Lib.hid (fun (t : R.T) (hx : t.tx = awS10) (v : Value) (W : World) (h : RopeAt W v t) => (show Calls Tryd.prog 32 #[v, .agg #[.bool true, .int .i64 0, .int .i64 1, .int .i64 1, .int .i64 1, .string ⟨#[120]⟩]] W (fun e w' => e = .returned (.tuple #[.agg #[.int .i64 1, .int .i64 4, .string ⟨#[120]⟩], .int .i64 0]) ∧ Below W.heap.size W w') from by
    have k := of_any awC10 v t W h (by rw [hx]; decide) ⟨⟨by decide, by decide⟩, ⟨by decide, by decide⟩, ⟨by decide, by decide⟩, ⟨by decide, by decide⟩, by decide⟩
    rw [hx, aw10_of] at k
    exact k))
  have HA := Lib.hid (fun (v : Value) (W : World) (h : RdEd W v awL10) => (show Calls Tryd.prog 35 #[v] W (fun e w' => e = .returned (.tuple #[.agg #[.int .i64 1, .int .i64 2], .agg #[.int .i64 1, .int .i64 3], .int .i64 0]) ∧ Below W.heap.size W w') from by
    have k := around_any v awL10 W h (by
      intro e he
      unfold awL10 at he
      simp only [List.mem_cons, List.not_mem_nil, or_false] at he
      rcases he with rfl | rfl <;> exact ⟨⟨by decide, by decide⟩, ⟨by decide, by decide⟩, by decide⟩)
    unfold ArdIs at k
    rw [aw10_ans.1, aw10_ans.2.1, aw10_ans.2.2, aw10_err] at k
    exact k))
  clear hT
  go_enter Tryd.func34, Tryd.ntmps34
  go_wp2_with fail
  refine HN.out.mono ?_
  rintro e w1 ⟨v, rfl, hB, hr⟩
  have H1 := Lib.hid hB
  clear hB HN
  rcases hr with ⟨_, t, hr, hx⟩ | ⟨hno, _⟩
  rotate_left
  · exact absurd rfl hno
  have HO1 := Lib.hid (HO.out t hx v w1 hr)
  obtain ⟨b, rv, rfl, -⟩ := hr
  clear hx
  go_wp2_with fail
  refine HO1.out.mono ?_
  rintro e w2 ⟨rfl, hB⟩
  have H2 := Lib.hid (H1.out.trans (hB.mono H1.out.size))
  clear hB
  have hn := two_newE w2 (.cells #[.int .i64 1, .int .i64 4, .string ⟨#[120]⟩] 63) (.cells #[.int .i64 1, .int .i64 1, .string ⟨#[120, 120]⟩, .int .i64 3, .int .i64 4, .string ⟨#[]⟩] 63)
  have hb := below_al (below_al (Below.refl w2.heap.size w2) (.cells #[.int .i64 1, .int .i64 4, .string ⟨#[120]⟩] 63)) (.cells #[.int .i64 1, .int .i64 1, .string ⟨#[120, 120]⟩, .int .i64 3, .int .i64 4, .string ⟨#[]⟩] 63)
  have hrd : RdEd ((w2.alloc (.cells #[.int .i64 1, .int .i64 4, .string ⟨#[120]⟩] 63)).alloc (.cells #[.int .i64 1, .int .i64 1, .string ⟨#[120, 120]⟩, .int .i64 3, .int .i64 4, .string ⟨#[]⟩] 63)) (.slice (some ⟨w2.heap.size + 1, 0, none⟩) 2 2) awL10 := by
    refine ⟨_, _, rfl, by decide, fun j e hj => ⟨w2.heap.size + 1, 0, rfl, by rw [hn.2.2]; omega, ?_⟩⟩
    have hc : ∀ k, ((w2.alloc (.cells #[.int .i64 1, .int .i64 4, .string ⟨#[120]⟩] 63)).alloc (.cells #[.int .i64 1, .int .i64 1, .string ⟨#[120, 120]⟩, .int .i64 3, .int .i64 4, .string ⟨#[]⟩] 63)).cell? ⟨w2.heap.size + 1, k, none⟩ = (#[.int .i64 1, .int .i64 1, .string ⟨#[120, 120]⟩, .int .i64 3, .int .i64 4, .string ⟨#[]⟩] : Array Value)[k]? := fun k => by rw [cell_of_row _ _ k _ _ (0, 0) hn.2.1]
    unfold awL10 at hj
    match j, hj with
    | 0, hj => cases hj; exact ⟨hc 0, hc 1, hc 2⟩
    | 1, hj => cases hj; exact ⟨hc 3, hc 4, hc 5⟩
    | j + 2, hj => simp at hj
  have HA2 := Lib.hid (HA.out _ _ hrd)
  have H3 := Lib.hid (And.intro (H2.out.trans (hb.mono H2.out.size)) (And.intro hn.1 hn.2.2))
  clear hn hb hrd
  go_wp2_with fail
  refine HA2.out.mono ?_
  rintro e w4 ⟨rfl, hB⟩
  have k0 := (hB.block w2.heap.size (by have := H3.out.2.2; omega)).trans H3.out.2.1
  have hn := two_newE w4 (.cells #[.int .i64 1, .int .i64 2] 74) (.cells #[.int .i64 1, .int .i64 3] 74)
  have hb := below_al (below_al (Below.refl w4.heap.size w4) (.cells #[.int .i64 1, .int .i64 2] 74)) (.cells #[.int .i64 1, .int .i64 3] 74)
  have k1 := (hb.block w2.heap.size (Array.getElem?_eq_some_iff.1 k0).1).trans k0
  have H5 := Lib.hid (And.intro (H3.out.1.trans ((hB.trans (hb.mono hB.size)).mono H3.out.1.size)) (And.intro k1 hn))
  clear k0 k1 hn hb hB
  go_upto_region 4 with fail
  generalize (w4.alloc (.cells #[.int .i64 1, .int .i64 2] 74)).alloc (.cells #[.int .i64 1, .int .i64 3] 74) = W5 at *
  have x0 : W5.cell? ⟨w2.heap.size, 0, none⟩ = some (.int .i64 1) := by rw [Lib.cell_of_heap H5.out.2.1]; rfl
  have x1 : W5.cell? ⟨w2.heap.size, 1, none⟩ = some (.int .i64 4) := by rw [Lib.cell_of_heap H5.out.2.1]; rfl
  have x2 : W5.cell? ⟨w2.heap.size, 2, none⟩ = some (.string ⟨#[120]⟩) := by rw [Lib.cell_of_heap H5.out.2.1]; rfl
  have y0 : W5.cell? ⟨w4.heap.size, 0, none⟩ = some (.int .i64 1) := by rw [Lib.cell_of_heap H5.out.2.2.1]; rfl
  have y1 : W5.cell? ⟨w4.heap.size, 1, none⟩ = some (.int .i64 2) := by rw [Lib.cell_of_heap H5.out.2.2.1]; rfl
  have z0 : W5.cell? ⟨w4.heap.size + 1, 0, none⟩ = some (.int .i64 1) := by rw [Lib.cell_of_heap H5.out.2.2.2.1]; rfl
  have z1 : W5.cell? ⟨w4.heap.size + 1, 1, none⟩ = some (.int .i64 3) := by rw [Lib.cell_of_heap H5.out.2.2.2.1]; rfl
  go_wp2_with fail
  go_ret
  exact ⟨rfl, H5.out.1⟩
end Go.Proofs.YtjeopabnddekgaaDoor

namespace Go.Proofs.YtjeopabnddekgaaDoor
open Go Go.RowKit Go.Lib

theorem newE_ok' {s : ByteArray} (h : newE s = 0) : s.size ≤ 16384 := newE_ok h
/-- changes that may be gone through -/
theorem few_ch6 {x : ByteArray} {l : List ChE} (hq : ∀ c ∈ l, ChOk c) (h : Few10 x l.length (fun j => ((l[j]?).getD ⟨false, 0, 0, 0, 0, ByteArray.empty⟩).s)) : ∀ c ∈ l, Ed.Ch6 c := fun c hm => by
  obtain ⟨j, hj, e1⟩ := List.getElem_of_mem hm
  have := h.2.2 j hj
  dsimp only at this
  rw [List.getElem?_eq_getElem hj, Option.getD_some, e1] at this
  obtain ⟨h1, h2, h3, h4, _⟩ := hq c hm
  exact ⟨h1, h2, h3, h4, this⟩
theorem great10_ch (s : ByteArray) (z : Option Addr) (cap : Nat) (l : List ChE) (W : World) (hs : s.size ≤ 281474976710656) (hl : l.length ≤ 1000000000000000) (hr : ∀ (j : Nat) (c : ChE), l[j]? = some c → ChAt W z j c) (hq : ∀ c ∈ l, ChOk c) :
    Calls Tryd.prog 27 #[.string s, .slice z l.length cap] W (GrIs10 s l.length (fun j => ((l[j]?).getD ⟨false, 0, 0, 0, 0, ByteArray.empty⟩).s) W) :=
  great10_any s z l.length cap _ W hs hl (fun i hi => by
    obtain ⟨c, hj⟩ : ∃ c, l[i]? = some c := ⟨_, List.getElem?_eq_getElem hi⟩
    obtain ⟨b, o, hz, _, _, _, _, _, _, c5⟩ := hr i c hj
    refine ⟨b, o, hz, ?_, ?_⟩
    · rw [hj]; exact c5
    · rw [hj]; exact (hq c (List.mem_of_getElem? hj)).2.2.2.2)
end Go.Proofs.YtjeopabnddekgaaDoor

namespace Go.Proofs.YtjeopabnddekgaaDoor
open Go Go.RowKit Go.Lib

theorem owned_rd {w : World} {base : Nat} {u : Value} {l : List EdE} {n : Nat} (h : w.ownsRow base 63 3 u n (edCells l)) (hn : l.length = n) (hl : l.length ≤ 10000000000000) : RdEd w u l := by
  subst hn
  rcases h.2 with ⟨e, h0⟩ | ⟨g, cap, cur, e, hbg, hg, h1, h2, h3, h4⟩
  · have : l = [] := List.length_eq_zero_iff.1 h0
    subst this
    exact ⟨none, 0, e, by simp, fun j e hj => by simp at hj⟩
  · subst e
    refine ⟨_, cap, rfl, hl, fun j e hj => ⟨g, 0, rfl, (Array.getElem?_eq_some_iff.1 hg).1, ?_⟩⟩
    have hj' := (List.getElem?_eq_some_iff.1 hj).1
    have hc : ∀ k, k < 3 → w.cell? ⟨g, 0 + j * 3 + k, none⟩ = ([.int .i64 e.f, .int .i64 e.k, .string e.s] : List Value)[k]? := fun k hk => by
      rw [Nat.zero_add, World.ownsRow.cellAt h (j * 3 + k) (by omega)]
      exact edCells_at l j k e hj hk
    exact ⟨hc 0 (by decide), hc 1 (by decide), hc 2 (by decide)⟩
theorem owned_slice {w : World} {base : Nat} {e : TypeId} {size n : Nat} {u : Value} {xs : List Value} (h : w.ownsRow base e size u n xs) : ∃ p c, u = .slice p n c := by
  rcases h.2 with ⟨e, h0⟩ | ⟨g, cap, cur, e, _⟩
  · exact ⟨none, 0, by rw [e, h0]⟩
  · exact ⟨_, _, e⟩
theorem str_same {a b : ByteArray} (h : Ed.bl a = Ed.bl b) : (a.toList == b.toList) = true := by
  rw [Ed.ba_ext h]; simp
set_option maxHeartbeats 8000000 in
set_option maxRecDepth 100000 in
theorem editsOutside_any (s : ByteArray) (v : Value) (l : List ChE) (w : World) (hs : s.size ≤ 281474976710656) (hl : ArgCh w v l) (hT : Tabs w) : Calls Tryd.prog 8 #[.string s, v] w (BoolIs true w) := by
  obtain ⟨z, cap, rfl, hc1, hc2, hr, hq⟩ := hl
  have HGr := Lib.hid (great10_ch s z cap l w hs (by omega) hr hq)
  have HAw := Lib.hid (fun W (hB : Below w.heap.size w W) => awake10_any W (tabs_below hT hB))
  have HNw := Lib.hid (fun W (hB : Below w.heap.size w W) (h : s.size ≤ 70000) => new_any s W (by omega) (tabs_below hT hB))
  have HDo := Lib.hid (fun W (hB : Below w.heap.size w W) v t (h : RopeAt W v t) (hz : t.tx.size ≤ 16384) (hc : ∀ c ∈ l, Ed.Ch6 c) => do_any v t z cap l W h hz (fun j c hj => (hr j c hj).below hB) hc (tabs_below hT hB))
  have HQ := Lib.hid hq
  clear hc1 hc2 hr hq hs hT
  go_enter Tryd.func8, Tryd.ntmps8
  go_wp2_with fail
  refine HGr.out.mono ?_
  rintro en w1 ⟨ok, rfl, rfl, hfew⟩
  cases ok
  rotate_left
  · clear hfew
    go_wp2_with fail
    refine (HAw.out w1 (Below.refl _ _)).mono ?_
    rintro en w2 ⟨rfl, hB⟩
    have H2 := Lib.hid hB
    clear hB
    go_wp2_with fail
    go_ret
    exact ⟨rfl, H2.out⟩
  have HC6 := Lib.hid (few_ch6 HQ.out (hfew rfl))
  have HN := Lib.hid (HNw.out w1 (Below.refl _ _) (hfew rfl).1)
  have HE1 := Lib.hid (fun h => newE_ok (s := s) h)
  clear hfew HNw HGr
  go_wp2_with fail
  refine HN.out.mono ?_
  clear HN
  rintro en w2 ⟨v1, rfl, hB, hr⟩
  have H2 := Lib.hid hB
  generalize newE s = E at *
  clear hB
  rcases hr with ⟨hE, t, hR, htx⟩ | ⟨hE, rfl⟩
  rotate_left
  · go_wp2_with fail
    refine (HAw.out w2 H2.out).mono ?_
    rintro en w3 ⟨rfl, hB⟩
    have H3 := Lib.hid (H2.out.trans (hB.mono H2.out.size))
    clear hB
    go_wp2_with fail
    go_ret
    exact ⟨rfl, H3.out⟩
  subst hE
  have hsz : s.size ≤ 16384 := HE1.out rfl
  have HD := Lib.hid (HDo.out w2 H2.out v1 t hR (by rw [htx]; exact hsz) HC6.out)
  rw [htx] at HD
  have hout := fun h => Ed.runD_out hsz l l.length (Nat.le_refl _) h
  rw [List.take_length] at hout
  have hlen := fun h => Ed.runD_len s l l.length (Nat.le_refl _) h
  rw [List.take_length] at hlen
  have HO := Lib.hid (And.intro hout hlen)
  have HSz := Lib.hid hsz
  obtain ⟨b, rv, rfl, -⟩ := hR
  clear htx hout hlen HE1 HDo hsz
  go_wp2_with fail
  refine HD.out.mono ?_
  clear HD
  rintro en w3 ⟨hB, hd⟩
  have H3 := Lib.hid (H2.out.trans (hB.mono H2.out.size))
  rcases hd with ⟨hE, v2, t2, u, rfl, hR2, htx2, hown⟩ | ⟨hE, rfl⟩
  rotate_left
  · generalize doE s l = E2 at *
    clear hB
    go_wp2_with fail
    refine (HAw.out w3 H3.out).mono ?_
    rintro en w4 ⟨rfl, hB⟩
    have H4 := Lib.hid (H3.out.trans (hB.mono H3.out.size))
    clear hB
    go_wp2_with fail
    go_ret
    exact ⟨rfl, H4.out⟩
  have hl64 : l.length ≤ 64 := by
    unfold doE at hE
    by_cases h : 64 < l.length
    · rw [if_pos h] at hE; cases hE
    · omega
  have hrE : (Ed.runD s l).E = 0 := by unfold doE at hE; rw [if_neg (by omega)] at hE; exact hE
  obtain ⟨ho1, ho2, ho3⟩ := HO.out.1 hrE
  have hln := HO.out.2 hrE
  have hrd := owned_rd hown hln (by omega)
  have herr : Ed.err (Ed.runD s l).es = 0 := by
    rw [Ed.err_all (fun j e hj => (ho3 e (List.mem_of_getElem? hj)).2), if_neg (by omega)]
  have hans : Ed.ans (Ed.runD s l).es = Ed.run (Ed.runD s l).es := by unfold Ed.ans; rw [if_pos herr]
  have hAr := around_any u (Ed.runD s l).es w3 hrd (fun e he => (ho3 e he).1)
  unfold ArdIs at hAr
  rw [hans, herr] at hAr
  have hTx := fun W (hB : Below w3.heap.size w3 W) => text_any v2 t2 W (hR2.below hB) (by rw [htx2]; omega)
  rw [htx2] at hTx
  obtain ⟨p9, c9, rfl⟩ := owned_slice hown
  obtain ⟨vb, rfl⟩ : ∃ vb, v2 = .pointer (some ⟨vb, 0, none⟩) := by obtain ⟨b', rv', e, _⟩ := hR2; exact ⟨b', e⟩
  generalize (Ed.runD s l).y = y at *
  generalize Ed.run (Ed.runD s l).es = p at *
  obtain ⟨pa, pb, pc⟩ := p
  obtain ⟨g1, g2, g3, g4, g5, g6, g7, g8⟩ := ho1
  dsimp only at g1 g2 g3 g4 g5 g6 g7 g8 hAr
  obtain ⟨a, rfl⟩ : ∃ n : Nat, pa = (n : Int) := ⟨pa.toNat, by omega⟩
  obtain ⟨bb, rfl⟩ : ∃ n : Nat, pb = (n : Int) := ⟨pb.toNat, by omega⟩
  obtain ⟨cc, rfl⟩ : ∃ n : Nat, pc = (n : Int) := ⟨pc.toNat, by omega⟩
  rw [show (a : Int).toNat = a by omega] at g7
  rw [show (bb : Int).toNat = bb by omega, show (cc : Int).toNat = cc by omega] at g8
  have q1 : ((s.extract 0 a).toList == (y.extract 0 a).toList) = true := str_same (by rw [Ed.bl_ext, Ed.bl_ext, List.drop_zero, List.drop_zero, Nat.sub_zero]; exact g7)
  have q2 : ((s.extract bb s.size).toList == (y.extract cc y.size).toList) = true := str_same (by
    rw [Ed.bl_ext, Ed.bl_ext, List.take_of_length_le (by rw [List.length_drop, Ed.bl_len]; omega), List.take_of_length_le (by rw [List.length_drop, Ed.bl_len]; omega)]; exact g8)
  have HAr := Lib.hid hAr
  have HTx := Lib.hid hTx
  have HQ12 := Lib.hid (And.intro q1 (And.intro q2 (And.intro g1 (And.intro g2 (And.intro g3 (And.intro g4 g5))))))
  have HS64 := Lib.hid (And.intro HSz.out ho2)
  clear hB hE hR2 htx2 hown hrE ho2 ho3 hln hrd herr hans hAr hTx g1 g2 g3 g4 g5 g6 g7 g8 q1 q2
  go_wp2_with fail
  refine HAr.out.mono ?_
  rintro en w4 ⟨rfl, hB4⟩
  have hn := two_newE w4 (.cells #[.int .i64 (a : Int), .int .i64 (bb : Int)] 74) (.cells #[.int .i64 (a : Int), .int .i64 (cc : Int)] 74)
  have hb := below_al (below_al (Below.refl w4.heap.size w4) (.cells #[.int .i64 (a : Int), .int .i64 (bb : Int)] 74)) (.cells #[.int .i64 (a : Int), .int .i64 (cc : Int)] 74)
  have H5 := Lib.hid (And.intro (hB4.trans (hb.mono hB4.size)) hn)
  clear hn hb hB4
  go_upto_region 10 with fail
  generalize (w4.alloc (.cells #[.int .i64 (a : Int), .int .i64 (bb : Int)] 74)).alloc (.cells #[.int .i64 (a : Int), .int .i64 (cc : Int)] 74) = W5 at *
  go_wp2_with fail
  refine (HTx.out W5 H5.out.1).mono ?_
  rintro en w6 ⟨rfl, hB⟩
  have KEEP := Lib.hid (fun w' (hB' : Below w6.heap.size w6 w') => (show (w'.cell? ⟨w4.heap.size, 0, none⟩ = some (.int .i64 (a : Int)) ∧ w'.cell? ⟨w4.heap.size, 1, none⟩ = some (.int .i64 (bb : Int))) ∧ w'.cell? ⟨w4.heap.size + 1, 0, none⟩ = some (.int .i64 (a : Int)) ∧ w'.cell? ⟨w4.heap.size + 1, 1, none⟩ = some (.int .i64 (cc : Int)) from by
    have hB2 := hB.trans (hB'.mono hB.size)
    have e0 : EdRow w' w4.heap.size a bb := EdRow.below H5.out.2.1 hB2
    have e1 : EdRow w' (w4.heap.size + 1) a cc := EdRow.below H5.out.2.2.1 hB2
    exact ⟨⟨e0.cell0, e0.cell1⟩, e1.cell0, e1.cell1⟩))
  have H6 := Lib.hid (H3.out.trans ((H5.out.1.trans (hB.mono H5.out.1.size)).mono H3.out.size))
  obtain ⟨⟨z0, z1⟩, z2, z3⟩ := KEEP.out w6 (Below.refl _ _)
  have hq := HQ12.out
  obtain ⟨q1, q2, g1, g2, g3, g4, g5⟩ := hq
  have m1 : ¬ (bb : Int) < (a : Int) := by omega
  have m2 : ¬ (cc : Int) < (a : Int) := by omega
  have m3 : ¬ (bb : Int) > (s.size : Int) := by omega
  have m4 : ¬ (cc : Int) > (y.size : Int) := by omega
  have m5 : ¬ (a : Int) < 0 := by omega
  clear hB
  go_upto_region 13 with fail
  have n1 : (a : Int) ≤ (s.size : Int) := by omega
  have n2 : (a : Int) ≤ (y.size : Int) := by omega
  go_region_held3 (fun w' => (w'.cell? ⟨w4.heap.size, 0, none⟩ = some (.int .i64 (a : Int)) ∧ w'.cell? ⟨w4.heap.size, 1, none⟩ = some (.int .i64 (bb : Int))) ∧ w'.cell? ⟨w4.heap.size + 1, 0, none⟩ = some (.int .i64 (a : Int)) ∧ w'.cell? ⟨w4.heap.size + 1, 1, none⟩ = some (.int .i64 (cc : Int)))
    (first | exact KEEP.out _ hC1 | exact KEEP.out _ (Below.refl _ _).drew | exact KEEP.out _ (Below.refl _ _))
    (first | (go_at_call 34; (with_reducible refine (HAw.out _ H6.out.drew).mono ?_); rintro en wk1 ⟨rfl, hB⟩; have hC1 := (Below.refl w6.heap.size w6).drew.trans hB; clear hB))
  rename_i hHeld
  have H7 := Lib.hid (H6.out.trans (hC1.mono H6.out.size))
  clear hHeld KEEP hC1
  go_wp2_with fail
  go_ret
  exact ⟨rfl, H7.out⟩
end Go.Proofs.YtjeopabnddekgaaDoor
