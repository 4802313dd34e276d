/- A fold's value. Conditions: the library's tables. -/
import Derived.Test.YtbkciiogkgndiaaGreatDoorMB12
import Derived.RangeFuncNested
import Derived.Test.YtbkciiogkgndiaaGreatDoorMB04
namespace Go.Proofs.YtbkciiogkgndiaaGreatDoor
open Go Go.RowKit Go.Lib

def foldT (a b : Int) (cm : Bool) : V.T := .cons ⟨#[115, 116, 97, 114, 116, 76, 105, 110, 101]⟩ 3 ⟨(Lib.itoa a).toArray⟩ .nil .nil (.cons ⟨#[101, 110, 100, 76, 105, 110, 101]⟩ 3 ⟨(Lib.itoa b).toArray⟩ .nil .nil (if cm then .cons ⟨#[107, 105, 110, 100]⟩ 4 ⟨#[99, 111, 109, 109, 101, 110, 116]⟩ .nil .nil .nil else .nil))
theorem fix_com : U.fixS ⟨#[99, 111, 109, 109, 101, 110, 116]⟩ = ⟨#[99, 111, 109, 109, 101, 110, 116]⟩ := U.fixS_valid _ (by decide +kernel)
theorem infoAny : (Tryz.prog.info? 20).map (fun i => (i.zero, i.size, i.bytes)) = some (some .nilIface, 1, 16) := by kernel_rfl
/-- an object of parts that lie in the call's own row -/
theorem obj_own {N m c g : Nat} {w : World} {base : Nat} {t : TypeId} (ps : List Pt) (hN : N ≤ w.heap.size) (hm : ps.length ≤ 100) (hl : ps.length = m) (ho : w.ownsRow base t 1 (.slice (some ⟨g, 0, none⟩) (2 * m) c) (2 * m) (ifs ps)) (hm0 : 0 < m) (hok : ∀ p ∈ ps, p.Ok w (Fre N w)) (hP : PowTab w) :
    Calls Tryz.prog 107 #[.slice (some ⟨g, 0, none⟩) (2 * m) c] w (RetV N 6 ⟨#[]⟩ .nil (treeOf (fes ps)) w) := by
  subst hl
  have hc : 2 * ps.length ≤ c ∧ c ≤ 9223372036854775807 ∧ g < w.heap.size := by
    rcases ho.2 with ⟨h, _⟩ | ⟨g', c', cur, h, _, h2, h3, h4, _⟩
    · cases h
    · cases h; exact ⟨h3, h4, (Array.getElem?_eq_some_iff.1 h2).1⟩
  refine (objectR_any g (2 * ps.length) c ps (fun k => Fre N w k ∧ k < w.heap.size) w rfl ⟨hc.1, hc.2.1⟩ hm hc.2.2 (fun j u hu => ?_) (fun p hp => (hok p hp).imp (fun b hb hlt => ⟨hb, hlt⟩) (fun _ _ _ => rfl)) (fun k hk => hk.2) hP).mono ?_
  · have hj := (List.getElem?_eq_some_iff.1 hu).1
    rw [ifs_len] at hj
    rw [ho.cellAt j (by omega)]
    exact hu
  · rintro e w' ⟨u, he, hu, hB⟩
    refine ⟨_, he, VF.mk (HS.nil _ _ _) (hu.mono fun b hb _ => ?_), hB⟩
    rcases hb with ⟨h, hlt⟩ | h
    · exact h.imp h.1 (hB.block b hlt)
    · exact ⟨Nat.le_trans hN h.1, h.2⟩
set_option maxHeartbeats 2000000 in
set_option maxRecDepth 100000 in
theorem fold_any (a b : Int) (cm : Bool) (N : Nat) (w : World) (ha : I64 a) (hb : I64 b) (hN : N ≤ w.heap.size) (hP : PowTab w) (hT : Tabs w) : Calls Tryz.prog 113 #[.agg #[.int .i64 a, .int .i64 b, .bool cm]] w (RetV N 6 ⟨#[]⟩ .nil (foldT a b cm) w) := by
  obtain ⟨i0, hi0, hz0, hz1, hz2⟩ := info_parts infoAny
  have HPo := Lib.hid (fun W (h : Below w.heap.size w W) => pow_below hP h)
  have HX := Lib.hid (fun W (h : Below w.heap.size w W) => text4_any ⟨#[99, 111, 109, 109, 101, 110, 116]⟩ W (by decide) (by rw [fix_com]; decide) (tabs_below hT h))
  rw [fix_com] at HX
  have H0 := Lib.hid (mkG0 w 94 #[.int .i64 a, .int .i64 b, .bool cm])
  have HA := Lib.hid (And.intro ha hb)
  clear hP hT ha hb
  go_enter Tryz.func113, Tryz.ntmps113
  go_upto_region 1 with fail
  generalize (w.alloc (.cells #[.int .i64 a, .int .i64 b, .bool cm] 94)).alloc (.cells #[.int .u8 0, .string ⟨#[]⟩, .slice none 0 0, .slice none 0 0] 25) = W0 at *
  have c0 := H0.out.c 0 _ rfl
  have c1 := H0.out.c 1 _ rfl
  have hB1 := (Below.refl W0.heap.size W0).alloc (Nat.le_refl _) (.cells #[.iface 9 (.string ⟨#[115, 116, 97, 114, 116, 76, 105, 110, 101]⟩), .iface 3 (.int .i64 a), .iface 9 (.string ⟨#[101, 110, 100, 76, 105, 110, 101]⟩), .iface 3 (.int .i64 b)] 20)
  have hps := psf_new (cs := #[.iface 9 (.string ⟨#[115, 116, 97, 114, 116, 76, 105, 110, 101]⟩), .iface 3 (.int .i64 a), .iface 9 (.string ⟨#[101, 110, 100, 76, 105, 110, 101]⟩), .iface 3 (.int .i64 b)]) (N := w.heap.size + 2) (W := W0) (t := 20) (T := foldT a b false) (m := 2) [nPt ⟨#[115, 116, 97, 114, 116, 76, 105, 110, 101]⟩ a, nPt ⟨#[101, 110, 100, 76, 105, 110, 101]⟩ b] rfl rfl rfl (fun p hp => by
    simp only [List.mem_cons, List.not_mem_nil, or_false] at hp
    rcases hp with rfl | rfl
    · exact nPt_ok HA.out.1 (by decide)
    · exact nPt_ok HA.out.2 (by decide))
  have own1 := World.ownsRow_lit (base := w.heap.size + 2) (e := 20) (size := 1) W0 #[.iface 9 (.string ⟨#[115, 116, 97, 114, 116, 76, 105, 110, 101]⟩), .iface 3 (.int .i64 a), .iface 9 (.string ⟨#[101, 110, 100, 76, 105, 110, 101]⟩), .iface 3 (.int .i64 b)] 4 H0.out.lt (by decide) rfl
  have H1 := Lib.hid (And.intro hps (And.intro (H0.out.on hB1) own1))
  clear hB1 hps own1
  go_upto_region 2 with fail
  generalize W0.alloc (.cells #[.iface 9 (.string ⟨#[115, 116, 97, 114, 116, 76, 105, 110, 101]⟩), .iface 3 (.int .i64 a), .iface 9 (.string ⟨#[101, 110, 100, 76, 105, 110, 101]⟩), .iface 3 (.int .i64 b)] 20) = W1 at *
  have c2 := H1.out.2.1.c 2 _ rfl
  cases cm
  · have hob := Lib.hid (obj_ret (N := w.heap.size + 2) H1.out.2.1.lt (by decide) H1.out.1 (HPo.out _ H1.out.2.1.below))
    go_wp2_with fail
    refine hob.out.mono ?_
    rintro e wz ⟨y, rfl, ⟨p, n, d, q, m, d', rfl, h1, h2⟩, hB⟩
    have b2 := H1.out.2.1.b1.same (hB.block _ H1.out.2.1.b1.lt)
    have hBW := H1.out.2.1.below.trans (hB.mono H1.out.2.1.below.size)
    clear hB c0 c1 c2
    have H2 := Lib.hid (And.intro h1 (And.intro h2 (And.intro b2 hBW)))
    obtain ⟨x0, x1, x2, x3⟩ := b2.box
    have f0 := b2.free 0
    have f1 := b2.free 1
    have f2 := b2.free 2
    have f3 := b2.free 3
    clear h1 h2 b2 hBW
    go_wp2_with fail
    obtain ⟨g1, g2, g3⟩ := H2.out.2.2.1.all (.int .u8 6) (.string ⟨#[]⟩) (.slice p n d) (.slice q m d')
    have hw3 := set4_else wz (w.heap.size + 1) (.int .u8 6) (.string ⟨#[]⟩) (.slice p n d) (.slice q m d')
    have g3' := g3 w.heap.size (Nat.le_add_right _ _)
    clear x0 x1 x2 x3 f0 f1 f2 f3
    generalize (((wz.setCell ⟨w.heap.size + 1, 0, none⟩ (.int .u8 6)).setCell ⟨w.heap.size + 1, 1, none⟩ (.string ⟨#[]⟩)).setCell ⟨w.heap.size + 1, 2, none⟩ (.slice p n d)).setCell ⟨w.heap.size + 1, 3, none⟩ (.slice q m d') = w3 at *
    obtain ⟨x0, x1, x2, x3⟩ := g1.box
    refine bodyPost_ret (v := .agg #[.int .u8 6, .string ⟨#[]⟩, .slice p n d, .slice q m d']) (by simp [results, Tryz.results113, go_sem, x0, x1, x2, x3]) rfl ?_
    exact ⟨_, rfl, VF.mk (H2.out.1.fre (fun b hb => by omega) (fun b hb _ => hw3 b (by omega))) (H2.out.2.1.fre (fun b hb => by omega) (fun b hb _ => hw3 b (by omega))), H2.out.2.2.2.trans g3'⟩
  · go_wp2_with fail
    refine (HX.out W1 H1.out.2.1.below).mono ?_
    rintro e w2 ⟨rfl, hB2⟩
    have hB3 := (Below.refl w2.heap.size w2).alloc (Nat.le_refl _) (.cells #[.iface 9 (.string ⟨#[107, 105, 110, 100]⟩), .iface 25 (.agg #[.int .u8 4, .string ⟨#[99, 111, 109, 109, 101, 110, 116]⟩, .slice none 0 0, .slice none 0 0])] 20)
    have hBB := hB2.trans (hB3.mono hB2.size)
    have own3 := ownsRow_below H1.out.2.2 hBB
    have HM3 := Lib.hid (H1.out.2.1.on hBB)
    have hnews : ∀ (j : Nat) (u : Value), (#[.iface 9 (.string ⟨#[107, 105, 110, 100]⟩), .iface 25 (.agg #[.int .u8 4, .string ⟨#[99, 111, 109, 109, 101, 110, 116]⟩, .slice none 0 0, .slice none 0 0])] : Array Value).toList[j]? = some u → (w2.alloc (.cells #[.iface 9 (.string ⟨#[107, 105, 110, 100]⟩), .iface 25 (.agg #[.int .u8 4, .string ⟨#[99, 111, 109, 109, 101, 110, 116]⟩, .slice none 0 0, .slice none 0 0])] 20)).cell? ((⟨w2.heap.size, 0, none⟩ : Addr).add j) = some u := fun j u hu => by
      have hadd : (⟨w2.heap.size, 0, none⟩ : Addr).add j = ⟨w2.heap.size, j, none⟩ := by unfold Addr.add; split <;> simp_all
      rw [hadd, cell_of_row _ _ j _ _ (0, 0) (heap_alloc_new _ _), ← Array.getElem?_toList]
      exact hu
    have HO := Lib.hid (And.intro own3 hnews)
    clear hB2 hB3 hBB own3 hnews c0 c1 c2
    go_wp2_with (at_builtin; go_loud (refine wpList_append_lies _ rfl _ _ 207 rfl (w.heap.size + 2) 20 i0 _ 1 16 Tryz.underlying207 hi0 hz0 hz1 hz2 rfl (by decide) _ 4 [.iface 9 (.string ⟨#[115, 116, 97, 114, 116, 76, 105, 110, 101]⟩), .iface 3 (.int .i64 a), .iface 9 (.string ⟨#[101, 110, 100, 76, 105, 110, 101]⟩), .iface 3 (.int .i64 b)] rfl HO.out.1 ⟨w2.heap.size, 0, none⟩ 2 2 [.iface 9 (.string ⟨#[107, 105, 110, 100]⟩), .iface 25 (.agg #[.int .u8 4, .string ⟨#[99, 111, 109, 109, 101, 110, 116]⟩, .slice none 0 0, .slice none 0 0])] rfl rfl HO.out.2 (fun u hu => by
      simp only [List.mem_cons, List.not_mem_nil, or_false] at hu
      rcases hu with rfl | rfl <;> rfl) (by decide) (by decide) (by decide) HM3.out.lt _ rfl ?_))
    intro g cap w4 own4 hg4 _ _
    have hB4 : Below (w.heap.size + 2) (w2.alloc (.cells #[.iface 9 (.string ⟨#[107, 105, 110, 100]⟩), .iface 25 (.agg #[.int .u8 4, .string ⟨#[99, 111, 109, 109, 101, 110, 116]⟩, .slice none 0 0, .slice none 0 0])] 20)) w4 := (Below.refl _ _).grown hg4 HM3.out.lt (fun k hk => (HO.out.1.lt k hk).1)
    have hbw := HM3.out.below.trans (hB4.mono (by omega))
    have b4 := HM3.out.b1.same (hB4.block _ (by omega))
    have hob := Lib.hid (obj_own (N := w.heap.size + 2) (m := 3) [nPt ⟨#[115, 116, 97, 114, 116, 76, 105, 110, 101]⟩ a, nPt ⟨#[101, 110, 100, 76, 105, 110, 101]⟩ b, vPt ⟨#[107, 105, 110, 100]⟩ 4 ⟨#[99, 111, 109, 109, 101, 110, 116]⟩ (.slice none 0 0) (.slice none 0 0) .nil .nil] (Nat.le_trans HM3.out.lt hB4.size) (by show 3 ≤ 100; decide) rfl own4 (by decide) (fun p hp => by
      simp only [List.mem_cons, List.not_mem_nil, or_false] at hp
      rcases hp with rfl | rfl | rfl
      · exact nPt_ok HA.out.1 (by decide)
      · exact nPt_ok HA.out.2 (by decide)
      · exact vPt_ok ⟨by decide, by decide, by decide⟩ (HS.nil _ _ _) (HS.nil _ _ _)) (HPo.out _ hbw))
    have H4 := Lib.hid (And.intro b4 hbw)
    clear own4 hg4 hB4 hbw b4 HO HM3
    go_wp2_with fail
    refine hob.out.mono ?_
    rintro e wz ⟨y, rfl, ⟨p, n, d, q, m, d', rfl, h1, h2⟩, hB⟩
    have b2 := H4.out.1.same (hB.block _ H4.out.1.lt)
    have hBW := H4.out.2.trans (hB.mono H4.out.2.size)
    clear hB
    have H2 := Lib.hid (And.intro h1 (And.intro h2 (And.intro b2 hBW)))
    obtain ⟨x0, x1, x2, x3⟩ := b2.box
    have f0 := b2.free 0
    have f1 := b2.free 1
    have f2 := b2.free 2
    have f3 := b2.free 3
    clear h1 h2 b2 hBW
    go_wp2_with fail
    obtain ⟨g1, g2, g3⟩ := H2.out.2.2.1.all (.int .u8 6) (.string ⟨#[]⟩) (.slice p n d) (.slice q m d')
    have hw3 := set4_else wz (w.heap.size + 1) (.int .u8 6) (.string ⟨#[]⟩) (.slice p n d) (.slice q m d')
    have g3' := g3 w.heap.size (Nat.le_add_right _ _)
    clear x0 x1 x2 x3 f0 f1 f2 f3
    generalize (((wz.setCell ⟨w.heap.size + 1, 0, none⟩ (.int .u8 6)).setCell ⟨w.heap.size + 1, 1, none⟩ (.string ⟨#[]⟩)).setCell ⟨w.heap.size + 1, 2, none⟩ (.slice p n d)).setCell ⟨w.heap.size + 1, 3, none⟩ (.slice q m d') = w3 at *
    obtain ⟨x0, x1, x2, x3⟩ := g1.box
    refine bodyPost_ret (v := .agg #[.int .u8 6, .string ⟨#[]⟩, .slice p n d, .slice q m d']) (by simp [results, Tryz.results113, go_sem, x0, x1, x2, x3]) rfl ?_
    exact ⟨_, rfl, VF.mk (H2.out.1.fre (fun b hb => by omega) (fun b hb _ => hw3 b (by omega))) (H2.out.2.1.fre (fun b hb => by omega) (fun b hb _ => hw3 b (by omega))), H2.out.2.2.2.trans g3'⟩
end Go.Proofs.YtbkciiogkgndiaaGreatDoor

namespace Go.Proofs.YtbkciiogkgndiaaGreatDoor
open Go Go.RowKit Go.Lib

structure Rg where
  a : Int
  b : Int
  c : Int
  d : Int
def Rg.Ok (r : Rg) : Prop := I64 r.a ∧ I64 r.b ∧ I64 r.c ∧ I64 r.d
def Rg.z : Rg := ⟨0, 0, 0, 0⟩
def Rg.v (r : Rg) : Value := .agg #[.int .i64 r.a, .int .i64 r.b, .int .i64 r.c, .int .i64 r.d]
def rgAt (l : List Rg) (i : Nat) : Rg := l.getD i Rg.z
theorem i64_zero : I64 0 := ⟨by decide, by decide⟩
theorem rg_at_ok {l : List Rg} (h : ∀ r ∈ l, r.Ok) (i : Nat) : (rgAt l i).Ok := by
  unfold rgAt
  rw [List.getD_eq_getElem?_getD]
  cases hi : l[i]? with
  | none => exact ⟨i64_zero, i64_zero, i64_zero, i64_zero⟩
  | some r => exact h r (List.mem_of_getElem? hi)
/-- one range, and what is behind it -/
def chT (r : Rg) (more : Bool) (k : Nat) (f : V.T) : V.T := .cons ⟨#[114, 97, 110, 103, 101]⟩ 6 ⟨#[]⟩ .nil (rangeT r.a r.b r.c r.d) (if more then .cons ⟨#[112, 97, 114, 101, 110, 116]⟩ k ⟨#[]⟩ .nil f .nil else .nil)
/-- what has been put together when these have come -/
def chR (l : List Rg) (pre : List Nat) : Nat × V.T := pre.foldl (fun a i => (6, chT (rgAt l i) (decide (i + 1 < l.length)) a.1 a.2)) (0, .nil)
theorem chR_snoc (l : List Rg) (pre : List Nat) (i : Nat) : chR l (pre ++ [i]) = (6, chT (rgAt l i) (decide (i + 1 < l.length)) (chR l pre).1 (chR l pre).2) := by
  unfold chR
  rw [List.foldl_append]
  rfl
theorem chR_lt (l : List Rg) (pre : List Nat) : (chR l pre).1 < 256 := by
  rcases List.eq_nil_or_concat pre with rfl | ⟨p, i, rfl⟩
  · show (0 : Nat) < 256; decide
  · rw [List.concat_eq_append, chR_snoc]; show (6 : Nat) < 256; decide
def chainK (l : List Rg) : Nat := if l.isEmpty then 0 else 6
theorem chainK_lt (l : List Rg) : chainK l < 256 := by
  unfold chainK
  split <;> decide
def chainT : List Rg → V.T
  | [] => .nil
  | r :: l => chT r (!l.isEmpty) (chainK l) (chainT l)
/-- the numbers from n on backwards, so many -/
def backs (n : Nat) : Nat → List Nat
  | 0 => []
  | j + 1 => backs n j ++ [n - 1 - j]
theorem backs_len (n j : Nat) : (backs n j).length = j := by
  induction j with
  | zero => rfl
  | succ j ih => show (backs n j ++ [n - 1 - j]).length = _; rw [List.length_append, ih]; rfl
theorem chR_backs (l : List Rg) : ∀ j, j ≤ l.length → chR l (backs l.length j) = (chainK (l.drop (l.length - j)), chainT (l.drop (l.length - j)))
  | 0, _ => by
    rw [Nat.sub_zero, List.drop_length]
    rfl
  | j + 1, h => by
    show chR l (backs l.length j ++ [l.length - 1 - j]) = _
    have hi : l.length - (j + 1) < l.length := by omega
    rw [chR_snoc, chR_backs l j (by omega), show l.length - 1 - j = l.length - (j + 1) by omega, List.drop_eq_getElem_cons hi, show l.length - (j + 1) + 1 = l.length - j by omega]
    have e : rgAt l (l.length - (j + 1)) = l[l.length - (j + 1)] := by
      unfold rgAt
      rw [List.getD_eq_getElem?_getD, List.getElem?_eq_getElem hi]
      rfl
    have e2 : decide (l.length - j < l.length) = !(l.drop (l.length - j)).isEmpty := by
      rw [Bool.eq_iff_iff, Bool.not_eq_true', decide_eq_true_iff, List.isEmpty_eq_false_iff, ne_eq, List.drop_eq_nil_iff]
      omega
    rw [e, e2]
    rfl
/-- blocks of a tree hold cells -/
def CB (w : World) (A : Nat → Prop) (b : Nat) : Prop := A b ∧ ∃ o : Obj, w.heap[b]? = some o ∧ o.isCells = true
theorem hr_cells {w : World} {A : Nat → Prop} : ∀ (t : V.T) (d b o : Nat), HR w A d b o t → HR w (CB w A) d b o t
  | .nil, _, _, _, _ => trivial
  | .cons nm k x l f tl, d, b, o, h => by
    obtain ⟨h1, h2, h3, h4, h5, ⟨v, h6, h7⟩, ⟨u, h8, h9⟩, h10, h11⟩ := h
    exact ⟨⟨h1, cells_of_cell h4⟩, h2, h3, h4, h5, ⟨v, h6, h7.imp fun b' o' => hr_cells l 0 b' o'⟩, ⟨u, h8, h9.imp fun b' o' => hr_cells f 1 b' o'⟩, h10, hr_cells tl d b _ h11⟩
theorem HS.own {X Y : World} {N B d : Nat} {v : Value} {t : V.T} {row : Option Nat} (h : HS X (Fre N X) d v t) (hg : X.grownBy Y row) (hr : ∀ r, row = some r → B ≤ r ∧ ∃ o : Obj, X.heap[r]? = some o ∧ o.isCells = false) : HS Y (Fre N Y) d v t := by
  have hne : ∀ b, CB X (Fre N X) b → some b ≠ row := fun b hb e => by
    obtain ⟨-, o, ho, hc⟩ := hr b e.symm
    obtain ⟨-, o2, ho2, hc2⟩ := hb
    rw [ho] at ho2
    cases ho2
    rw [hc] at hc2
    cases hc2
  exact (show HS X (CB X (Fre N X)) d v t from SL.imp h fun b o => hr_cells t d b o).imp (fun b hb hlt => hb.1.imp hb.1.1 (hg.block b hlt (hne b hb))) (fun b hb hlt => hg.block b hlt (hne b hb))
/-- a value's box; what it holds lies in blocks from N on -/
def VBox (N bv k : Nat) (f : V.T) (W : World) : Prop := ∃ p n c q m d, Blk4 W bv 25 (.int .u8 k) (.string ⟨#[]⟩) (.slice p n c) (.slice q m d) ∧ HS W (Fre N W) 0 (.slice p n c) .nil ∧ HS W (Fre N W) 1 (.slice q m d) f
theorem VBox.lt {N bv k : Nat} {f : V.T} {W : World} (h : VBox N bv k f W) : bv < W.heap.size := by
  obtain ⟨p, n, c, q, m, d, h1, h2, h3⟩ := h
  exact h1.lt
theorem VBox.on {N bv k : Nat} {f : V.T} {W W' : World} (h : VBox N bv k f W) (hB : Below W.heap.size W W') : VBox N bv k f W' := by
  obtain ⟨p, n, c, q, m, d, h1, h2, h3⟩ := h
  exact ⟨p, n, c, q, m, d, h1.same (hB.block _ h1.lt), h2.freB hB, h3.freB hB⟩
theorem vbox_own {β : Type} (B N bv : Nat) (K : β → Nat) (F : β → V.T) : OwnFrom B (fun s W => VBox N bv (K s) (F s) W) := by
  rintro s X Y row ⟨p, n, c, q, m, d, h1, h2, h3⟩ hg hr
  refine ⟨p, n, c, q, m, d, h1.same (hg.block bv h1.lt (fun e => ?_)), h2.own hg hr, h3.own hg hr⟩
  obtain ⟨-, o, ho, hc⟩ := hr bv e.symm
  rw [show X.heap[bv]? = _ from h1] at ho
  cases ho
  cases hc
structure Ch where
  p : Option Addr
  n : Nat
  c : Nat
  l : List Rg
/-- ranges as they lie behind a slice -/
def SrcR (w : World) (v : Value) (l : List Rg) : Prop := (l = [] ∧ ∃ p c, v = .slice p 0 c ∧ c ≤ 9223372036854775807) ∨ ∃ b o c, v = .slice (some ⟨b, o, none⟩) l.length c ∧ l.length ≤ c ∧ c ≤ 9223372036854775807 ∧ b < w.heap.size ∧ (∀ (j : Nat) (e : Rg), l[j]? = some e → w.cell? ⟨b, o + j * 4, none⟩ = some (.int .i64 e.a) ∧ w.cell? ⟨b, o + j * 4 + 1, none⟩ = some (.int .i64 e.b) ∧ w.cell? ⟨b, o + j * 4 + 2, none⟩ = some (.int .i64 e.c) ∧ w.cell? ⟨b, o + j * 4 + 3, none⟩ = some (.int .i64 e.d)) ∧ ∀ e ∈ l, e.Ok
theorem SrcR.below {w w' : World} {v : Value} {l : List Rg} (h : SrcR w v l) (hB : Below w.heap.size w w') : SrcR w' v l := by
  rcases h with h | ⟨b, o, c, h1, h2, h3, h4, h5, h6⟩
  · exact .inl h
  · exact .inr ⟨b, o, c, h1, h2, h3, Nat.lt_of_lt_of_le h4 hB.size, fun j e hj => ⟨(hB.cell (p := ⟨b, o + j * 4, none⟩) h4).trans (h5 j e hj).1, (hB.cell (p := ⟨b, o + j * 4 + 1, none⟩) h4).trans (h5 j e hj).2.1, (hB.cell (p := ⟨b, o + j * 4 + 2, none⟩) h4).trans (h5 j e hj).2.2.1, (hB.cell (p := ⟨b, o + j * 4 + 3, none⟩) h4).trans (h5 j e hj).2.2.2⟩, h6⟩
def ChOk (w : World) (e : Ch) : Prop := SrcR w (.slice e.p e.n e.c) e.l ∧ e.l.length ≤ 1000000
theorem ChOk_below {w w' : World} {e : Ch} (hB : Below w.heap.size w w') (h : ChOk w e) : ChOk w' e := ⟨h.1.below hB, h.2⟩
def listChT : List Ch → V.T
  | [] => .nil
  | e :: r => .cons ⟨#[]⟩ (chainK e.l) ⟨#[]⟩ .nil (chainT e.l) (listChT r)
theorem listChT_len (l : List Ch) : (listChT l).len = l.length := by
  induction l with
  | nil => rfl
  | cons s r ih => show (listChT r).len + 1 = _; rw [ih]; rfl
theorem listChT_drop : ∀ (l : List Ch) (i : Nat) (e : Ch), l[i]? = some e → (listChT l).drop i = .cons ⟨#[]⟩ (chainK e.l) ⟨#[]⟩ .nil (chainT e.l) (listChT (l.drop (i + 1)))
  | [], _, _, h => by simp at h
  | s' :: r, 0, s, h => by
    simp at h; subst h
    rfl
  | s' :: r, i + 1, s, h => listChT_drop r i s (by simpa using h)
end Go.Proofs.YtbkciiogkgndiaaGreatDoor

namespace Go.Proofs.YtbkciiogkgndiaaGreatDoor
open Go Go.RowKit Go.Lib

set_option maxRecDepth 100000 in
set_option maxHeartbeats 1000000 in
theorem cloneFields_any (n : Nat) (ih : CloneOk n) (v : Value) (t : V.T) (A : Nat → Prop) (w : World) (ht : t.size ≤ n) (hv : HS w A 1 v t) :
    Calls Tryz.prog 157 #[v, .func (.func 158) #[] #[]] w (OwnS 1 t w) := by
  rcases hv.shape with ⟨rfl, hn⟩ | ⟨a, c, rfl, hc, hc2, hl⟩
  · obtain rfl := V.T.len_nil hn
    have qT := Lib.run_eql_slice_nil (P := Tryz.prog) w _ _ none 0 0 0 0 Tryz.underlying23
    go_enter Tryz.func157, Tryz.ntmps157
    go_wp2_with fail
    go_ret
    exact ⟨_, rfl, HS.nil _ _ _, SlFree.nil _ _, Below.refl _ _⟩
  · generalize ea : t.len = na at *
    have HE := Lib.hid ea
    have HT := Lib.hid ht
    have HR0 := Lib.hid hv
    clear ea ht hv
    have qT := fun w => Lib.run_eql_slice_nil (P := Tryz.prog) w _ _ (some a) na c 0 0 Tryz.underlying23
    obtain ⟨i0, hi0, hz0, hz1, hz2⟩ := info_parts infoField
    obtain ⟨M, hM⟩ : ∃ M, M = madeCells (Value.agg #[.string ⟨#[]⟩, .int .u8 0, .string ⟨#[]⟩, .slice none 0 0, .slice none 0 0]).cells (((na : Nat) : Int).toNat * i0.size) := ⟨_, rfl⟩
    have hMs : M.size = na * 5 := by
      rw [hM, size_madeCells, hz1, Int.toNat_natCast]
    have hmk : ∀ W : World, (Instr.makeSlice 23 (.int .i64 (na : Int)) (.int .i64 (na : Int))).run Tryz.prog W = .ok (.slice (some ⟨W.heap.size, 0, none⟩) na na) (W.alloc (.cells M 100)) := fun W => by
      have h := run_make (P := Tryz.prog) W 23 100 i0 _ Tryz.underlying23 hi0 hz0 .i64 .i64 (na : Int) (na : Int) (by omega) (by omega) (by rw [hz2]; omega) (by omega)
      rw [← hM] at h
      simpa using h
    clear hM
    go_enter Tryz.func157, Tryz.ntmps157
    go_wp2_with fail
    have hrow : Row (w.alloc (.cells M 100)) w.heap.size 100 M := heap_alloc_new _ _
    have hc0 : CaSt w 100 1 w.heap.size t 0 M (w.alloc (.cells M 100)) :=
      ⟨(Below.refl _ _).alloc (Nat.le_refl _) _, hrow, by rw [hMs, HE.out], Nat.le_refl _, by rw [Nat.zero_mul, List.take_zero]; exact RP.nil _ _ _ _⟩
    generalize w.alloc (.cells M 100) = W0 at *
    have HC := Lib.hid hc0
    clear hrow hc0 hMs hmk
    go_loopw [15] (fun p wr => ∃ i : Nat, p = .int .i64 i ∧ i ≤ na ∧ Hid (∃ cur, CaSt w 100 1 w.heap.size t i cur wr)) (fun p _ => na - (RowKit.intOf p).toNat)
    case atStart => exact ⟨0, rfl, Nat.zero_le _, Lib.hid ⟨_, HC.out⟩⟩
    case round =>
      obtain ⟨i, rfl, hi, HR⟩ := hrel
      obtain ⟨cur, hR⟩ := HR.out
      by_cases hlt : i < na
      · have HQ := Lib.hid hR
        clear HR hR
        obtain ⟨nm1, k1, x1, l1, f1, tl1, hd1⟩ := V.T.drop_some (t := t) (i := i) (by rw [HE.out]; exact hlt)
        obtain ⟨b, o, v1, u1, hbo, E1⟩ := (HR0.out.below HQ.out.below).elem (by rw [HE.out]; exact hlt) hd1
        cases hbo
        obtain ⟨p1, c5, rfl, -⟩ := E1.hl.len
        obtain ⟨p2, c6, rfl, -⟩ := E1.hf.len
        have e0 := E1.name rfl
        have e1 := E1.kind
        have e2 := E1.text
        have e3 := E1.list
        have e4 := E1.fields
        simp only [Nat.reduceAdd] at e0 e1 e2 e3 e4
        have n2 : o + i * 5 + 1 + 1 = o + i * 5 + 2 := by omega
        have n3 : o + i * 5 + 1 + 2 = o + i * 5 + 3 := by omega
        have n4 : o + i * 5 + 1 + 3 = o + i * 5 + 4 := by omega
        rw [n2] at e2
        rw [n3] at e3
        rw [n4] at e4
        clear n2 n3 n4
        have HL := Lib.hid hlt
        have D1 := Lib.hid hd1
        clear hd1
        have IH := fun W (hB : Below wr.heap.size wr W) => cloneField_any n ih nm1 k1 x1 (.slice p1 l1.len c5) (.slice p2 f1.len c6) l1 f1 A W (by have := V.T.drop_size D1.out; have := HT.out; omega) E1.small (E1.hl.below hB) (E1.hf.below hB)
        have hrow := HQ.out.row
        have hgl := hrow.lt
        have hcs : i * 5 + 5 ≤ cur.size := by rw [HQ.out.size, HE.out]; have := HL.out; omega
        go_wp2_with fail
        go_at_call 158
        (with_reducible refine (IH _ ((Below.refl _ _).alloc (Nat.le_refl _) _)).mono ?_)
        rintro e w1 ⟨v2, u2, rfl, hl1, hf1, hB1⟩
        obtain ⟨p3, c7, rfl, -⟩ := hl1.len
        obtain ⟨p4, c8, rfl, -⟩ := hf1.len
        have hB2 := (((Below.refl wr.heap.size wr).alloc (Nat.le_refl _) (.cells #[.string nm1, .int .u8 k1, .string x1, .slice p1 l1.len c5, .slice p2 f1.len c6] 100)).trans (hB1.mono (by simp)))
        have hr1 := hrow.same (hB2.block _ hgl)
        have q0 := hr1.cell (j := i * 5) (by omega)
        have q1 := hr1.cell (j := i * 5 + 1) (by omega)
        have q2 := hr1.cell (j := i * 5 + 2) (by omega)
        have q3 := hr1.cell (j := i * 5 + 3) (by omega)
        have q4 := hr1.cell (j := i * 5 + 4) (by omega)
        have z0 := hr1.free (i * 5)
        have z1 := hr1.free (i * 5 + 1)
        have z2 := hr1.free (i * 5 + 2)
        have z3 := hr1.free (i * 5 + 3)
        have z4 := hr1.free (i * 5 + 4)
        have H1 := Lib.hid (And.intro hl1 hf1)
        have HB2 := Lib.hid hB2
        have HX := Lib.hid (World.size_alloc wr (.cells #[.string nm1, .int .u8 k1, .string x1, .slice p1 l1.len c5, .slice p2 f1.len c6] 100))
        clear hl1 hf1 hB1 hB2 hr1
        go_wp2_with fail
        go_roundw
        case rel => exact ⟨i + 1, by go_num, HL.out, Lib.hid ⟨_, HQ.out.step1 (by rw [HE.out]; exact HL.out) D1.out E1.small HB2.out (H1.out.1.mono fun b hb _ => hb.imp (by have := HX.out; have := hb.1; omega) rfl) (H1.out.2.mono fun b hb _ => hb.imp (by have := HX.out; have := hb.1; omega) rfl)⟩⟩
        case measure => have := HL.out; simp [RowKit.intOf]; omega
      · obtain rfl : i = na := by omega
        clear HR
        have hw := CaSt.whole (by rw [HE.out]; exact hR) (by rw [HE.out]; exact hl)
        rw [HE.out] at hw
        have HF := Lib.hid (And.intro hw (And.intro (show SlFree w.heap.size wr (.slice (some ⟨w.heap.size, 0, none⟩) i i) from fun b hb => by cases hb; exact ⟨Nat.le_refl _, hR.row.lt, hR.row.free⟩) hR.below))
        clear hw hR
        go_wp2_with fail
        go_ret
        exact ⟨_, rfl, HF.out.1, HF.out.2.1, HF.out.2.2⟩


theorem set1_else (w : World) (b o : Nat) (y : Value) (j : Nat) (hj : j ≠ b) : (w.setCell ⟨b, o, none⟩ y).heap[j]? = w.heap[j]? := Below.heap_setCell _ _ _ j hj

set_option maxRecDepth 100000 in
set_option maxHeartbeats 1000000 in
theorem clone_step (n : Nat) (ih : CloneOk n) : CloneOk (n + 1) := by
  intro ka xa va ua la fa A w hn hx hva hua
  obtain ⟨pa, ca, rfl, ba0, ba1, ba2⟩ := hva.len
  obtain ⟨qa, da, rfl, ba5, ba3, ba4⟩ := hua.len
  have hL := fun W hW => cloneList_any n ih (.slice pa la.len ca) la A W (by omega) (hva.below hW)
  have hF := fun W hW => cloneFields_any n ih (.slice qa fa.len da) fa A W (by omega) (hua.below hW)
  generalize ea : la.len = na at *
  generalize fa1 : fa.len = ma at *
  have HE := Lib.hid ea
  have HF := Lib.hid fa1
  clear ea fa1 hva hua hn ih
  go_enter Tryz.func111, Tryz.ntmps111
  go_wp2_with fail
  have hx2 := two_new w (.cells #[.int .u8 ka, .string xa, .slice pa na ca, .slice qa ma da] 25) (.cells #[.int .u8 0, .string ⟨#[]⟩, .slice none 0 0, .slice none 0 0] 25)
  have hw := two_below w (.cells #[.int .u8 ka, .string xa, .slice pa na ca, .slice qa ma da] 25) (.cells #[.int .u8 0, .string ⟨#[]⟩, .slice none 0 0, .slice none 0 0] 25)
  have hz := two_size w (.cells #[.int .u8 ka, .string xa, .slice pa na ca, .slice qa ma da] 25) (.cells #[.int .u8 0, .string ⟨#[]⟩, .slice none 0 0, .slice none 0 0] 25)
  generalize (w.alloc (.cells #[.int .u8 ka, .string xa, .slice pa na ca, .slice qa ma da] 25)).alloc (.cells #[.int .u8 0, .string ⟨#[]⟩, .slice none 0 0, .slice none 0 0] 25) = W0 at *
  have r1 : Blk4 W0 w.heap.size 25 _ _ _ _ := hx2.1
  have r2 : Blk4 W0 (w.heap.size + 1) 25 _ _ _ _ := hx2.2
  refine (strClone_any xa _ hx).mono ?_
  rintro e w1 ⟨rfl, hB1⟩
  have r1 := r1.same (hB1.block _ r1.lt)
  have r2 := r2.same (hB1.block _ r2.lt)
  have HW1 := Lib.hid (hw.trans (hB1.mono hw.size))
  have hz1 : w.heap.size + 2 ≤ w1.heap.size := by have := hB1.size; omega
  clear hx2 hw hz hB1
  obtain ⟨c0, c1, c2, c3⟩ := r1.box
  have f1 := r1.free 1
  have HR1 := Lib.hid (And.intro r1 r2)
  clear r1 r2
  go_wp2_with fail
  have r1 := HR1.out.1.set1 (.string xa)
  have r2 := HR1.out.2.else (o := 1) (y := .string xa) (show w.heap.size + 1 ≠ w.heap.size by omega)
  have hw2 : Below w.heap.size w (w1.setCell ⟨w.heap.size, 1, none⟩ (.string xa)) := HW1.out.setCell (Nat.le_refl _) _
  have hz2 : w.heap.size + 2 ≤ (w1.setCell ⟨w.heap.size, 1, none⟩ (.string xa)).heap.size := by simp; exact hz1
  generalize w1.setCell ⟨w.heap.size, 1, none⟩ (.string xa) = w2 at *
  clear c0 c1 c2 c3 f1 HW1 HR1 hz1
  refine (hL _ hw2).mono ?_
  rintro e w3 ⟨v3, rfl, hl3, hs3, hB3⟩
  obtain ⟨p3, c3', rfl, -⟩ := hl3.len
  have r1 := r1.same (hB3.block _ r1.lt)
  have r2 := r2.same (hB3.block _ r2.lt)
  have HW3 := Lib.hid (hw2.trans (hB3.mono hw2.size))
  have hz3 : w.heap.size + 2 ≤ w3.heap.size := by have := hB3.size; omega
  have HL3 := Lib.hid (hl3.fre (w' := w3) (lo' := w.heap.size + 2) (fun b hb => Nat.le_trans hz2 hb) (fun _ _ _ => rfl))
  have HS3 := Lib.hid (hs3.imp (B' := w.heap.size + 2) hz2 (Nat.le_refl _) (fun _ _ _ => rfl))
  clear hw2 hz2 hB3 hl3 hL hs3
  obtain ⟨c0, c1, c2, c3⟩ := r1.box
  have f2 := r1.free 2
  have HR1 := Lib.hid (And.intro r1 r2)
  clear r1 r2
  go_wp2_with fail
  have r1 := HR1.out.1.set2 (.slice p3 la.len c3')
  have r2 := HR1.out.2.else (o := 2) (y := .slice p3 la.len c3') (show w.heap.size + 1 ≠ w.heap.size by omega)
  have hw4 : Below w.heap.size w (w3.setCell ⟨w.heap.size, 2, none⟩ (.slice p3 la.len c3')) := HW3.out.setCell (Nat.le_refl _) _
  have hz4 : w.heap.size + 2 ≤ (w3.setCell ⟨w.heap.size, 2, none⟩ (.slice p3 la.len c3')).heap.size := by simp; exact hz3
  have hl4 := HL3.out.fre (w' := w3.setCell ⟨w.heap.size, 2, none⟩ (.slice p3 la.len c3')) (fun _ a => a) (fun b hb _ => set1_else w3 _ 2 _ b (by omega))
  have hs4 := HS3.out.imp (w' := w3.setCell ⟨w.heap.size, 2, none⟩ (.slice p3 la.len c3')) (Nat.le_refl _) (by simp) (fun b hb _ => set1_else w3 _ 2 _ b (by omega))
  generalize w3.setCell ⟨w.heap.size, 2, none⟩ (.slice p3 la.len c3') = w4 at *
  clear c0 c1 c2 c3 f2 HW3 HR1 hz3 HL3
  refine (hF _ hw4).mono ?_
  rintro e w5 ⟨v5, rfl, hl5, hs5, hB5⟩
  obtain ⟨p5, c5, rfl, -⟩ := hl5.len
  have r1 := r1.same (hB5.block _ r1.lt)
  have r2 := r2.same (hB5.block _ r2.lt)
  have HW5 := Lib.hid (hw4.trans (hB5.mono hw4.size))
  have hz5 : w.heap.size + 2 ≤ w5.heap.size := by have := hB5.size; omega
  have HL5 := Lib.hid (And.intro (hl4.fre (fun _ a => a) (fun b _ hb => hB5.block b hb)) (hl5.fre (w' := w5) (lo' := w.heap.size + 2) (fun b hb => Nat.le_trans hz4 hb) (fun _ _ _ => rfl)))
  have HS5 := Lib.hid (And.intro (hs4.imp (Nat.le_refl _) hB5.size (fun b _ hb => hB5.block b hb)) (hs5.imp (B' := w.heap.size + 2) hz4 (Nat.le_refl _) (fun _ _ _ => rfl)))
  clear hw4 hz4 hB5 hl4 hl5 hF hs4 hs5 HS3
  obtain ⟨c0, c1, c2, c3⟩ := r1.box
  have f3 := r1.free 3
  obtain ⟨d0, d1, d2, d3⟩ := r2.box
  have g0 := r2.free 0
  have g1 := r2.free 1
  have g2 := r2.free 2
  have g3 := r2.free 3
  have HR1 := Lib.hid (And.intro r1 r2)
  clear r1 r2
  go_wp2_with fail
  have r2 := HR1.out.2.else (o := 3) (y := .slice p5 fa.len c5) (show w.heap.size + 1 ≠ w.heap.size by omega)
  obtain ⟨h1, h2, h3⟩ := r2.all (.int .u8 ka) (.string xa) (.slice p3 la.len c3') (.slice p5 fa.len c5)
  have h4 := fun j (hj : j ≠ w.heap.size + 1) (hj2 : j ≠ w.heap.size) => (set4_else (w5.setCell ⟨w.heap.size, 3, none⟩ (.slice p5 fa.len c5)) (w.heap.size + 1) (.int .u8 ka) (.string xa) (.slice p3 la.len c3') (.slice p5 fa.len c5) j hj).trans (set1_else w5 w.heap.size 3 (.slice p5 fa.len c5) j hj2)
  have h5 := (HW5.out.setCell (p := ⟨w.heap.size, 3, none⟩) (Nat.le_refl _) (.slice p5 fa.len c5)).trans (h3 w.heap.size (Nat.le_succ _))
  have h6 : w5.heap.size ≤ ((((((w5.setCell ⟨w.heap.size, 3, none⟩ (.slice p5 fa.len c5)).setCell ⟨w.heap.size + 1, 0, none⟩ (.int .u8 ka)).setCell ⟨w.heap.size + 1, 1, none⟩ (.string xa)).setCell ⟨w.heap.size + 1, 2, none⟩ (.slice p3 la.len c3')).setCell ⟨w.heap.size + 1, 3, none⟩ (.slice p5 fa.len c5))).heap.size := by simp
  generalize ((((w5.setCell ⟨w.heap.size, 3, none⟩ (.slice p5 fa.len c5)).setCell ⟨w.heap.size + 1, 0, none⟩ (.int .u8 ka)).setCell ⟨w.heap.size + 1, 1, none⟩ (.string xa)).setCell ⟨w.heap.size + 1, 2, none⟩ (.slice p3 la.len c3')).setCell ⟨w.heap.size + 1, 3, none⟩ (.slice p5 fa.len c5) = W' at *
  obtain ⟨x0, x1, x2, x3⟩ := h1.box
  refine bodyPost_ret (v := .agg #[.int .u8 ka, .string xa, .slice p3 la.len c3', .slice p5 fa.len c5]) (by simp [results, Tryz.results111, go_sem, x0, x1, x2, x3]) rfl ⟨_, _, rfl, ?_, ?_, ?_, ?_, h5⟩
  · exact HL5.out.1.fre (fun b hb => by omega) (fun b hb _ => h4 b (by omega) (by omega))
  · exact HL5.out.2.fre (fun b hb => by omega) (fun b hb _ => h4 b (by omega) (by omega))
  · exact HS5.out.1.imp (by omega) h6 (fun b hb _ => h4 b (by omega) (by omega))
  · exact HS5.out.2.imp (by omega) h6 (fun b hb _ => h4 b (by omega) (by omega))
theorem clone_any (n : Nat) : CloneOk n := by
  induction n with
  | zero => intro _ _ _ _ _ _ _ _ h; omega
  | succ n ih => exact clone_step n ih
end Go.Proofs.YtbkciiogkgndiaaGreatDoor
