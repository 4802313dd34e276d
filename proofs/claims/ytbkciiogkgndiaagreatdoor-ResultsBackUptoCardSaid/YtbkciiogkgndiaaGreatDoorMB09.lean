/- The program's object of names and values by turns, walked. Conditions: at most 100 parts; names of at most 1000 bytes; the library's table of powers. -/
import Derived.Test.YtbkciiogkgndiaaGreatDoorMB08
import Derived.Deep.DeepCutAuto
import Derived.Deep.CutBlock
import Derived.Test.YtbkciiogkgndiaaGreatDoorMB03
namespace Go.Proofs.YtbkciiogkgndiaaGreatDoor
open Go Go.RowKit Go.Lib

/-- how far the loop has come -/
def ObRel (ps : List Pt) (i : Nat) (fs : List Fe) : Prop := (∃ j, i = 2 * j ∧ fs = (fes ps).take j) ∨ (∃ j p, i = 2 * j + 1 ∧ ps[j]? = some p ∧ fs = (fes ps).take j ++ [zeroE p.e.nm])
theorem obs_last {w : World} {B b : Nat} {ps : List Pt} {fs : List Fe} {nm : ByteArray} {v : Value} {A : Nat → Prop} {W : World} (h : ObSt w B b ps (fs ++ [zeroE nm]) v A W) : ∃ g cap, v = .slice (some ⟨g, 0, none⟩) (fs.length + 1) cap ∧ fs.length + 1 ≤ cap ∧ cap ≤ 9223372036854775807 ∧
    (W.cell? ⟨g, fs.length * 5 + 1, none⟩ = some (.int .u8 0) ∧ W.cell? ⟨g, fs.length * 5 + 1 + 1, none⟩ = some (.string ⟨#[]⟩) ∧ W.cell? ⟨g, fs.length * 5 + 1 + 2, none⟩ = some (.slice none 0 0) ∧ W.cell? ⟨g, fs.length * 5 + 1 + 3, none⟩ = some (.slice none 0 0)) ∧ ∀ j, W.frozen? ⟨g, j, none⟩ = false := by
  have hown := h.own
  rw [List.length_append, cellsOf_append] at hown
  have hown : W.ownsRow w.heap.size 100 5 v (fs.length + 1) (cellsOf fs ++ [.string nm, .int .u8 0, .string ⟨#[]⟩, .slice none 0 0, .slice none 0 0]) := hown
  have h2 := hown.2
  rcases h2 with ⟨_, h3⟩ | ⟨g, cap, cur, e, h3, h4, h5, h6, h7, h8⟩
  · omega
  · subst e
    have hl := cellsOf_len fs
    have hc : ∀ k, k < 5 → W.cell? ⟨g, fs.length * 5 + k, none⟩ = ([.string nm, .int .u8 0, .string ⟨#[]⟩, .slice none 0 0, .slice none 0 0] : List Value)[k]? := fun k hk => by
      rw [hown.cellAt (fs.length * 5 + k) (by omega), List.getElem?_append_right (by omega), hl, Nat.add_sub_cancel_left]
    exact ⟨g, cap, rfl, h5, h6, ⟨hc 1 (by decide), hc 2 (by decide), hc 3 (by decide), hc 4 (by decide)⟩, fun j => hown.frozenAt j⟩
theorem obs_hs {w : World} {B b : Nat} {ps : List Pt} {fs : List Fe} {v : Value} {A : Nat → Prop} {W : World} (h : ObSt w B b ps fs v A W) (hn : fs.length ≤ 2000000000000) : HS W (fun k => A k ∨ Fre w.heap.size W k) 1 v (treeOf fs) := by
  rcases h.own.2 with ⟨e, h3⟩ | ⟨g, cap, cur, e, h3, h4, h5, h6, h7, h8⟩
  · obtain rfl : fs = [] := by
      cases fs with
      | nil => rfl
      | cons x r => cases h3
    rw [e]
    exact HS.nil _ _ _
  · have hown := h.own
    subst e
    exact Lies.hs (lies_owned rfl hown) (fun e he => (h.ok e he).mono (fun _ a _ => .inl a)) (fun k hk => by cases hk; exact .inr ⟨h3, fun j => hown.frozenAt j⟩) hn
theorem ta_str (W : World) (s : ByteArray) : (Instr.typeAssert (.iface 9 (.string s)) 20 9 true).run Tryz.prog W = .ok (.tuple #[.string s, .bool true]) W := by kernel_rfl
theorem ta_int_s (W : World) (n : Int) : (Instr.typeAssert (.iface 3 (.int .i64 n)) 20 9 true).run Tryz.prog W = .ok (.tuple #[.string ⟨#[]⟩, .bool false]) W := by kernel_rfl
theorem ta_int (W : World) (n : Int) : (Instr.typeAssert (.iface 3 (.int .i64 n)) 20 3 true).run Tryz.prog W = .ok (.tuple #[.int .i64 n, .bool true]) W := by kernel_rfl
theorem ta_val_s (W : World) (a : Array Value) : (Instr.typeAssert (.iface 25 (.agg a)) 20 9 true).run Tryz.prog W = .ok (.tuple #[.string ⟨#[]⟩, .bool false]) W := by kernel_rfl
theorem ta_val_i (W : World) (a : Array Value) : (Instr.typeAssert (.iface 25 (.agg a)) 20 3 true).run Tryz.prog W = .ok (.tuple #[.int .i64 0, .bool false]) W := by kernel_rfl
theorem ta_val (W : World) (a : Array Value) : (Instr.typeAssert (.iface 25 (.agg a)) 20 25 true).run Tryz.prog W = .ok (.tuple #[.agg a, .bool true]) W := by kernel_rfl
theorem infoVal : (Tryz.prog.info? 100).map (fun i => (i.zero, i.size, i.bytes)) = some (some (.agg #[.string ⟨#[]⟩, .int .u8 0, .string ⟨#[]⟩, .slice none 0 0, .slice none 0 0]), 5, 88) := by kernel_rfl
set_option maxRecDepth 100000 in
set_option maxHeartbeats 2000000 in
theorem objectR_any (b nn c : Nat) (ps : List Pt) (A : Nat → Prop) (w : World) (hn : nn = 2 * ps.length) (hc : nn ≤ c ∧ c ≤ 9223372036854775807) (h100 : ps.length ≤ 100) (hb : b < w.heap.size) (hl : IfsLie w b ps) (ho : ∀ p ∈ ps, p.Ok w A) (hA : ∀ k, A k → k < w.heap.size) (hP : PowTab w) :
    Calls Tryz.prog 107 #[.slice (some ⟨b, 0, none⟩) nn c] w (ObjR (treeOf (fes ps)) A w) := by
  obtain ⟨i0, hi0, hz0, hz1, hz2⟩ := info_parts infoField
  have HNu := Lib.hid (fun W (hB : Below w.heap.size w W) (n : Int) (h : -9223372036854775808 ≤ n ∧ n ≤ 9223372036854775807) => numberJ_any n h.1 h.2 W (fun w' hB' => pow_below hP (hB.trans (hB'.mono hB.size))))
  have hB0 := (Below.refl w.heap.size w).alloc (Nat.le_refl _) (.cells #[.int .u8 0, .string ⟨#[]⟩, .slice none 0 0, .slice none 0 0] 25)
  have b0 : Blk4 (w.alloc (.cells #[.int .u8 0, .string ⟨#[]⟩, .slice none 0 0, .slice none 0 0] 25)) w.heap.size 25 _ _ _ _ := heap_alloc_new _ _
  have hs0 := World.size_alloc w (.cells #[.int .u8 0, .string ⟨#[]⟩, .slice none 0 0, .slice none 0 0] 25)
  have HB := Lib.hid (And.intro b0 (And.intro hB0 hs0))
  have HP1 := Lib.hid (And.intro hl (And.intro ho (And.intro hA hb)))
  have hq : (nn : Int) / 2 = (ps.length : Int) := by omega
  have hq2 : (nn : Int).tdiv 2 = (ps.length : Int) := by rw [Int.tdiv_eq_ediv_of_nonneg (by omega)]; exact hq
  have HN := Lib.hid hn
  have hm : ps.length ≤ 1000 := by omega
  clear hl ho hA hb hB0 b0 hs0 hP hn
  generalize hm0 : ps.length = m at *
  have HM := Lib.hid hm0
  clear hm0
  go_enter Tryz.func107, Tryz.ntmps107
  go_upto_region 1 with fail
  generalize w.alloc (.cells #[.int .u8 0, .string ⟨#[]⟩, .slice none 0 0, .slice none 0 0] 25) = w1 at *
  go_wp2_with (refine wpList_make_own _ rfl _ _ 23 rfl w1.heap.size 100 i0 (.agg #[.string ⟨#[]⟩, .int .u8 0, .string ⟨#[]⟩, .slice none 0 0, .slice none 0 0]) 5 Tryz.underlying23 hi0 hz0 hz1 .i64 .i64 _ m rfl rfl rfl ?c1 ?c2 (Nat.le_refl _) ?_)
  case c1 => rw [hz2]; omega
  case c2 => unfold maxLen; omega
  intro w2 hown2 hgrow2
  have H2 := Lib.hid (show ObSt w1 w.heap.size b ps [] (.slice (some ⟨w1.heap.size, 0, none⟩) 0 m) A w2 from by
    have hB := HB.out.2.1
    have hg := (Below.refl w1.heap.size w1).grown hgrow2 (Nat.le_refl _) (fun k hk => by cases hk)
    have hz := HB.out.2.2
    exact ⟨hg, HB.out.1.same (hg.block _ HB.out.1.lt), HB.out.1.lt, hown2, (fun e he => by cases he), fun p hp => ((HP1.out.2.1 p hp).below hB).below hg, (HP1.out.1.below HP1.out.2.2.2 hB).below (by have := HP1.out.2.2.2; omega) hg, by have := HP1.out.2.2.2; omega, fun k hk => by have := HP1.out.2.2.1 k hk; omega⟩)
  clear hown2 hgrow2 hq hq2
  go_wp2_with fail
  go_loopw [3, 15] (fun v p wr => ∃ (i : Nat) (fs : List Fe), p = .int .i64 i ∧ i ≤ nn ∧ Hid (ObSt w1 w.heap.size b ps fs v A wr ∧ ObRel ps i fs)) (fun _ p _ => nn - (RowKit.intOf p).toNat)
  case atStart => exact ⟨0, [], rfl, Nat.zero_le _, Lib.hid ⟨H2.out, .inl ⟨0, rfl, rfl⟩⟩⟩
  case round =>
    obtain ⟨i, fs, rfl, hi, HR⟩ := hrel
    have hnn := HN.out
    have hmm := HM.out
    by_cases hlt : i < nn
    · obtain ⟨hO, hrl⟩ := HR.out
      clear HR
      rcases hrl with ⟨j, rfl, rfl⟩ | ⟨j, p, rfl, hp, rfl⟩
      · obtain ⟨p, hp⟩ : ∃ p, ps[j]? = some p := ⟨_, List.getElem?_eq_getElem (by omega)⟩
        have hce := hO.lie _ _ (ifs_at ps j p hp).1
        have hta := fun W => ta_str W p.e.nm
        have hsz := (hO.parts p (List.mem_of_getElem? hp)).fe.2.2.name
        have HO := Lib.hid hO
        have HPj := Lib.hid hp
        have HL := Lib.hid (And.intro hlt (And.intro hnn hmm))
        have hfl : ((fes ps).take j).length = j := fes_len (by omega)
        have HR2 := Lib.hid (show ∀ F, F = (fes ps).take j → ObRel ps (2 * j + 1) (F ++ [zeroE p.e.nm]) from fun F hF => .inr ⟨j, p, rfl, hp, by rw [hF]⟩)
        generalize hgf : (fes ps).take j = F at *
        have HR3 := Lib.hid (HR2.out F rfl)
        clear hgf HR2
        have hB3 := (Below.refl wr.heap.size wr).alloc (Nat.le_refl _) (.cells #[.string p.e.nm, .int .u8 0, .string ⟨#[]⟩, .slice none 0 0, .slice none 0 0] 100)
        have hO3 := Lib.hid (hO.on hB3)
        have hnew := (lies_new (w := wr) (cs := #[.string p.e.nm, .int .u8 0, .string ⟨#[]⟩, .slice none 0 0, .slice none 0 0]) (es := [zeroE p.e.nm]) (t := 100) (n := 1) rfl rfl (by decide)).news
        have HNw := Lib.hid hnew
        have HF := Lib.hid hfl
        clear hp hnew hB3 hO hnn hmm hfl hi
        generalize hii : 2 * j = i at *
        have HR4 := Lib.hid HR3.out
        have HI := Lib.hid hii
        clear hii HR3
        go_wp2_with (at_builtin; go_loud (refine wpList_append_lies _ rfl _ _ 23 rfl w1.heap.size 100 i0 _ 5 88 Tryz.underlying23 hi0 hz0 hz1 hz2 rfl (by decide) u3 F.length (cellsOf F) rfl hO3.out.own ⟨wr.heap.size, 0, none⟩ 1 1 (cellsOf [zeroE p.e.nm]) rfl rfl HNw.out (cellsOf_one (w := wr) (A := A) [zeroE p.e.nm] (fun e he => by obtain rfl := List.mem_singleton.1 he; exact zeroE_ok _ _ hsz)) (by decide) (by rw [HF.out]; unfold maxLen; have := HL.out; have := HI.out; omega) (by rw [HF.out]; have := HL.out; have := HI.out; omega) hO3.out.below.size _ rfl ?_))
        intro g cap w3 own3 hg3 _ _
        have H3 := Lib.hid (hO3.out.grow (zeroE p.e.nm) (fun w A => zeroE_ok w A hsz) hg3 own3)
        clear own3 hg3 hce
        go_wp2_with fail
        go_roundw
        case rel => exact ⟨i + 1, _, by go_num, by have := HL.out; omega, Lib.hid ⟨H3.out, HR4.out⟩⟩
        case measure => have := HL.out; simp [RowKit.intOf]; omega
      · have hce := hO.lie _ _ (ifs_at ps j p hp).2
        have hjm : j < ps.length := (List.getElem?_eq_some_iff.1 hp).1
        have hfl : ((fes ps).take j).length = j := fes_len (by omega)
        have hok := hO.parts p (List.mem_of_getElem? hp)
        have hft := fes_take hp
        generalize hgf : (fes ps).take j = F at *
        clear hgf
        obtain ⟨g, cap, rfl, hcp1, hcp2, -, -⟩ := obs_last hO
        subst hfl
        have HPj := Lib.hid (And.intro hp hft)
        have hj1 : F.length ≤ 1000 := by omega
        have HL := Lib.hid (And.intro hlt (And.intro hnn (And.intro hmm hjm)))
        clear hp hft hnn hmm
        generalize hii : 2 * F.length + 1 = i at *
        have HI := Lib.hid hii
        clear hii
        rcases hok with ⟨n, hn, he, hsz⟩ | ⟨ht, hv, hok⟩
        · rw [he] at hce
          have hta1 := fun W => ta_int_s W n
          have hta2 := fun W => ta_int W n
          have HOn := Lib.hid (show ∀ W, ObSt w1 w.heap.size b ps (F ++ [zeroE p.e.nm]) (.slice (some ⟨g, 0, none⟩) (F.length + 1) cap) A W → ObSt w1 w.heap.size b ps (F ++ [p.e]) (.slice (some ⟨g, 0, none⟩) (F.length + 1) cap) A ((((W.setCell ⟨g, F.length * 5 + 1, none⟩ (.int .u8 3)).setCell ⟨g, F.length * 5 + 1 + 1, none⟩ (.string ⟨(Lib.itoa n).toArray⟩)).setCell ⟨g, F.length * 5 + 1 + 2, none⟩ (.slice none 0 0)).setCell ⟨g, F.length * 5 + 1 + 3, none⟩ (.slice none 0 0)) from fun W hW => by
            have e1 : p.e = numE p.e.nm n := congrArg Pt.e he
            have := hW.store (numE p.e.nm n) rfl (numE_ok n W A (by omega) hn)
            rw [← e1] at this
            rw [e1] at this ⊢
            exact this)
          have HO := Lib.hid hO
          have HNn := Lib.hid hn
          clear he hO hn hsz
          go_wp2_with fail
          have hbw := HB.out.2.1.trans (HO.out.below.mono HB.out.2.1.size)
          refine (HNu.out _ hbw n HNn.out).mono ?_
          rintro e w3 ⟨rfl, hB3⟩
          have H3 := Lib.hid (HO.out.on hB3)
          obtain ⟨_, _, he3, _, _, ⟨q0, q1, q2, q3⟩, hfz⟩ := obs_last H3.out
          cases he3
          clear hbw hB3
          go_wp2_with fail
          go_roundw
          case rel => exact ⟨i + 1, _, by go_num, by have := HL.out; omega, Lib.hid ⟨HOn.out _ H3.out, .inl ⟨F.length + 1, by have := HI.out; omega, HPj.out.2.symm⟩⟩⟩
          case measure => have := HL.out; simp [RowKit.intOf]; omega
        · rw [ht, hv] at hce
          obtain ⟨pv, nv, cv, hpv⟩ : ∃ a b c, p.e.v = .slice a b c := by obtain ⟨a, b, h, _⟩ := hok.1.len; exact ⟨_, _, _, h⟩
          obtain ⟨pu, nu, cu, hpu⟩ : ∃ a b c, p.e.u = .slice a b c := by obtain ⟨a, b, h, _⟩ := hok.2.1.len; exact ⟨_, _, _, h⟩
          have HOn := Lib.hid (show ∀ W, ObSt w1 w.heap.size b ps (F ++ [zeroE p.e.nm]) (.slice (some ⟨g, 0, none⟩) (F.length + 1) cap) A W → p.e.Ok W A → ObSt w1 w.heap.size b ps (F ++ [p.e]) (.slice (some ⟨g, 0, none⟩) (F.length + 1) cap) A ((((W.setCell ⟨g, F.length * 5 + 1, none⟩ (.int .u8 p.e.k)).setCell ⟨g, F.length * 5 + 1 + 1, none⟩ (.string p.e.x)).setCell ⟨g, F.length * 5 + 1 + 2, none⟩ (.slice pv nv cv)).setCell ⟨g, F.length * 5 + 1 + 3, none⟩ (.slice pu nu cu)) from fun W hW hk => by
            have := hW.store p.e rfl hk
            rw [hpv, hpu] at this
            exact this)
          rw [hpv, hpu] at hce
          have hta1 := fun W => ta_val_s W #[.int .u8 p.e.k, .string p.e.x, .slice pv nv cv, .slice pu nu cu]
          have hta2 := fun W => ta_val_i W #[.int .u8 p.e.k, .string p.e.x, .slice pv nv cv, .slice pu nu cu]
          have hta3 := fun W => ta_val W #[.int .u8 p.e.k, .string p.e.x, .slice pv nv cv, .slice pu nu cu]
          have hB3 := (Below.refl wr.heap.size wr).alloc (Nat.le_refl _) (.cells #[.int .u8 p.e.k, .string p.e.x, .slice pv nv cv, .slice pu nu cu] 25)
          have H3 := Lib.hid (And.intro (hO.on hB3) (hok.below hB3))
          obtain ⟨_, _, he3, _, _, ⟨q0, q1, q2, q3⟩, hfz⟩ := obs_last H3.out.1
          cases he3
          clear hB3 hO hok ht hv hpv hpu
          go_wp2_with fail
          go_roundw
          case rel => exact ⟨i + 1, _, by go_num, by have := HL.out; omega, Lib.hid ⟨HOn.out _ H3.out.1 H3.out.2, .inl ⟨F.length + 1, by have := HI.out; omega, HPj.out.2.symm⟩⟩⟩
          case measure => have := HL.out; simp [RowKit.intOf]; omega
    · obtain ⟨hO, hrl⟩ := HR.out
      clear HR
      obtain rfl : i = nn := by omega
      have hfs : fs = fes ps := by
        rcases hrl with ⟨j, hj, rfl⟩ | ⟨j, p, hj, _⟩
        · rw [List.take_of_length_le (by unfold fes; simp; omega)]
        · omega
      subst hfs
      have hh := obs_hs hO (by unfold fes; simp; omega)
      have hbx := hO.box
      have HF := Lib.hid (And.intro hh (And.intro hbx (And.intro hO.below (And.intro hO.lt hO.aw))))
      obtain ⟨pu, cu, hpu, -⟩ := hh.len
      subst hpu
      obtain ⟨x0, x1, x2, x3⟩ := hbx.box
      have f0 := hbx.free 0
      have f1 := hbx.free 1
      have f2 := hbx.free 2
      have f3 := hbx.free 3
      clear hh hbx hO hrl
      generalize treeOf (fes ps) = T at *
      go_wp2_with fail
      obtain ⟨g1, g2, g3⟩ := HF.out.2.1.all (.int .u8 6) (.string ⟨#[]⟩) (.slice none 0 0) (.slice pu T.len cu)
      have hw3 := set4_else wr w.heap.size (.int .u8 6) (.string ⟨#[]⟩) (.slice none 0 0) (.slice pu T.len cu)
      have g3' := g3 w.heap.size (Nat.le_refl _)
      clear x0 x1 x2 x3 f0 f1 f2 f3
      generalize (((wr.setCell ⟨w.heap.size, 0, none⟩ (.int .u8 6)).setCell ⟨w.heap.size, 1, none⟩ (.string ⟨#[]⟩)).setCell ⟨w.heap.size, 2, none⟩ (.slice none 0 0)).setCell ⟨w.heap.size, 3, none⟩ (.slice pu T.len cu) = w3 at *
      obtain ⟨x0, x1, x2, x3⟩ := g1.box
      refine bodyPost_ret (v := .agg #[.int .u8 6, .string ⟨#[]⟩, .slice none 0 0, .slice pu T.len cu]) (by simp [results, Tryz.results107, go_sem, x0, x1, x2, x3]) rfl ?_
      have hz := HB.out.2.2
      have hk3 : ∀ k, (A k ∨ Fre w1.heap.size wr k) → k < wr.heap.size → w3.heap[k]? = wr.heap[k]? := fun k hk _ => hw3 k (by
        rcases hk with h | h
        · have := HP1.out.2.2.1 k h; omega
        · have := h.1; omega)
      exact ⟨_, rfl, HF.out.1.imp (fun k hk hlt => hk.imp id (fun h => h.imp (by have := h.1; omega) (hk3 k (.inr h) hlt))) hk3, (HB.out.2.1.trans (HF.out.2.2.1.mono HB.out.2.1.size)).trans g3'⟩
end Go.Proofs.YtbkciiogkgndiaaGreatDoor

namespace Go.Proofs.YtbkciiogkgndiaaGreatDoor
open Go

section
variable {P : Program} {ops : Array Oper} {Q : Exit → Act → World → Prop} {md : Region.Mode} {S : World → Prop} {zs : List Nat}

/-- all of these wait for i -/
def allB (md : Region.Mode) (ops : Array Oper) (zs : List Nat) (i : Nat) : Bool := zs.all fun z => (close md ops ops.size (deps md ops z)).contains i
theorem late_listed {listed : Array Bool} (hc : Closed md ops listed) {i j : Nat} (hl : allB md ops zs i = true) (hj : zs.contains j = true) (hr : j ∈ Region.ready md ops listed) : listed.getD i false = true := by
  have h := List.all_eq_true.1 hl j (by simpa using hj)
  exact close_listed hc _ _ (ready_deps hr) i (by simpa using h)
/-- whatever order is picked: S holds behind every operation but zs -/
def wpAnyL (P : Program) (md : Region.Mode) (ops : Array Oper) (Q : Exit → Act → World → Prop) (S : World → Prop) (zs : List Nat) : Nat → Array Bool → Act → World → Prop
  | 0, listed, a, w => Region.ready md ops listed = [] ∧ Q .normal a w
  | fuel + 1, listed, a, w =>
    (Region.ready md ops listed = [] → Q .normal a w) ∧
    ∀ i ∈ Region.ready md ops listed, wpOp P ops Q i (fun a' w' => (zs.contains i = false → S w') ∧ wpAnyL P md ops Q S zs fuel (listed.setIfInBounds i true) a' w') a w
theorem wpAny_of_L : ∀ (fuel : Nat) (listed : Array Bool) (a : Act) (w : World), wpAnyL P md ops Q S zs fuel listed a w → wpAny P md ops Q fuel listed a w
  | 0, _, _, _, h => h
  | fuel + 1, _, _, _, h => ⟨h.1, fun i hi => wpOp_mono (fun a' w' h' => wpAny_of_L fuel _ a' w' h'.2) (h.2 i hi)⟩
theorem wpAnyL_first {i : Nat} {oi : Oper} {v : Value} (hi : ops[i]? = some oi) (hsel : ∀ (j : Nat) (o : Oper) cs b, ops[j]? = some o → o.op ≠ .select cs b)
    (hQ : ∀ c a w, Q (.panic c) (a.put oi.dst v) w → Q (.panic c) a w) (hl : allB md ops zs i = true) :
    ∀ (fuel : Nat) (listed : Array Bool) (a : Act) (w : World),
      (∀ j oj, ops[j]? = some oj → j ≠ i → listed.getD j true = false → (∀ e ∈ oj.after, Region.binds md e = true → e.on ≠ i) → oi.apart ops oj = true) →
      i ∈ Region.ready md ops listed → YieldsIf P ops S oi v a → S w → Closed md ops listed →
      wpAnyL P md ops Q S zs fuel (listed.setIfInBounds i true) (a.put oi.dst v) w → wpAnyL P md ops Q S zs (fuel + 1) listed a w := by
  intro fuel
  induction fuel with
  | zero =>
    intro listed a w _ hr hy hS _ H
    refine ⟨fun h => (by rw [h] at hr; cases hr), fun j hj => ?_⟩
    by_cases hji : j = i
    · subst hji; exact hy.wpOp hi hS ⟨fun _ => hS, H⟩
    · have := ready_mono hj hji
      rw [H.1] at this
      cases this
  | succ fuel ih =>
    intro listed a w hfree hr hy hS hc H
    refine ⟨fun h => (by rw [h] at hr; cases hr), fun j hj => ?_⟩
    by_cases hji : j = i
    · subst hji; exact hy.wpOp hi hS ⟨fun _ => hS, H⟩
    · have h1 := H.2 j (ready_mono hj hji)
      obtain ⟨hjun, oj, hoj, hall⟩ := mem_ready.1 hj
      have hilt : i < ops.size := (Array.getElem?_eq_some_iff.1 hi).1
      have hun := (mem_ready.1 hr).1
      have hnl : listed.getD i false = false := by
        rcases Nat.lt_or_ge i listed.size with h' | h'
        · simp [h'] at hun ⊢; exact hun
        · simp [Array.getElem?_eq_none h'] at hun
      have hjz : zs.contains j = false := by
        cases hz : zs.contains j
        · rfl
        · have := late_listed hc hl hz hj
          rw [hnl] at this
          cases this
      have hnot : ∀ e ∈ oj.after, Region.binds md e = true → e.on ≠ i := fun e he hb heq => by
        have h1 := hall e he hb
        rw [heq, hnl] at h1
        cases h1
      have h2 := wpOp_putIf hoj (hfree j oj hoj hji hjun hnot) (fun cs b => hsel i oi cs b hi) (fun cs b => hsel j oj cs b hoj) hQ hy h1
      have hfree' : ∀ k ok, ops[k]? = some ok → k ≠ i → (listed.setIfInBounds j true).getD k true = false →
          (∀ e ∈ ok.after, Region.binds md e = true → e.on ≠ i) → oi.apart ops ok = true := fun k ok hk hki hun hno => by
        refine hfree k ok hk hki ?_ hno
        by_cases hjk : j = k
        · subst hjk; exact hjun
        · rw [getD_set_ne true hjk] at hun; exact hun
      refine wpOp_mono (fun a' w' h3 => ⟨fun _ => h3.2.1 hjz, ih (listed.setIfInBounds j true) a' w' hfree' (ready_mono hr (Ne.symm hji)) h3.1 (h3.2.1 hjz) (closed_set hc hj) ?_⟩) h2
      rw [Array.setIfInBounds_comm _ _ hji]
      exact h3.2.2
/-- the beginning -/
theorem wp_region_late {id : Nat} {a : Act} {w : World} (hm : P.follows .mixedOrders = true)
    (h : wpAnyL P .any ops Q S zs ops.size (Array.replicate ops.size false) a w.drew) : (Code.region id ops true).wp P Q a w :=
  wp_region_any hm (wpAny_of_L _ _ _ _ h)
/-- an operation that yields its value in every world that meets S is taken first -/
theorem wpAnyL_take (i : Nat) {oi : Oper} {v : Value} {fuel : Nat} {listed : Array Bool} {a : Act} {w : World} (hi : ops[i]? = some oi)
    (hs : Region.noSelect ops = true) (hf : Region.free md ops listed i = true) (hr : (Region.ready md ops listed).contains i = true)
    (hQ : ∀ c a w, Q (.panic c) (a.put oi.dst v) w → Q (.panic c) a w) (hl : allB md ops zs i = true) (hc : closedB md ops listed = true) (hS : S w)
    (hw : Region.wanted oi (yielded ops a.tmps) = true) (hy : ∀ w, S w → (execOp a.eval oi).run P w = .ok (.value v) w)
    (h : wpAnyL P md ops Q S zs fuel (listed.setIfInBounds i true) (a.put oi.dst v) w) : wpAnyL P md ops Q S zs (fuel + 1) listed a w :=
  wpAnyL_first hi (Region.noSelect_spec hs) hQ hl fuel listed a w (Region.free_spec hi hf) (by simpa using hr) (.inl ⟨hw, hy⟩) hS (closed_of hc) h
/-- one operation, carried out: what is to be shown of it -/
def OneL (P : Program) (md : Region.Mode) (ops : Array Oper) (Q : Exit → Act → World → Prop) (S : World → Prop) (zs : List Nat) (fuel : Nat) (listed : Array Bool) (i : Nat) (o : Oper) (a : Act) (w : World) : Prop :=
  ∀ K' : Act → World → Prop, Shut (∀ a w, (zs.contains i = false → S w) → wpAnyL P md ops Q S zs fuel (listed.setIfInBounds i true) a w → K' a w) → if Region.wanted o (yielded ops a.tmps) = true then Oper.wp P o a w K' Q else K' (a.put o.dst undef) w
theorem OneL.wp {fuel : Nat} {listed : Array Bool} {i : Nat} {o : Oper} {a : Act} {w : World} (ho : ops[i]? = some o) (h : OneL P md ops Q S zs fuel listed i o a w) :
    wpOp P ops Q i (fun a' w' => (zs.contains i = false → S w') ∧ wpAnyL P md ops Q S zs fuel (listed.setIfInBounds i true) a' w') a w :=
  wpOp_step ho (fun K' hK => h K' (fun a w hS hW => hK a w ⟨hS, hW⟩))
/-- the one operation that may come up is carried out -/
theorem wpAnyL_op (i : Nat) {o : Oper} {fuel : Nat} {listed : Array Bool} {a : Act} {w : World} (hr : Region.ready md ops listed = [i]) (ho : ops[i]? = some o)
    (h : OneL P md ops Q S zs fuel listed i o a w) : wpAnyL P md ops Q S zs (fuel + 1) listed a w :=
  ⟨(fun h0 => by rw [hr] at h0; cases h0), fun j hj => by
    rw [hr] at hj
    obtain rfl := List.mem_singleton.1 hj
    exact h.wp ho⟩
/-- either of two may come up -/
theorem wpAnyL_two (i j : Nat) {o o' : Oper} {fuel : Nat} {listed : Array Bool} {a : Act} {w : World} (hr : Region.ready md ops listed = [i, j]) (ho : ops[i]? = some o) (ho' : ops[j]? = some o')
    (h : OneL P md ops Q S zs fuel listed i o a w) (h' : OneL P md ops Q S zs fuel listed j o' a w) : wpAnyL P md ops Q S zs (fuel + 1) listed a w :=
  ⟨(fun h0 => by rw [hr] at h0; cases h0), fun k hk => by
    rw [hr] at hk
    rcases List.mem_cons.1 hk with rfl | hk
    · exact h.wp ho
    · obtain rfl := List.mem_singleton.1 hk
      exact h'.wp ho'⟩
/-- none is left -/
theorem wpAnyL_end {fuel : Nat} {listed : Array Bool} {a : Act} {w : World} (hr : Region.ready md ops listed = []) (h : Q .normal a w) : wpAnyL P md ops Q S zs fuel listed a w := by
  cases fuel with
  | zero => exact ⟨hr, h⟩
  | succ f => exact ⟨fun _ => h, by rw [hr]; simp⟩
end
end Go.Proofs.YtbkciiogkgndiaaGreatDoor
