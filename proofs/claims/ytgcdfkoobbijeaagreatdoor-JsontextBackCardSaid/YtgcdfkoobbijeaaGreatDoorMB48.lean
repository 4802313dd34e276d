/- The chapter's examples hold: awake of the writer's statements answers true. Conditions: the library's two tables as its text lays them. -/
import Derived.Test.YtgcdfkoobbijeaaGreatDoorMB46
import Derived.Test.YtgcdfkoobbijeaaGreatDoorMB47
import Derived.Test.YtgcdfkoobbijeaaGreatDoorMB21
namespace Go.Proofs.YtgcdfkoobbijeaaGreatDoor
open Go Go.RowKit Go.Shelf Go.Lib

def awL : V.T := .cons ⟨#[]⟩ 3 ⟨#[49]⟩ .nil .nil (.cons ⟨#[]⟩ 0 ⟨#[]⟩ .nil .nil .nil)
def awF : V.T := .cons ⟨#[97]⟩ 5 ⟨#[]⟩ awL .nil (.cons ⟨#[195, 169]⟩ 4 ⟨#[34, 10, 1, 127]⟩ .nil .nil .nil)
def awS : ByteArray := ⟨#[123, 34, 97, 34, 58, 91, 49, 44, 110, 117, 108, 108, 93, 44, 34, 195, 169, 34, 58, 34, 92, 34, 92, 110, 92, 117, 48, 48, 48, 49, 127, 34, 125]⟩
theorem aw1 : prn 6 ⟨#[]⟩ .nil awF = (awS, 0) := by kernel_rfl
theorem aw2 : prn 3 ⟨#[48, 49]⟩ .nil .nil = (⟨#[]⟩, 40) := by kernel_rfl
theorem aw3 : bothS (ciS ⟨#[45, 49, 50]⟩) = true := by kernel_rfl
theorem aw4 : Lib.atoiAll (⟨#[45, 49, 50]⟩ : ByteArray).data.toList = .ok (-12) := by kernel_rfl
theorem aw5 : bothS (ciS ⟨#[49, 46, 48]⟩) = false := by kernel_rfl
theorem aw6 : (⟨(qL ⟨#[97, 92, 98, 255]⟩).toArray⟩ : ByteArray) = ⟨#[34, 97, 92, 92, 98, 239, 191, 189, 34]⟩ := by kernel_rfl
/-- a row that is known whole -/
theorem row_at {W : World} {g : Nat} {cur : Array Value} {t : TypeId} (h : W.heap[g]? = some (.cells cur t (0, 0))) (j : Nat) (v : Value) (hv : cur[j]? = some v) : W.cell? ⟨g, j, none⟩ = some v := (cell_of_row W g j cur t (0, 0) h).trans hv
theorem aw_list {W : World} {g : Nat} {t : TypeId} (h : W.heap[g]? = some (.cells #[.int .u8 3, .string ⟨#[49]⟩, .slice none 0 0, .slice none 0 0, .int .u8 0, .string ⟨#[]⟩, .slice none 0 0, .slice none 0 0] t (0, 0))) : HS W (fun _ => True) 0 (.slice (some ⟨g, 0, none⟩) 2 2) awL :=
  .inr (.inr ⟨g, 0, 2, rfl, Nat.le_refl _, ⟨by decide, by decide⟩, trivial, fun _ => rfl, (fun e => by cases e), row_at h 0 _ rfl, row_at h 1 _ rfl, ⟨_, row_at h 2 _ rfl, .inl ⟨rfl, rfl⟩⟩, ⟨_, row_at h 3 _ rfl, .inl ⟨rfl, rfl⟩⟩, ⟨by decide, by decide, by decide⟩,
    trivial, fun _ => rfl, (fun e => by cases e), row_at h 4 _ rfl, row_at h 5 _ rfl, ⟨_, row_at h 6 _ rfl, .inl ⟨rfl, rfl⟩⟩, ⟨_, row_at h 7 _ rfl, .inl ⟨rfl, rfl⟩⟩, ⟨by decide, by decide, by decide⟩, trivial⟩)
theorem aw_fields {W : World} {g g2 : Nat} {t t2 : TypeId} (hl : W.heap[g2]? = some (.cells #[.int .u8 3, .string ⟨#[49]⟩, .slice none 0 0, .slice none 0 0, .int .u8 0, .string ⟨#[]⟩, .slice none 0 0, .slice none 0 0] t2 (0, 0)))
    (h : W.heap[g]? = some (.cells #[.string ⟨#[97]⟩, .int .u8 5, .string ⟨#[]⟩, .slice (some ⟨g2, 0, none⟩) 2 2, .slice none 0 0, .string ⟨#[195, 169]⟩, .int .u8 4, .string ⟨#[34, 10, 1, 127]⟩, .slice none 0 0, .slice none 0 0] t (0, 0))) : HS W (fun _ => True) 1 (.slice (some ⟨g, 0, none⟩) 2 2) awF :=
  .inr (.inr ⟨g, 0, 2, rfl, Nat.le_refl _, ⟨by decide, by decide⟩, trivial, (fun e => by cases e), fun _ => row_at h 0 _ rfl, row_at h 1 _ rfl, row_at h 2 _ rfl, ⟨_, row_at h 3 _ rfl, aw_list hl⟩, ⟨_, row_at h 4 _ rfl, .inl ⟨rfl, rfl⟩⟩, ⟨by decide, by decide, by decide⟩,
    trivial, (fun e => by cases e), fun _ => row_at h 5 _ rfl, row_at h 6 _ rfl, row_at h 7 _ rfl, ⟨_, row_at h 8 _ rfl, .inl ⟨rfl, rfl⟩⟩, ⟨_, row_at h 9 _ rfl, .inl ⟨rfl, rfl⟩⟩, ⟨by decide, by decide, by decide⟩, trivial⟩)
def TrueIs (w : World) (e : Ending) (w' : World) : Prop := e = .returned (.bool true) ∧ Below w.heap.size w w'

set_option maxHeartbeats 2000000 in
set_option maxRecDepth 100000 in
theorem awake4_any (w : World) (hT : Tabs w) : Calls Tryz.prog 19 #[] w (TrueIs w) := by
  have h1 := fun (W : World) (p : Value) (h : HS W (fun _ => True) 1 p awF) (hW : Tabs W) => print_any 6 ⟨#[]⟩ (.slice none 0 0) p .nil awF (fun _ => True) W (gv_of (HS.nil _ _ _) h (by decide) (.inr ⟨by decide, by decide⟩)) hW
  have h2 := fun (W : World) (hW : Tabs W) => print_any 3 ⟨#[48, 49]⟩ (.slice none 0 0) (.slice none 0 0) .nil .nil (fun _ => True) W (gv_of (HS.nil _ _ _) (HS.nil _ _ _) (by decide) (.inl ⟨rfl, by decide⟩)) hW
  have h3 := fun (W : World) => int_some ⟨#[45, 49, 50]⟩ (.slice none 0 0) (.slice none 0 0) (-12) W (by decide) aw3 aw4
  have h4 := fun (W : World) => int_text ⟨#[49, 46, 48]⟩ (.slice none 0 0) (.slice none 0 0) W (by decide) aw5
  have h5 := fun (W : World) => quote_any ⟨#[97, 92, 98, 255]⟩ W (by decide)
  rw [aw1] at h1
  rw [aw2] at h2
  simp only [aw6] at h5
  have HT := Lib.hid hT
  have H1 := Lib.hid h1
  have H2 := Lib.hid h2
  have H3 := Lib.hid h3
  have H4 := Lib.hid h4
  have H5 := Lib.hid h5
  clear hT h1 h2 h3 h4 h5
  go_enter Tryz.func19, Tryz.ntmps19
  go_wp2_with fail
  have hn := two_new w (.cells #[.int .u8 3, .string ⟨#[49]⟩, .slice none 0 0, .slice none 0 0, .int .u8 0, .string ⟨#[]⟩, .slice none 0 0, .slice none 0 0] 25) (.cells #[.string ⟨#[97]⟩, .int .u8 5, .string ⟨#[]⟩, .slice (some ⟨w.heap.size, 0, none⟩) 2 2, .slice none 0 0, .string ⟨#[195, 169]⟩, .int .u8 4, .string ⟨#[34, 10, 1, 127]⟩, .slice none 0 0, .slice none 0 0] 58)
  have hz := two_size w (.cells #[.int .u8 3, .string ⟨#[49]⟩, .slice none 0 0, .slice none 0 0, .int .u8 0, .string ⟨#[]⟩, .slice none 0 0, .slice none 0 0] 25) (.cells #[.string ⟨#[97]⟩, .int .u8 5, .string ⟨#[]⟩, .slice (some ⟨w.heap.size, 0, none⟩) 2 2, .slice none 0 0, .string ⟨#[195, 169]⟩, .int .u8 4, .string ⟨#[34, 10, 1, 127]⟩, .slice none 0 0, .slice none 0 0] 58)
  have hX := (Below.heap_alloc ((w.alloc (.cells #[.int .u8 3, .string ⟨#[49]⟩, .slice none 0 0, .slice none 0 0, .int .u8 0, .string ⟨#[]⟩, .slice none 0 0, .slice none 0 0] 25)).alloc (.cells #[.string ⟨#[97]⟩, .int .u8 5, .string ⟨#[]⟩, .slice (some ⟨w.heap.size, 0, none⟩) 2 2, .slice none 0 0, .string ⟨#[195, 169]⟩, .int .u8 4, .string ⟨#[34, 10, 1, 127]⟩, .slice none 0 0, .slice none 0 0] 58)) (.cells #[.int .u8 6, .string ⟨#[]⟩, .slice none 0 0, .slice (some ⟨w.heap.size + 1, 0, none⟩) 2 2] 25) w.heap.size (by rw [hz]; omega)).trans hn.1
  have hY := (Below.heap_alloc ((w.alloc (.cells #[.int .u8 3, .string ⟨#[49]⟩, .slice none 0 0, .slice none 0 0, .int .u8 0, .string ⟨#[]⟩, .slice none 0 0, .slice none 0 0] 25)).alloc (.cells #[.string ⟨#[97]⟩, .int .u8 5, .string ⟨#[]⟩, .slice (some ⟨w.heap.size, 0, none⟩) 2 2, .slice none 0 0, .string ⟨#[195, 169]⟩, .int .u8 4, .string ⟨#[34, 10, 1, 127]⟩, .slice none 0 0, .slice none 0 0] 58)) (.cells #[.int .u8 6, .string ⟨#[]⟩, .slice none 0 0, .slice (some ⟨w.heap.size + 1, 0, none⟩) 2 2] 25) (w.heap.size + 1) (by rw [hz]; omega)).trans hn.2
  have hB := (two_below w (.cells #[.int .u8 3, .string ⟨#[49]⟩, .slice none 0 0, .slice none 0 0, .int .u8 0, .string ⟨#[]⟩, .slice none 0 0, .slice none 0 0] 25) (.cells #[.string ⟨#[97]⟩, .int .u8 5, .string ⟨#[]⟩, .slice (some ⟨w.heap.size, 0, none⟩) 2 2, .slice none 0 0, .string ⟨#[195, 169]⟩, .int .u8 4, .string ⟨#[34, 10, 1, 127]⟩, .slice none 0 0, .slice none 0 0] 58)).alloc (by rw [hz]; omega) (.cells #[.int .u8 6, .string ⟨#[]⟩, .slice none 0 0, .slice (some ⟨w.heap.size + 1, 0, none⟩) 2 2] 25)
  clear hn hz
  have HB := Lib.hid hB
  have HX := Lib.hid (aw_fields hX hY)
  clear hX hY hB
  generalize ((w.alloc (.cells #[.int .u8 3, .string ⟨#[49]⟩, .slice none 0 0, .slice none 0 0, .int .u8 0, .string ⟨#[]⟩, .slice none 0 0, .slice none 0 0] 25)).alloc (.cells #[.string ⟨#[97]⟩, .int .u8 5, .string ⟨#[]⟩, .slice (some ⟨w.heap.size, 0, none⟩) 2 2, .slice none 0 0, .string ⟨#[195, 169]⟩, .int .u8 4, .string ⟨#[34, 10, 1, 127]⟩, .slice none 0 0, .slice none 0 0] 58)).alloc (.cells #[.int .u8 6, .string ⟨#[]⟩, .slice none 0 0, .slice (some ⟨w.heap.size + 1, 0, none⟩) 2 2] 25) = W0 at *
  refine (H1.out W0 _ HX.out (tabs_below HT.out HB.out)).mono ?_
  rintro e w1 ⟨rfl, hB1⟩
  have G1 := Lib.hid (HB.out.trans (hB1.mono HB.out.size))
  clear hB1
  go_wp2_with fail
  refine (H2.out _ (tabs_below HT.out G1.out)).mono ?_
  rintro e w2 ⟨rfl, hB2⟩
  have G2 := Lib.hid (G1.out.trans (hB2.mono G1.out.size))
  clear hB2
  go_wp2_with fail
  refine (H3.out _).mono ?_
  rintro e w3 ⟨rfl, hB3⟩
  have G3 := Lib.hid (G2.out.trans (hB3.mono G2.out.size))
  clear hB3
  go_wp2_with fail
  refine (H4.out _).mono ?_
  rintro e w4 ⟨rfl, hB4⟩
  have G4 := Lib.hid (G3.out.trans (hB4.mono G3.out.size))
  clear hB4
  unfold awS
  go_wp2_with fail
  refine (H5.out _).mono ?_
  rintro e w5 ⟨rfl, hB5⟩
  have G5 := Lib.hid (G4.out.trans (hB5.mono G4.out.size))
  clear hB5
  go_wp2_with fail
  go_ret
  exact ⟨rfl, G5.out⟩
end Go.Proofs.YtgcdfkoobbijeaaGreatDoor

namespace Go.Proofs.YtgcdfkoobbijeaaGreatDoor
open Go Go.RowKit Go.Shelf Go.Lib

/-- where the law stands: the value's box -/
structure BkSt (w : World) (ka : Nat) (xa : ByteArray) (va ua : Value) (W : World) : Prop where
  below : Below w.heap.size w W
  b1 : Blk4 W w.heap.size 25 (.int .u8 ka) (.string xa) va ua
theorem BkSt.on {w : World} {ka : Nat} {xa : ByteArray} {va ua : Value} {W W' : World} (h : BkSt w ka xa va ua W) (hB : Below W.heap.size W W') : BkSt w ka xa va ua W' :=
  ⟨h.below.trans (hB.mono h.below.size), h.b1.same (hB.block _ h.b1.lt)⟩
/-- a value that was read, in its box -/
structure RdSt (g : Nat) (k : Nat) (x : ByteArray) (v u : Value) (l f : V.T) (W : World) : Prop where
  hl : HS W (fun _ => True) 0 v l
  hf : HS W (fun _ => True) 1 u f
  b : Blk4 W g 25 (.int .u8 k) (.string x) v u
theorem RdSt.on {g : Nat} {k : Nat} {x : ByteArray} {v u : Value} {l f : V.T} {W W' : World} (h : RdSt g k x v u l f W) (hB : Below W.heap.size W W') : RdSt g k x v u l f W' :=
  ⟨h.hl.below hB, h.hf.below hB, h.b.same (hB.block _ h.b.lt)⟩
theorem RdSt.new {w1 : World} {B : Nat} {k : Nat} {x : ByteArray} {v u : Value} {l f : V.T} (hl : HS w1 (fun b => B ≤ b) 0 v l) (hf : HS w1 (fun b => B ≤ b) 1 u f) : RdSt w1.heap.size k x v u l f (w1.alloc (.cells #[.int .u8 k, .string x, v, u] 25)) :=
  ⟨(hl.mono (fun _ _ _ => trivial)).alloc _, (hf.mono (fun _ _ _ => trivial)).alloc _, heap_alloc_new _ _⟩
theorem prn_cases (k : Nat) (x : ByteArray) (l f : V.T) : (mayV k x l f 0 = true ∧ (wrV k x l f).length ≤ 262144 ∧ prn k x l f = (⟨(wrV k x l f).toArray⟩, 0)) ∨ (mayV k x l f 0 = true ∧ prn k x l f = (⟨#[]⟩, 3)) ∨ (mayV k x l f 0 = false ∧ prn k x l f = (⟨#[]⟩, 40)) := by
  unfold prn
  cases hm : mayV k x l f 0
  · exact .inr (.inr ⟨rfl, if_neg (by decide)⟩)
  · rw [if_pos rfl]
    by_cases hl : 262144 < (wrV k x l f).length
    · exact .inr (.inl ⟨rfl, if_pos hl⟩)
    · exact .inl ⟨rfl, by omega, if_neg hl⟩
set_option maxHeartbeats 4000000 in
set_option maxRecDepth 100000 in
theorem backLaw_any (ka : Nat) (xa : ByteArray) (va ua : Value) (la fa : V.T) (text : ByteArray) (w : World) (hka : ka < 256) (hxa : xa.size ≤ 140737488355328) (hva : HS w (fun _ => True) 0 va la) (hua : HS w (fun _ => True) 1 ua fa) (_htx : text.size ≤ 9223372036854775807) (hT : Tabs w) :
    Calls Tryz.prog 4 #[.agg #[.int .u8 ka, .string xa, va, ua], .string text] w (TrueIs w) := by
  have hn1 := nn_of la 0 hva.fi
  have hn2 := nn_of fa 1 hua.fi
  have S0 : BkSt w ka xa va ua (w.alloc (.cells #[.int .u8 ka, .string xa, va, ua] 25)) := ⟨(Below.refl _ _).alloc (Nat.le_refl _) _, heap_alloc_new _ _⟩
  have AW := fun W (h : BkSt w ka xa va ua W) => awake4_any W (tabs_below hT h.below)
  have GA := fun W (h : BkSt w ka xa va ua W) => great4_any ka xa va ua la fa _ W hxa (hva.below h.below) (hua.below h.below)
  have PA := fun W (h : BkSt w ka xa va ua W) (hf : Fine4 xa la fa) => print_any ka xa va ua la fa _ W (gv_of (hva.below h.below) (hua.below h.below) hka hf) (tabs_below hT h.below)
  have MA := fun W (h : BkSt w ka xa va ua W) (hf : Fine4 xa la fa) => may_any ka xa va ua la fa _ W (gv_of (hva.below h.below) (hua.below h.below) hka hf) (tabs_below hT h.below)
  have SA := fun W (h : BkSt w ka xa va ua W) (v2 u2 : Value) (A2 : Nat → Prop) (h2 : HS W A2 0 v2 la) (h3 : HS W A2 1 u2 fa) => same_any (la.size + fa.size + 1) ka xa va ua la fa ka xa v2 u2 la fa _ A2 W (Nat.lt_succ_self _) (hva.below h.below) (hua.below h.below) h2 h3
  have PT := fun (s : ByteArray) W (h : BkSt w ka xa va ua W) (hs : s.size ≤ 262144) => Parse_any s W (by omega) (tabs_below hT h.below)
  have TB := Lib.hid (fun W (h : BkSt w ka xa va ua W) => tabs_below hT h.below)
  simp only [V.veq_self] at SA
  have HC := Lib.hid (prn_cases ka xa la fa)
  have HN := Lib.hid (And.intro hn1 hn2)
  obtain ⟨pa, ca, rfl, -⟩ := hva.len
  obtain ⟨qa, da, rfl, -⟩ := hua.len
  have H0 := Lib.hid S0
  have HAW := Lib.hid AW
  have HGA := Lib.hid GA
  have HPA := Lib.hid PA
  have HMA := Lib.hid MA
  have HSA := Lib.hid SA
  have HPT := Lib.hid PT
  clear S0 AW GA PA MA SA PT hva hua hT hn1 hn2
  go_enter Tryz.func4, Tryz.ntmps4
  go_wp2_with fail
  generalize w.alloc (.cells #[.int .u8 ka, .string xa, .slice pa la.len ca, .slice qa fa.len da] 25) = W0 at *
  refine (HAW.out _ H0.out).mono ?_
  rintro e w1 ⟨rfl, hB1⟩
  have H1 := Lib.hid (H0.out.on hB1)
  obtain ⟨c0, c1, c2, c3⟩ := H1.out.b1.box
  clear hB1
  go_wp2_with fail
  refine (HGA.out _ H1.out).mono ?_
  rintro e w2 ⟨b1, rfl, hg1, hB2⟩
  have H2 := Lib.hid (H1.out.on hB2)
  clear hB2 c0 c1 c2 c3
  cases b1
  case true =>
    clear hg1
    go_wp2_with fail
    go_ret
    exact ⟨rfl, H2.out.below⟩
  case false =>
  have F1 := Lib.hid (hg1 rfl)
  clear hg1
  by_cases htl : 20000 < text.size
  · have tl : decide ((20000 : Int) < (text.size : Int)) = true := decide_eq_true (by omega)
    clear htl
    go_wp2_with fail
    go_ret
    exact ⟨rfl, H2.out.below⟩
  have tl : decide ((20000 : Int) < (text.size : Int)) = false := decide_eq_false (by omega)
  have HTX := Lib.hid (show text.size ≤ 20000 by omega)
  obtain ⟨c0, c1, c2, c3⟩ := H2.out.b1.box
  clear htl
  go_wp2_with fail
  refine (HPA.out _ H2.out F1.out).mono ?_
  rintro e w3 ⟨rfl, hB3⟩
  have H3 := Lib.hid (H2.out.on hB3)
  clear hB3 c0 c1 c2 c3
  obtain ⟨c0, c1, c2, c3⟩ := H3.out.b1.box
  clear tl
  generalize hpr : prn ka xa la fa = r at *
  have HPR := Lib.hid hpr
  clear hpr
  go_upto_if 35 with fail
  go_cut [] (fun wx => Hid (BkSt w ka xa (.slice pa la.len ca) (.slice qa fa.len da) wx))
  case first =>
    rcases HC.out with ⟨m1, m2, m3⟩ | ⟨m1, m3⟩ | ⟨m1, m3⟩
    · have hps := back_whole m1 HN.out.1 HN.out.2 m2
      have hsz : (⟨(wrV ka xa la fa).toArray⟩ : ByteArray).size ≤ 262144 := by show (wrV ka xa la fa).toArray.size ≤ _; rw [List.size_toArray]; exact m2
      have hr := m3
      clear HPR
      generalize (⟨(wrV ka xa la fa).toArray⟩ : ByteArray) = s at *
      obtain rfl := hr
      have hp := HPT.out s w3 H3.out hsz
      rw [hps] at hp
      have HP := Lib.hid hp
      clear m1 m2 m3 hps hsz hp
      go_wp2_with fail
      refine HP.out.mono ?_
      rintro e w4 ⟨v4, u4, rfl, hl4, hf4, -, hB4⟩
      dsimp only at hl4 hf4
      obtain ⟨p4, q4, rfl, -⟩ := hl4.len
      obtain ⟨p5, q5, rfl, -⟩ := hf4.len
      have hR := RdSt.new (k := ka) (x := xa) hl4 hf4
      have hBa := (Below.refl w4.heap.size w4).alloc (Nat.le_refl _) (.cells #[.int .u8 ka, .string xa, .slice p4 la.len q4, .slice p5 fa.len q5] 25)
      have hS := (H3.out.on hB4).on hBa
      have HR := Lib.hid hR
      have HS4 := Lib.hid hS
      obtain ⟨d0, d1, d2, d3⟩ := hS.b1.box
      obtain ⟨e0, e1, e2, e3⟩ := hR.b.box
      clear hl4 hf4 hB4 hR hBa hS c0 c1 c2 c3
      go_wp2_with fail
      refine (HSA.out _ HS4.out _ _ _ HR.out.hl HR.out.hf).mono ?_
      rintro e w5 ⟨rfl, hB5⟩
      have H5 := Lib.hid (HS4.out.on hB5)
      clear hB5 d0 d1 d2 d3 e0 e1 e2 e3
      go_wp2_with fail
      go_meet
      exact H5
    · have hr := m3
      clear HPR
      obtain rfl := hr
      have hm := HMA.out w3 H3.out F1.out
      rw [m1] at hm
      have HM := Lib.hid hm
      clear m1 m3 hm
      go_wp2_with fail
      refine HM.out.mono ?_
      rintro e w4 ⟨rfl, hB4⟩
      have H4 := Lib.hid (H3.out.on hB4)
      clear hB4 c0 c1 c2 c3
      go_wp2_with fail
      go_meet
      exact H4
    · have hr := m3
      clear HPR
      obtain rfl := hr
      have hm := HMA.out w3 H3.out F1.out
      rw [m1] at hm
      have HM := Lib.hid hm
      clear m1 m3 hm
      go_wp2_with fail
      refine HM.out.mono ?_
      rintro e w4 ⟨rfl, hB4⟩
      have H4 := Lib.hid (H3.out.on hB4)
      clear hB4 c0 c1 c2 c3
      go_wp2_with fail
      go_meet
      exact H4
  case rest =>
  have HX := hcut
  clear H0 H1 H2 H3 c0 c1 c2 c3 hcut
  have hp := HPT.out text wc HX.out (by have := HTX.out; omega)
  have hrb := fun h => read_back (s := text) HTX.out h
  generalize prsAll text = pr at *
  have HP := Lib.hid hp
  have HRB := Lib.hid hrb
  clear hp hrb
  go_wp2_with fail
  refine HP.out.mono ?_
  rintro e w4 ⟨v4, u4, rfl, hl4, hf4, -, hB4⟩
  obtain ⟨⟨k4, x4, l4, f4⟩, n1, n2⟩ := pr
  dsimp only at hl4 hf4
  obtain ⟨p4, q4, rfl, -⟩ := hl4.len
  obtain ⟨p5, q5, rfl, -⟩ := hf4.len
  have hR := RdSt.new (k := k4) (x := x4) hl4 hf4
  have hBa := (Below.refl w4.heap.size w4).alloc (Nat.le_refl _) (.cells #[.int .u8 k4, .string x4, .slice p4 l4.len q4, .slice p5 f4.len q5] 25)
  have HS4 := Lib.hid ((HX.out.on hB4).on hBa)
  have HR := Lib.hid hR
  obtain ⟨e0, e1, e2, e3⟩ := hR.b.box
  clear hl4 hf4 hB4 hR hBa
  by_cases hz : n2 = 0
  · subst hz
    obtain ⟨b1, b2, b3, b4⟩ := HRB.out rfl
    dsimp only at b1 b2 b3 b4
    have hz1 : (⟨(wrV k4 x4 l4 f4).toArray⟩ : ByteArray).size ≤ 262144 := by show (wrV k4 x4 l4 f4).toArray.size ≤ _; rw [List.size_toArray]; omega
    have PX := Lib.hid (fun W (h : RdSt w4.heap.size k4 x4 (.slice p4 l4.len q4) (.slice p5 f4.len q5) l4 f4 W) (h2 : BkSt w ka xa (.slice pa la.len ca) (.slice qa fa.len da) W) => print_any k4 x4 _ _ l4 f4 _ W (gv_read h.hl h.hf b1.1 b1.2.1 b1.2.2 (by omega)) (TB.out W h2))
    have MX := Lib.hid (fun W (h : RdSt w4.heap.size k4 x4 (.slice p4 l4.len q4) (.slice p5 f4.len q5) l4 f4 W) (h2 : BkSt w ka xa (.slice pa la.len ca) (.slice qa fa.len da) W) => may_any k4 x4 _ _ l4 f4 _ W (gv_read h.hl h.hf b1.1 b1.2.1 b1.2.2 (by omega)) (TB.out W h2))
    have PY := Lib.hid (fun W (g : Nat) (v u : Value) (h : RdSt g k4 x4 v u l4 f4 W) (h2 : BkSt w ka xa (.slice pa la.len ca) (.slice qa fa.len da) W) => print_any k4 x4 _ _ l4 f4 _ W (gv_read h.hl h.hf b1.1 b1.2.1 b1.2.2 (by omega)) (TB.out W h2))
    have SX := Lib.hid (fun W (g : Nat) (v u : Value) (h : RdSt w4.heap.size k4 x4 (.slice p4 l4.len q4) (.slice p5 f4.len q5) l4 f4 W) (h2 : RdSt g k4 x4 v u l4 f4 W) => same_any (l4.size + f4.size + 1) k4 x4 _ _ l4 f4 k4 x4 _ _ l4 f4 _ _ W (Nat.lt_succ_self _) h.hl h.hf h2.hl h2.hf)
    have hPX := PX.out
    have hMX := MX.out
    have hPY := PY.out
    have hSX := SX.out
    rw [b3] at hPX hPY
    rw [b1.1] at hMX
    simp only [V.veq_self] at hSX
    have hPS := fun W (h : BkSt w ka xa (.slice pa la.len ca) (.slice qa fa.len da) W) => HPT.out _ W h hz1
    rw [b4] at hPS
    generalize (⟨(wrV k4 x4 l4 f4).toArray⟩ : ByteArray) = t at *
    have GPX := Lib.hid hPX
    have GMX := Lib.hid hMX
    have GPY := Lib.hid hPY
    have GSX := Lib.hid hSX
    have GPS := Lib.hid hPS
    clear PX MX PY SX hPX hMX hPY hSX hPS b1 b2 b3 b4 hz1 HRB HP
    go_wp2_with fail
    refine (GPX.out _ HR.out HS4.out).mono ?_
    rintro e w5 ⟨rfl, hB5⟩
    have HR5 := Lib.hid (HR.out.on hB5)
    have HS5 := Lib.hid (HS4.out.on hB5)
    obtain ⟨d0, d1, d2, d3⟩ := HR5.out.b.box
    clear hB5 e0 e1 e2 e3
    go_wp2_with fail
    refine (GMX.out _ HR5.out HS5.out).mono ?_
    rintro e w6 ⟨rfl, hB6⟩
    have HR6 := Lib.hid (HR5.out.on hB6)
    have HS6 := Lib.hid (HS5.out.on hB6)
    clear hB6 d0 d1 d2 d3
    go_wp2_with fail
    refine (GPS.out _ HS6.out).mono ?_
    rintro e w7 ⟨v7, u7, rfl, hl7, hf7, -, hB7⟩
    dsimp only at hl7 hf7
    obtain ⟨p7, q7, rfl, -⟩ := hl7.len
    obtain ⟨p8, q8, rfl, -⟩ := hf7.len
    have hR7 := RdSt.new (k := k4) (x := x4) hl7 hf7
    have hBa := (Below.refl w7.heap.size w7).alloc (Nat.le_refl _) (.cells #[.int .u8 k4, .string x4, .slice p7 l4.len q7, .slice p8 f4.len q8] 25)
    have HS7 := Lib.hid ((HS6.out.on hB7).on hBa)
    have HX7 := Lib.hid ((HR6.out.on hB7).on hBa)
    have HY7 := Lib.hid hR7
    obtain ⟨e0, e1, e2, e3⟩ := hR7.b.box
    clear hl7 hf7 hB7 hR7 hBa
    go_wp2_with fail
    refine (GPY.out _ _ _ _ HY7.out HS7.out).mono ?_
    rintro e w8 ⟨rfl, hB8⟩
    have HS8 := Lib.hid (HS7.out.on hB8)
    have HX8 := Lib.hid (HX7.out.on hB8)
    have HY8 := Lib.hid (HY7.out.on hB8)
    obtain ⟨c0, c1, c2, c3⟩ := HX8.out.b.box
    obtain ⟨d0, d1, d2, d3⟩ := HY8.out.b.box
    clear hB8 e0 e1 e2 e3
    go_wp2_with fail
    refine (GSX.out _ _ _ _ HX8.out HY8.out).mono ?_
    rintro e w9 ⟨rfl, hB9⟩
    have HS9 := Lib.hid (HS8.out.on hB9)
    clear hB9 c0 c1 c2 c3 d0 d1 d2 d3
    go_wp2_with fail
    go_ret
    exact ⟨rfl, HS9.out.below⟩
  · have tz : ((n2 : Int) != 0) = true := by rw [bne_iff_ne]; omega
    clear hz
    go_wp2_with fail
    go_ret
    exact ⟨rfl, HS4.out.below⟩
end Go.Proofs.YtgcdfkoobbijeaaGreatDoor
