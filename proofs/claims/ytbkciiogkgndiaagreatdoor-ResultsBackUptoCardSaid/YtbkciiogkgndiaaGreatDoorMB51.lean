/- Each answer is told back: the given law, walked. Conditions: arguments of at most 2^20 bytes and elements; the library's tables. -/
import Derived.Test.YtbkciiogkgndiaaGreatDoorMB49
import Derived.Test.YtbkciiogkgndiaaGreatDoorMB50
import Derived.Test.YtbkciiogkgndiaaGreatDoorProg
import Derived.Carry
import Derived.Deep.DeepHandedRow
import Derived.LaidLaws
namespace Go.Proofs.YtbkciiogkgndiaaGreatDoor
open Go Go.RowKit Go.Lib

set_option maxHeartbeats 4000000 in
set_option maxRecDepth 100000 in
theorem back8_any (id : ByteArray) (v1 v2 v3 v4 : Value) (li : List Int) (ls : List Sp) (fo : List Fo) (ch : List Ch) (w : World) (hid : id.size ≤ 1048576) (h1 : SrcI w v1 li ∧ li.length ≤ 1048576) (h2 : ArgSp w v2 ls) (h3 : ArgFo w v3 fo) (h4 : ArgCh w v4 ch) (hP : PowTab w) (hT : Tabs w) :
    Calls Tryz.prog 8 #[.string id, v1, v2, v3, v4] w (True8 w) := by
  have HPo := Lib.hid (fun W (h : Below w.heap.size w W) => pow_below hP h)
  have HTo := Lib.hid (fun W (h : Below w.heap.size w W) => tabs_below hT h)
  have HGr := Lib.hid (fun W (h : Below w.heap.size w W) => great_args W h h1 h2 h3 h4)
  have HAw := Lib.hid (awake8_any w hP hT)
  have HCh : Hid (∀ i e, ch[i]? = some e → ∃ b o, ∃ c, v4 = .slice (some ⟨b, o, none⟩) ch.length c ∧ ∀ W, Below w.heap.size w W → W.cell? ⟨b, o + i, none⟩ = some (.slice e.p e.l.length e.c)) := Lib.hid (fun i e he => by
    obtain ⟨p4, c4, rfl, _, _, q4, r4⟩ := src_sl h4.1
    obtain ⟨b, o, rfl, hb, hc⟩ := r4 i e he
    have hn := srcR_n (q4 e (List.mem_of_getElem? he)).1
    refine ⟨b, o, c4, rfl, fun W hB => ?_⟩
    rw [← hn]
    have := hc 0 _ rfl
    rw [Nat.mul_one, Nat.add_zero] at this
    exact (hB.cell (p := ⟨b, o + i, none⟩) hb).trans this)
  have HFu : Hid (∀ W, Below w.heap.size w W → Few li.length ls.length fo.length ch.length (lnS ls) (lnC ch) → Calls Tryz.prog 47 #[.string id, v1] W (RetV 0 6 ⟨#[]⟩ .nil (full_anyT id li) W)) := Lib.hid (fun W hB hf => by
    obtain ⟨p1, c1, rfl⟩ := srcI_sl h1.1
    exact full_any id _ _ _ _ 0 W (by omega) (h1.1.below hB) (by have := hf.1; omega) (Nat.zero_le _) (HPo.out _ hB) (HTo.out _ hB))
  have HDe : Hid (∀ W, Below w.heap.size w W → Few li.length ls.length fo.length ch.length (lnS ls) (lnC ch) → Calls Tryz.prog 48 #[.string id, v2] W (RetV 0 6 ⟨#[]⟩ .nil (delta_anyT id ls) W)) := Lib.hid (fun W hB hf => by
    have hs := srcS_of h2 (fun e he => Nat.le_trans (few_S hf e he) (by decide))
    obtain ⟨p2, c2, rfl, _⟩ := src_sl h2.1
    exact delta_any id _ _ _ _ 0 W (by omega) (hs.below hB) (by have := hf.1; omega) (Nat.zero_le _) (HPo.out _ hB) (HTo.out _ hB))
  have HFo : Hid (∀ W, Below w.heap.size w W → Few li.length ls.length fo.length ch.length (lnS ls) (lnC ch) → Calls Tryz.prog 53 #[v3] W (RetV 0 5 ⟨#[]⟩ (listFoT fo) .nil W)) := Lib.hid (fun W hB hf => by
    have hs := srcF_of h3
    obtain ⟨p3, c3, rfl, _⟩ := src_sl h3.1
    exact folds_any _ _ _ _ 0 W (Nat.zero_le _) (hs.below hB) (by have := hf.1; omega) (HPo.out _ hB) (HTo.out _ hB))
  have HCa : Hid (∀ W, Below w.heap.size w W → Few li.length ls.length fo.length ch.length (lnS ls) (lnC ch) → Calls Tryz.prog 55 #[v4] W (RetV 0 5 ⟨#[]⟩ (listChT ch) .nil W)) := Lib.hid (fun W hB hf => by
    have hs := srcC_of h4 (fun e he => Nat.le_trans (few_C hf e he) (by decide))
    obtain ⟨p4, c4, rfl, _⟩ := src_sl h4.1
    exact chains_any _ _ _ _ 0 W (Nat.zero_le _) (hs.below hB) (by have := hf.1; omega) (HPo.out _ hB))
  have HFx := Lib.hid (fun W (hB : Below w.heap.size w W) => utfFix_any id W (by omega) (HTo.out W hB))
  have HTe := Lib.hid (fun W va ua A (hB : Below w.heap.size w W) (hva : HS W A 0 va (nmT li)) (hua : HS W A 1 ua .nil) (hn : li.length ≤ 1000000) => tells8_any va ua li A v1 W hva hua (h1.1.below hB) hn)
  have HS2 : Hid (∀ i e, ls[i]? = some e → SpO w e ∧ ∃ b o c, v2 = .slice (some ⟨b, o, none⟩) ls.length c ∧ ∀ W, Below w.heap.size w W → W.cell? ⟨b, o + i * 3, none⟩ = some (.int .i64 e.st) ∧ W.cell? ⟨b, o + i * 3 + 1, none⟩ = some (.int .i64 e.de) ∧ W.cell? ⟨b, o + i * 3 + 2, none⟩ = some (.slice e.p e.li.length e.c)) := Lib.hid (fun i e he => by
    obtain ⟨p4, c4, rfl, _, _, q4, r4⟩ := src_sl h2.1
    obtain ⟨b, o, rfl, hb, hc⟩ := r4 i e he
    have hq := q4 e (List.mem_of_getElem? he)
    have hn := srcI_n hq.2.2.1
    refine ⟨hq, b, o, c4, rfl, fun W hB => ?_⟩
    rw [← hn]
    exact ⟨(hB.cell (p := ⟨b, o + i * 3, none⟩) hb).trans (hc 0 _ rfl), (hB.cell (p := ⟨b, o + i * 3 + 1, none⟩) hb).trans (hc 1 _ rfl), (hB.cell (p := ⟨b, o + i * 3 + 2, none⟩) hb).trans (hc 2 _ rfl)⟩)
  have HS3 : Hid (∀ i e, fo[i]? = some e → FoOk w e ∧ ∃ b o c, v3 = .slice (some ⟨b, o, none⟩) fo.length c ∧ ∀ W, Below w.heap.size w W → W.cell? ⟨b, o + i * 3, none⟩ = some (.int .i64 e.a) ∧ W.cell? ⟨b, o + i * 3 + 1, none⟩ = some (.int .i64 e.b) ∧ W.cell? ⟨b, o + i * 3 + 2, none⟩ = some (.bool e.cm)) := Lib.hid (fun i e he => by
    obtain ⟨p4, c4, rfl, _, _, q4, r4⟩ := src_sl h3.1
    obtain ⟨b, o, rfl, hb, hc⟩ := r4 i e he
    refine ⟨q4 e (List.mem_of_getElem? he), b, o, c4, rfl, fun W hB => ?_⟩
    exact ⟨(hB.cell (p := ⟨b, o + i * 3, none⟩) hb).trans (hc 0 _ rfl), (hB.cell (p := ⟨b, o + i * 3 + 1, none⟩) hb).trans (hc 1 _ rfl), (hB.cell (p := ⟨b, o + i * 3 + 2, none⟩) hb).trans (hc 2 _ rfl)⟩)
  have hn2 : ls.length ≤ 1048576 := h2.2
  have hn3 : fo.length ≤ 1048576 := h3.2
  obtain ⟨p1, c1, rfl⟩ := srcI_sl h1.1
  have hs2 : ∃ p c, v2 = .slice p ls.length c := by
    obtain ⟨p2, c2, rfl, _⟩ := src_sl h2.1
    exact ⟨_, _, rfl⟩
  have hs3 : ∃ p c, v3 = .slice p fo.length c := by
    obtain ⟨p2, c2, rfl, _⟩ := src_sl h3.1
    exact ⟨_, _, rfl⟩
  have hs4 : ∃ p c, v4 = .slice p ch.length c := by
    obtain ⟨p2, c2, rfl, _⟩ := src_sl h4.1
    exact ⟨_, _, rfl⟩
  obtain ⟨p2, c2, rfl⟩ := hs2
  obtain ⟨p3, c3, rfl⟩ := hs3
  obtain ⟨p4, c4, rfl⟩ := hs4
  have HA2 := Lib.hid h2
  have HA3 := Lib.hid h3
  have HA4 := Lib.hid h4
  clear hP hT h1 h2 h3 h4 hid
  go_enter Tryz.func8, Tryz.ntmps8
  go_wp2_with fail
  refine HAw.out.mono ?_
  rintro e w1 ⟨rfl, hB⟩
  have B1 := Lib.hid hB
  clear hB
  go_wp2_with fail
  refine (HGr.out w1 B1.out).mono ?_
  rintro e w2 ⟨ok, rfl, rfl, hF⟩
  cases ok
  · have HF := Lib.hid (hF rfl)
    clear hF
    go_wp2_with fail
    refine (HFu.out w2 B1.out HF.out).mono ?_
    rintro e w3 ⟨yf, rfl, ⟨pf, nf, cf, qf, mf, df, rfl, hl, hf⟩, hB⟩
    have B3 := Lib.hid (B1.out.trans (hB.mono B1.out.size))
    have HVf := Lib.hid (And.intro hl hf)
    clear hl hf hB
    go_wp2_with fail
    refine (HDe.out w3 B3.out HF.out).mono ?_
    rintro e w4 ⟨yd, rfl, ⟨pd, nd, cd, qd, md, dd, rfl, hl, hf⟩, hB⟩
    have F4 := Lib.hid (And.intro (HVf.out.1.freB hB) (HVf.out.2.freB hB))
    have B4 := Lib.hid (B3.out.trans (hB.mono B3.out.size))
    have hBa := hB.mono (Nat.le_refl _)
    have VF5 : Hid (VB8 w4.heap.size 6 ⟨#[]⟩ pf nf cf qf mf df .nil (full_anyT id li) (w4.alloc (.cells #[.int .u8 6, .string ⟨#[]⟩, .slice pf nf cf, .slice qf mf df] 25))) := Lib.hid (VB8.new (k := 6) (x := ⟨#[]⟩) F4.out.1 F4.out.2)
    have VD6 : Hid (VB8 (w4.alloc (.cells #[.int .u8 6, .string ⟨#[]⟩, .slice pf nf cf, .slice qf mf df] 25)).heap.size 6 ⟨#[]⟩ pd nd cd qd md dd .nil (delta_anyT id ls) ((w4.alloc (.cells #[.int .u8 6, .string ⟨#[]⟩, .slice pf nf cf, .slice qf mf df] 25)).alloc (.cells #[.int .u8 6, .string ⟨#[]⟩, .slice pd nd cd, .slice qd md dd] 25))) := Lib.hid (VB8.new (k := 6) (x := ⟨#[]⟩) (hl.alloc (.cells #[.int .u8 6, .string ⟨#[]⟩, .slice pf nf cf, .slice qf mf df] 25)) (hf.alloc (.cells #[.int .u8 6, .string ⟨#[]⟩, .slice pf nf cf, .slice qf mf df] 25)))
    rw [World.size_alloc] at VD6
    have hB5 := (B4.out.alloc B4.out.size (.cells #[.int .u8 6, .string ⟨#[]⟩, .slice pf nf cf, .slice qf mf df] 25)).alloc (Nat.le_trans B4.out.size (by simp)) (.cells #[.int .u8 6, .string ⟨#[]⟩, .slice pd nd cd, .slice qd md dd] 25)
    have VF6 := Lib.hid (VF5.out.on ((Below.refl _ _).alloc (Nat.le_refl _) (.cells #[.int .u8 6, .string ⟨#[]⟩, .slice pd nd cd, .slice qd md dd] 25)))
    have B5 := Lib.hid hB5
    clear hl hf hB hB5 hBa HVf VF5 F4
    go_upto_region 6 with fail
    generalize (w4.alloc (.cells #[.int .u8 6, .string ⟨#[]⟩, .slice pf nf cf, .slice qf mf df] 25)).alloc (.cells #[.int .u8 6, .string ⟨#[]⟩, .slice pd nd cd, .slice qd md dd] 25) = W5 at *
    have HG6 := Lib.hid (get_any 6 ⟨#[]⟩ ⟨#[100, 97, 116, 97]⟩ _ _ .nil (full_anyT id li) _ W5 VF6.out.2.1 VF6.out.2.2)
    rw [got_fda] at HG6
    obtain ⟨f0, f1, f2, f3⟩ := VF6.out.cells
    go_wp2_with fail
    refine HG6.out.mono ?_
    clear f0 f1 f2 f3 HG6
    rintro e w6 ⟨vx, ux, rfl, hx, hu, -, -, hB⟩
    change HS w6 _ 0 vx (nmT li) at hx
    change HS w6 _ 1 ux .nil at hu
    obtain ⟨px, cx, rfl, -⟩ := hx.len
    obtain ⟨qx, dx, rfl, -⟩ := hu.len
    rw [nmT_len] at hx
    have VX7 : Hid (VB8 w6.heap.size 5 ⟨#[]⟩ px li.length cx qx V.T.nil.len dx (nmT li) .nil (w6.alloc (.cells #[.int .u8 5, .string ⟨#[]⟩, .slice px li.length cx, .slice qx V.T.nil.len dx] 25))) := Lib.hid (VB8.new (k := 5) (x := ⟨#[]⟩) hx hu)
    have hB7 := hB.trans (((Below.refl w6.heap.size w6).alloc (Nat.le_refl _) (.cells #[.int .u8 5, .string ⟨#[]⟩, .slice px li.length cx, .slice qx V.T.nil.len dx] 25)).mono hB.size)
    have VF7 := Lib.hid (VF6.out.on hB7)
    have VD7 := Lib.hid (VD6.out.on hB7)
    have B7 := Lib.hid (B5.out.trans (hB7.mono B5.out.size))
    clear hx hu hB hB7 VF6 VD6
    simp only [V.res]
    rw [nmT_len]
    go_upto_region 7 with fail
    generalize w6.alloc (.cells #[.int .u8 5, .string ⟨#[]⟩, .slice px li.length cx, .slice qx V.T.nil.len dx] 25) = W7 at *
    have HG8 := Lib.hid (get_any 6 ⟨#[]⟩ ⟨#[101, 100, 105, 116, 115]⟩ _ _ .nil (delta_anyT id ls) _ W7 VD7.out.2.1 VD7.out.2.2)
    rw [got_ded] at HG8
    obtain ⟨f0, f1, f2, f3⟩ := VD7.out.cells
    go_wp2_with fail
    refine HG8.out.mono ?_
    clear f0 f1 f2 f3 HG8
    rintro e w8 ⟨vy, uy, rfl, hx, hu, -, -, hB⟩
    change HS w8 _ 0 vy (listSpT ls) at hx
    change HS w8 _ 1 uy .nil at hu
    obtain ⟨py, cy, rfl, -⟩ := hx.len
    obtain ⟨qy, dy, rfl, -⟩ := hu.len
    rw [listSpT_len] at hx
    have VY9 : Hid (VB8 w8.heap.size 5 ⟨#[]⟩ py ls.length cy qy V.T.nil.len dy (listSpT ls) .nil (w8.alloc (.cells #[.int .u8 5, .string ⟨#[]⟩, .slice py ls.length cy, .slice qy V.T.nil.len dy] 25))) := Lib.hid (VB8.new (k := 5) (x := ⟨#[]⟩) hx hu)
    have hB9 := hB.trans (((Below.refl w8.heap.size w8).alloc (Nat.le_refl _) (.cells #[.int .u8 5, .string ⟨#[]⟩, .slice py ls.length cy, .slice qy V.T.nil.len dy] 25)).mono hB.size)
    have VF9 := Lib.hid (VF7.out.on hB9)
    have VD9 := Lib.hid (VD7.out.on hB9)
    have VX9 := Lib.hid (VX7.out.on hB9)
    have B9 := Lib.hid (B7.out.trans (hB9.mono B7.out.size))
    clear hx hu hB hB9 VF7 VD7 VX7
    simp only [V.res]
    rw [listSpT_len]
    go_upto_region 8 with fail
    generalize w8.alloc (.cells #[.int .u8 5, .string ⟨#[]⟩, .slice py ls.length cy, .slice qy V.T.nil.len dy] 25) = W9 at *
    have hlf := HF.out.1
    have HT1 := Lib.hid (fun W (hB : Below W9.heap.size W9 W) => (show Calls Tryz.prog 50 #[.agg #[.int .u8 6, .string ⟨#[]⟩, .slice pf nf cf, .slice qf mf df], .string ⟨#[114, 101, 115, 117, 108, 116, 73, 100]⟩, .string (U.fixS id)] W (TrueB W) from text8_any 6 ⟨#[]⟩ _ _ .nil _ _ ⟨#[114, 101, 115, 117, 108, 116, 73, 100]⟩ (U.fixS id) W (VF9.out.2.1.below hB) (VF9.out.2.2.below hB) (got_fid _ _)))
    have HT2 := Lib.hid (fun W (hB : Below W9.heap.size W9 W) => (show Calls Tryz.prog 50 #[.agg #[.int .u8 6, .string ⟨#[]⟩, .slice pd nd cd, .slice qd md dd], .string ⟨#[114, 101, 115, 117, 108, 116, 73, 100]⟩, .string (U.fixS id)] W (TrueB W) from text8_any 6 ⟨#[]⟩ _ _ .nil _ _ ⟨#[114, 101, 115, 117, 108, 116, 73, 100]⟩ (U.fixS id) W (VD9.out.2.1.below hB) (VD9.out.2.2.below hB) (got_did _ _)))
    have HTl := Lib.hid (fun W (hB : Below W9.heap.size W9 W) => HTe.out W _ _ _ (B9.out.trans (hB.mono B9.out.size)) (VX9.out.2.1.below hB) (VX9.out.2.2.below hB) (by omega))
    have HFi := Lib.hid (fun W (hB : Below W9.heap.size W9 W) => HFx.out W (B9.out.trans (hB.mono B9.out.size)))
    have KEEP := Lib.hid (fun w' (hB : Below W9.heap.size W9 w') => (by
      obtain ⟨a0, a1, a2, a3⟩ := (VF9.out.on hB).cells
      obtain ⟨b0, b1, b2, b3⟩ := (VD9.out.on hB).cells
      obtain ⟨c0, c1, c2, c3⟩ := (VX9.out.on hB).cells
      obtain ⟨d0, d1, d2, d3⟩ := (VY9.out.on hB).cells
      exact ⟨a0, a1, a2, a3, b0, b1, b2, b3, c0, c1, c2, c3, d0, d1, d2, d3⟩ : w'.cell? ⟨w4.heap.size, 0, none⟩ = some (.int .u8 6) ∧ w'.cell? ⟨w4.heap.size, 1, none⟩ = some (.string ⟨#[]⟩) ∧ w'.cell? ⟨w4.heap.size, 2, none⟩ = some (.slice pf nf cf) ∧ w'.cell? ⟨w4.heap.size, 3, none⟩ = some (.slice qf mf df) ∧ w'.cell? ⟨(w4.heap.size + 1), 0, none⟩ = some (.int .u8 6) ∧ w'.cell? ⟨(w4.heap.size + 1), 1, none⟩ = some (.string ⟨#[]⟩) ∧ w'.cell? ⟨(w4.heap.size + 1), 2, none⟩ = some (.slice pd nd cd) ∧ w'.cell? ⟨(w4.heap.size + 1), 3, none⟩ = some (.slice qd md dd) ∧ w'.cell? ⟨w6.heap.size, 0, none⟩ = some (.int .u8 5) ∧ w'.cell? ⟨w6.heap.size, 1, none⟩ = some (.string ⟨#[]⟩) ∧ w'.cell? ⟨w6.heap.size, 2, none⟩ = some (.slice px li.length cx) ∧ w'.cell? ⟨w6.heap.size, 3, none⟩ = some (.slice qx V.T.nil.len dx) ∧ w'.cell? ⟨w8.heap.size, 0, none⟩ = some (.int .u8 5) ∧ w'.cell? ⟨w8.heap.size, 1, none⟩ = some (.string ⟨#[]⟩) ∧ w'.cell? ⟨w8.heap.size, 2, none⟩ = some (.slice py ls.length cy) ∧ w'.cell? ⟨w8.heap.size, 3, none⟩ = some (.slice qy V.T.nil.len dy)))
    have kp := KEEP.out W9 (Below.refl _ _)
    obtain ⟨z0, z1, z2, z3, z4, z5, z6, z7, z8, z9, z10, z11, z12, z13, z14, z15⟩ := kp
    go_region_held3 (fun w' => w'.cell? ⟨w4.heap.size, 0, none⟩ = some (.int .u8 6) ∧ w'.cell? ⟨w4.heap.size, 1, none⟩ = some (.string ⟨#[]⟩) ∧ w'.cell? ⟨w4.heap.size, 2, none⟩ = some (.slice pf nf cf) ∧ w'.cell? ⟨w4.heap.size, 3, none⟩ = some (.slice qf mf df) ∧ w'.cell? ⟨(w4.heap.size + 1), 0, none⟩ = some (.int .u8 6) ∧ w'.cell? ⟨(w4.heap.size + 1), 1, none⟩ = some (.string ⟨#[]⟩) ∧ w'.cell? ⟨(w4.heap.size + 1), 2, none⟩ = some (.slice pd nd cd) ∧ w'.cell? ⟨(w4.heap.size + 1), 3, none⟩ = some (.slice qd md dd) ∧ w'.cell? ⟨w6.heap.size, 0, none⟩ = some (.int .u8 5) ∧ w'.cell? ⟨w6.heap.size, 1, none⟩ = some (.string ⟨#[]⟩) ∧ w'.cell? ⟨w6.heap.size, 2, none⟩ = some (.slice px li.length cx) ∧ w'.cell? ⟨w6.heap.size, 3, none⟩ = some (.slice qx V.T.nil.len dx) ∧ w'.cell? ⟨w8.heap.size, 0, none⟩ = some (.int .u8 5) ∧ w'.cell? ⟨w8.heap.size, 1, none⟩ = some (.string ⟨#[]⟩) ∧ w'.cell? ⟨w8.heap.size, 2, none⟩ = some (.slice py ls.length cy) ∧ w'.cell? ⟨w8.heap.size, 3, none⟩ = some (.slice qy V.T.nil.len dy))
      (first | exact KEEP.out _ hC5 | exact KEEP.out _ hC4 | exact KEEP.out _ hC3 | exact KEEP.out _ hC2 | exact KEEP.out _ hC1 | exact KEEP.out _ (Below.refl _ _).drew | exact KEEP.out _ (Below.refl _ _))
      (first
        | (go_at_call 51; (with_reducible refine (HTl.out _ hC4).mono ?_); rintro e wc5 ⟨rfl, hB⟩; have hC5 := hC4.trans (hB.mono hC4.size); clear hB)
        | (go_at_call 50; (with_reducible refine (HT2.out _ hC3).mono ?_); rintro e wc4 ⟨rfl, hB⟩; have hC4 := hC3.trans (hB.mono hC3.size); clear hB)
        | (go_at_call 38; (with_reducible refine (HFi.out _ hC2).mono ?_); rintro e wc3 ⟨rfl, hB⟩; have hC3 := hC2.trans (hB.mono hC2.size); clear hB)
        | (go_at_call 50; (with_reducible refine (HT1.out _ hC1).mono ?_); rintro e wc2 ⟨rfl, hB⟩; have hC2 := hC1.trans (hB.mono hC1.size); clear hB)
        | (go_at_call 38; (with_reducible refine (HFi.out _ (Below.refl _ _).drew).mono ?_); rintro e wc1 ⟨rfl, hB⟩; have hC1 := (Below.refl W9.heap.size W9).drew.trans hB; clear hB))
    rename_i hHeld
    have VYc := Lib.hid (VY9.out.on hC5)
    have Bc := Lib.hid (B9.out.trans (hC5.mono B9.out.size))
    clear hC1 hC2 hC3 hC4 hC5 z0 z1 z2 z3 z4 z5 z6 z7 z8 z9 z10 z11 z12 z13 z14 z15 hHeld KEEP HT1 HT2 HTl HFi VF9 VD9 VX9 VY9 B3 B4 B5 B7 B9 hlf
    go_wp2_with fail
    go_loopw [17] (fun p wr => ∃ i : Nat, p = .int .i64 (i : Int) ∧ i ≤ ls.length ∧ Hid (VB8 w8.heap.size 5 ⟨#[]⟩ py ls.length cy qy V.T.nil.len dy (listSpT ls) .nil wr ∧ Below w.heap.size w wr)) (fun p _ => ls.length - (RowKit.intOf p).toNat)
    case atStart => exact ⟨0, rfl, Nat.zero_le _, Lib.hid ⟨VYc.out, Bc.out⟩⟩
    case round =>
      obtain ⟨i, rfl, hi, HR⟩ := hrel
      by_cases hlt : i < ls.length
      · have he := List.getElem?_eq_getElem hlt
        obtain ⟨hq, b, o, c, e1, hc⟩ := HS2.out i _ he
        have hd := listSpT_drop ls i _ he
        have hfe := few_S HF.out _ (List.getElem_mem hlt)
        generalize ls[i] = e at *
        obtain ⟨st, de, ep, en, ec, el⟩ := e
        dsimp only at hd hc hfe
        have hq : I64 st ∧ I64 de ∧ SrcI w (.slice ep en ec) el ∧ el.length ≤ 1048576 := hq
        obtain ⟨rfl, rfl⟩ : p2 = some ⟨b, o, none⟩ ∧ c2 = c := by cases e1; exact ⟨rfl, rfl⟩
        obtain rfl : en = el.length := srcI_n hq.2.2.1
        obtain ⟨b1, o1, va, ua, rfl, E1⟩ := HR.out.1.2.1.elem (by rw [listSpT_len]; exact hlt) hd
        obtain ⟨p5, c5, rfl, -⟩ := E1.hl.len
        obtain ⟨q5, d5, rfl, -⟩ := E1.hf.len
        have k1 := E1.kind
        have k2 := E1.text
        have k3 := E1.list
        have k4 := E1.fields
        simp only [Nat.add_zero, Nat.reduceAdd] at k1 k2 k3 k4
        have hl3 : (spliceT st de el).len = 3 := rfl
        have HE := Lib.hid (And.intro E1.hl E1.hf)
        have HQ := Lib.hid hq
        have HC := Lib.hid hc
        have HL := Lib.hid hlt
        have HFe := Lib.hid hfe
        have k1 : wr.cell? ⟨b1, o1 + i * 4, none⟩ = some (.int .u8 6) := k1
        have HCx := Lib.hid (And.intro k1 (And.intro k2 (And.intro k3 k4)))
        rw [hl3] at HCx HE k4
        obtain ⟨s0, s1, s2, s3⟩ := HR.out.1.cells
        have hi2 : (0 : Int) ≤ (i : Int) := Int.natCast_nonneg i
        have hi3 : (i : Int) < (ls.length : Int) := by omega
        have HG := Lib.hid (show Calls Tryz.prog 49 #[.agg #[.int .u8 6, .string ⟨#[]⟩, .slice p5 V.T.nil.len c5, .slice q5 3 d5], .string ⟨#[100, 97, 116, 97]⟩] wr (GotF (some (5, ⟨#[]⟩, nmT el, .nil)) wr) from by
          rw [← got_sda st de el]
          exact get_any 6 ⟨#[]⟩ ⟨#[100, 97, 116, 97]⟩ _ _ .nil (spliceT st de el) _ wr HE.out.1 HE.out.2)
        clear he hq e1 hc hd E1 hlt hfe
        go_wp2_with fail
        refine HG.out.mono ?_
        clear s0 s1 s2 s3 k1 k2 k3 k4 HG
        rintro e w10 ⟨vz, uz, rfl, hx, hu, -, -, hB⟩
        change HS w10 _ 0 vz (nmT el) at hx
        change HS w10 _ 1 uz .nil at hu
        obtain ⟨pz, cz, rfl, -⟩ := hx.len
        obtain ⟨qz, dz, rfl, -⟩ := hu.len
        rw [nmT_len] at hx
        have VZ11 : Hid (VB8 w10.heap.size 5 ⟨#[]⟩ pz el.length cz qz V.T.nil.len dz (nmT el) .nil (w10.alloc (.cells #[.int .u8 5, .string ⟨#[]⟩, .slice pz el.length cz, .slice qz V.T.nil.len dz] 25))) := Lib.hid (VB8.new (k := 5) (x := ⟨#[]⟩) hx hu)
        have hB11 := hB.trans (((Below.refl w10.heap.size w10).alloc (Nat.le_refl _) (.cells #[.int .u8 5, .string ⟨#[]⟩, .slice pz el.length cz, .slice qz V.T.nil.len dz] 25)).mono hB.size)
        have VY11 := Lib.hid (HR.out.1.on hB11)
        have B11 := Lib.hid (HR.out.2.trans (hB11.mono HR.out.2.size))
        have HE11 := Lib.hid (And.intro (HE.out.1.below hB11) (HE.out.2.below hB11))
        have HX11 := Lib.hid (And.intro (bcellv hB11 HCx.out.1) (And.intro (bcellv hB11 HCx.out.2.1) (And.intro (bcellv hB11 HCx.out.2.2.1) (bcellv hB11 HCx.out.2.2.2))))
        clear hx hu hB hB11 HE HCx
        simp only [V.res]
        rw [nmT_len]
        go_upto_region 14 with fail
        generalize w10.alloc (.cells #[.int .u8 5, .string ⟨#[]⟩, .slice pz el.length cz, .slice qz V.T.nil.len dz] 25) = W11 at *
        have HN1 := Lib.hid (fun W (hB : Below W11.heap.size W11 W) => (show Calls Tryz.prog 52 #[.agg #[.int .u8 6, .string ⟨#[]⟩, .slice p5 V.T.nil.len c5, .slice q5 3 d5], .string ⟨#[115, 116, 97, 114, 116]⟩, .int .i64 st] W (TrueB W) from number8_any 6 ⟨#[]⟩ _ _ .nil _ _ ⟨#[115, 116, 97, 114, 116]⟩ st W (HE11.out.1.below hB) (HE11.out.2.below hB) (got_sst _ _ _) HQ.out.1))
        have HN2 := Lib.hid (fun W (hB : Below W11.heap.size W11 W) => (show Calls Tryz.prog 52 #[.agg #[.int .u8 6, .string ⟨#[]⟩, .slice p5 V.T.nil.len c5, .slice q5 3 d5], .string ⟨#[100, 101, 108, 101, 116, 101, 67, 111, 117, 110, 116]⟩, .int .i64 de] W (TrueB W) from number8_any 6 ⟨#[]⟩ _ _ .nil _ _ ⟨#[100, 101, 108, 101, 116, 101, 67, 111, 117, 110, 116]⟩ de W (HE11.out.1.below hB) (HE11.out.2.below hB) (got_sde _ _ _) HQ.out.2.1))
        have HN3 := Lib.hid (fun W (hB : Below W11.heap.size W11 W) => (show Calls Tryz.prog 51 #[.agg #[.int .u8 5, .string ⟨#[]⟩, .slice pz el.length cz, .slice qz V.T.nil.len dz], .slice ep el.length ec] W (TrueB W) from tells8_any _ _ el _ _ W (VZ11.out.2.1.below hB) (VZ11.out.2.2.below hB) (HQ.out.2.2.1.below (B11.out.trans (hB.mono B11.out.size))) (Nat.le_trans HFe.out (by decide))))
        have KEEP := Lib.hid (fun w' (hB : Below W11.heap.size W11 w') => (by
          obtain ⟨a0, a1, a2, a3⟩ := (VY11.out.on hB).cells
          obtain ⟨b0, b1, b2, b3⟩ := (VZ11.out.on hB).cells
          obtain ⟨c0, c1, c2⟩ := HC.out w' (B11.out.trans (hB.mono B11.out.size))
          exact ⟨a2, b0, b1, b2, b3, bcellv hB HX11.out.1, bcellv hB HX11.out.2.1, bcellv hB HX11.out.2.2.1, bcellv hB HX11.out.2.2.2, c0, c1, c2⟩ : w'.cell? ⟨w8.heap.size, 2, none⟩ = some (.slice (some ⟨b1, o1, none⟩) ls.length cy) ∧ w'.cell? ⟨w10.heap.size, 0, none⟩ = some (.int .u8 5) ∧ w'.cell? ⟨w10.heap.size, 1, none⟩ = some (.string ⟨#[]⟩) ∧ w'.cell? ⟨w10.heap.size, 2, none⟩ = some (.slice pz el.length cz) ∧ w'.cell? ⟨w10.heap.size, 3, none⟩ = some (.slice qz V.T.nil.len dz) ∧ w'.cell? ⟨b1, o1 + i * 4, none⟩ = some (.int .u8 6) ∧ w'.cell? ⟨b1, o1 + i * 4 + 1, none⟩ = some (.string ⟨#[]⟩) ∧ w'.cell? ⟨b1, o1 + i * 4 + 2, none⟩ = some (.slice p5 V.T.nil.len c5) ∧ w'.cell? ⟨b1, o1 + i * 4 + 3, none⟩ = some (.slice q5 3 d5) ∧ w'.cell? ⟨b, o + i * 3, none⟩ = some (.int .i64 st) ∧ w'.cell? ⟨b, o + i * 3 + 1, none⟩ = some (.int .i64 de) ∧ w'.cell? ⟨b, o + i * 3 + 2, none⟩ = some (.slice ep el.length ec)))
        have kp := KEEP.out W11 (Below.refl _ _)
        obtain ⟨z0, z1, z2, z3, z4, z5, z6, z7, z8, z9, z10, z11⟩ := kp
        go_region_held3 (fun w' => w'.cell? ⟨w8.heap.size, 2, none⟩ = some (.slice (some ⟨b1, o1, none⟩) ls.length cy) ∧ w'.cell? ⟨w10.heap.size, 0, none⟩ = some (.int .u8 5) ∧ w'.cell? ⟨w10.heap.size, 1, none⟩ = some (.string ⟨#[]⟩) ∧ w'.cell? ⟨w10.heap.size, 2, none⟩ = some (.slice pz el.length cz) ∧ w'.cell? ⟨w10.heap.size, 3, none⟩ = some (.slice qz V.T.nil.len dz) ∧ w'.cell? ⟨b1, o1 + i * 4, none⟩ = some (.int .u8 6) ∧ w'.cell? ⟨b1, o1 + i * 4 + 1, none⟩ = some (.string ⟨#[]⟩) ∧ w'.cell? ⟨b1, o1 + i * 4 + 2, none⟩ = some (.slice p5 V.T.nil.len c5) ∧ w'.cell? ⟨b1, o1 + i * 4 + 3, none⟩ = some (.slice q5 3 d5) ∧ w'.cell? ⟨b, o + i * 3, none⟩ = some (.int .i64 st) ∧ w'.cell? ⟨b, o + i * 3 + 1, none⟩ = some (.int .i64 de) ∧ w'.cell? ⟨b, o + i * 3 + 2, none⟩ = some (.slice ep el.length ec))
          (first | exact KEEP.out _ hC3 | exact KEEP.out _ hC2 | exact KEEP.out _ hC1 | exact KEEP.out _ (Below.refl _ _).drew | exact KEEP.out _ (Below.refl _ _))
          (first
            | (go_at_call 51; (with_reducible refine (HN3.out _ hC2).mono ?_); rintro e wc3 ⟨rfl, hB⟩; have hC3 := hC2.trans (hB.mono hC2.size); clear hB)
            | (go_at_call 52; (with_reducible refine (HN2.out _ hC1).mono ?_); rintro e wc2 ⟨rfl, hB⟩; have hC2 := hC1.trans (hB.mono hC1.size); clear hB)
            | (go_at_call 52; (with_reducible refine (HN1.out _ (Below.refl _ _).drew).mono ?_); rintro e wc1 ⟨rfl, hB⟩; have hC1 := (Below.refl W11.heap.size W11).drew.trans hB; clear hB))
        rename_i hHeld
        have VYd := Lib.hid (VY11.out.on hC3)
        have Bd := Lib.hid (B11.out.trans (hC3.mono B11.out.size))
        clear hC1 hC2 hC3 z0 z1 z2 z3 z4 z5 z6 z7 z8 z9 z10 z11 hHeld KEEP HN1 HN2 HN3
        go_wp2_with fail
        go_roundw
        case rel => exact ⟨i + 1, by go_num, HL.out, Lib.hid ⟨VYd.out, Bd.out⟩⟩
        case measure => have := HL.out; simp [RowKit.intOf]; omega
      · obtain rfl : i = ls.length := by omega
        have HSC := Lib.hid (srcC_of HA4.out (fun e he => Nat.le_trans (few_C HF.out e he) (by decide)))
        have HFo' := Lib.hid (fun W hB => HFo.out W hB HF.out)
        have HCa' := Lib.hid (fun W hB => HCa.out W hB HF.out)
        have HN4 : Hid (ch.length ≤ 1000000) := Lib.hid (by have := HF.out.1; omega)
        have hB4 := HR.out.2
        repeat (first | (change Code.wp _ (Code.seq (Code.region 16 _ _) _) _ _ _; exact back8_rest p3 p4 c3 c4 fo ch w wr hB4 HFo' HCa' HS3 HSC hn3 HN4) | go_step)
  · clear hF
    go_wp2_with fail
    go_ret
    exact ⟨rfl, B1.out⟩
end Go.Proofs.YtbkciiogkgndiaaGreatDoor

namespace Go.Proofs.YtbkciiogkgndiaaGreatDoor
open Go Go.RowKit Go.Lib

theorem back8_card (id : ByteArray) (v1 : Value) (li : List Int) (v2 : Value) (ls : List Sp) (v3 : Value) (fo : List Fo) (v4 : Value) (ch : List Ch) (w : World) (hid : id.data.toList.length ≤ 1048576) (h1 : SrcI w v1 li ∧ li.length ≤ 1048576) (h2 : ArgSp w v2 ls) (h3 : ArgFo w v3 fo) (h4 : ArgCh w v4 ch) (hP : PowTab w) (hT : Tabs w) :
    Calls Tryz.prog 8 #[.string id, v1, v2, v3, v4] w (True8 w) := back8_any id v1 v2 v3 v4 li ls fo ch w (by rw [Array.length_toList] at hid; exact hid) h1 h2 h3 h4 hP hT
end Go.Proofs.YtbkciiogkgndiaaGreatDoor

namespace Go.Proofs.YtbkciiogkgndiaaGreatDoor
open Go Go.RowKit Go.ChangeShapes

section
variable {H : Type} {enc : TypeId × Value → H} {P : Program} {w : World} {base : Nat} {spare : Nat → Bool} {held : Bool}
theorem trodAll_five {t t' t'' t3 t4 : TypeId} {args : Array Value} {ds : List (DataW H)} {ps : List MemPlace} (h : DataW.TrodAll enc P w base spare held [t, t', t'', t3, t4] args.toList ds ps) :
    ∃ v v' v'' v3 v4 d d' d'' d3 d4 p p' p'' p3 p4, args = #[v, v', v'', v3, v4] ∧ ds = [d, d', d'', d3, d4] ∧ ps = p ++ p' ++ p'' ++ p3 ++ p4 ∧ DataW.Trod enc P w base spare held t v d p ∧ DataW.Trod enc P w base spare held t' v' d' p' ∧ DataW.Trod enc P w base spare held t'' v'' d'' p'' ∧ DataW.Trod enc P w base spare held t3 v3 d3 p3 ∧ DataW.Trod enc P w base spare held t4 v4 d4 p4 := by
  obtain ⟨v, vs, d, ds', p, q, hargs, rfl, rfl, hd, hrest⟩ := trodAll_cons h
  obtain ⟨v', vs', d', ds'', p', q', rfl, rfl, rfl, hd', hrest'⟩ := trodAll_cons hrest
  obtain ⟨v'', vs'', d'', ds''', p'', q'', rfl, rfl, rfl, hd'', hrest''⟩ := trodAll_cons hrest'
  obtain ⟨v3, vs3, d3, ds3, p3, q3, rfl, rfl, rfl, hd3, hrest3⟩ := trodAll_cons hrest''
  obtain ⟨v4, vs4, d4, ds4, p4, q4, rfl, rfl, rfl, hd4, hrest4⟩ := trodAll_cons hrest3
  obtain ⟨rfl, rfl, rfl⟩ := trodAll_nil hrest4
  exact ⟨v, v', v'', v3, v4, d, d', d'', d3, d4, p, p', p'', p3, p4, by cases args; simp_all, rfl, by simp, hd, hd', hd'', hd3, hd4⟩
theorem trodAll_mk5 {t t' t'' t3 t4 : TypeId} {v v' v'' v3 v4 : Value} {d d' d'' d3 d4 : DataW H} {p p' p'' p3 p4 : List MemPlace} (h : DataW.Trod enc P w base spare held t v d p) (h' : DataW.Trod enc P w base spare held t' v' d' p')
    (h'' : DataW.Trod enc P w base spare held t'' v'' d'' p'') (h3 : DataW.Trod enc P w base spare held t3 v3 d3 p3) (h4 : DataW.Trod enc P w base spare held t4 v4 d4 p4) : DataW.TrodAll enc P w base spare held [t, t', t'', t3, t4] [v, v', v'', v3, v4] [d, d', d'', d3, d4] (p ++ (p' ++ (p'' ++ (p3 ++ p4)))) := ⟨p, p' ++ (p'' ++ (p3 ++ p4)), h, trodAll_mk4 h' h'' h3 h4, rfl⟩
end
end Go.Proofs.YtbkciiogkgndiaaGreatDoor

namespace Go.Proofs.YtbkciiogkgndiaaGreatDoor
open Go

theorem witness_upto {H : Type} {enc : TypeId × Value → H} {C : Checked} {os : Os} {f : FuncId} {fn : Func} {s : OpenSpec} {conds : List PathCond} {apart : Bool} {laid : List (String × DataW Unit)} (modest : Bool) (w0 : World) (args : Array Value) (fuel : Nat) (hos : w0.os = os)
    (hsh : (w0.forCall (fun _ _ => 0) ⟨#[], args, []⟩).Shaped C.prog)
    (hok : Input.okWideB C.prog (w0.forCall (fun _ _ => 0) ⟨#[], args, []⟩) f ⟨#[], args, []⟩ = true)
    (hw : ((DataW.whole enc C.prog (w0.forCall (fun _ _ => 0) ⟨#[], args, []⟩).memory fn.params.toList s.vars apart args.toList fuel).any fun x => conds.all (PathCond.test C.prog ⟨fn.params.toList, x.1, s.bare.plain.varTypes C.prog, x.2.1⟩) && (match s.cond with | none => true | some k => k H (x.1 ++ x.2.1))) = true)
    (hsz : s.bare.sizedB enc C.prog fn apart (w0.forCall (fun _ _ => 0) ⟨#[], args, []⟩).memory args fuel = true)
    (hl : laidMetH C.prog laid (w0.forCall (fun _ _ => 0) ⟨#[], args, []⟩).memory) :
    ∃ (w : World) (tape : Tape) (i : Input), w.os = os ∧ (w.forCall tape i).Shaped C.prog ∧ i.vars = [] ∧ Input.okWide C.prog (w.forCall tape i) .any w.heap.size f i ∧
      s.preRow enc C.prog fn conds apart laid (w.forCall tape i).memory i.args ∧ ({ modest := modest } : Assume).holds C.prog (lone (Frame.enter C.prog f i.args .normal) [] (w.forCall tape i)) := by
  have hex : ∃ x, DataW.whole enc C.prog (w0.forCall (fun _ _ => 0) ⟨#[], args, []⟩).memory fn.params.toList s.vars apart args.toList fuel = some x ∧ (conds.all (PathCond.test C.prog ⟨fn.params.toList, x.1, s.bare.plain.varTypes C.prog, x.2.1⟩) && (match s.cond with | none => true | some k => k H (x.1 ++ x.2.1))) = true := by
    cases h : DataW.whole enc C.prog (w0.forCall (fun _ _ => 0) ⟨#[], args, []⟩).memory fn.params.toList s.vars apart args.toList fuel with
    | none => rw [h] at hw; cases hw
    | some x => rw [h] at hw; exact ⟨x, rfl, hw⟩
  obtain ⟨x, hx, hb⟩ := hex
  have hb2 := Bool.and_eq_true_iff.1 hb
  refine ⟨w0, fun _ _ => 0, ⟨#[], args, []⟩, hos, hsh, (Input.okWide_of_okWideB (base := 0) hok).1, (Input.okWide_of_okWideB hok).2, OpenSpec.preRow_of_cond fuel hx hb2.1 (fun k hk => ?_) hsz hl, ?_⟩
  · have h3 := hb2.2
    rw [hk] at h3
    exact h3
  · simp only [Assume.holds]
    exact ⟨by simp, by simp, fun _ => Modest.zero, by simp, by simp⟩
end Go.Proofs.YtbkciiogkgndiaaGreatDoor
