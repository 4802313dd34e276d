/- Each answer is told back: the given law's latter part, the folds and the chains. Conditions: as Go can hold them; the library's tables. -/
import Derived.Test.YtbkciiogkgndiaaGreatDoorMB49
namespace Go.Proofs.YtbkciiogkgndiaaGreatDoor
open Go Go.RowKit Go.Lib

/-- what is left of a body behind its first n statements -/
def tail8At : Nat → Code → Code
  | 0, c => c
  | n + 1, .seq _ c => tail8At n c
  | _ + 1, c => c
def FBk23 (p5 q5 : Option Addr) (B3 b1 o1 b o i n cv c c5 d5 : Nat) (st de : Int) : Nat → Value → World → Prop
  | 0, y, _ => y = .pointer (some ⟨B3, 2, none⟩)
  | 1, y, _ => y = .slice (some ⟨b1, o1, none⟩) n cv
  | 2, y, _ => y = .int .i64 (i : Int)
  | 3, y, _ => y = .pointer (some ⟨b1, o1 + i * 4, none⟩)
  | 4, y, _ => y = .agg #[.int .u8 6, .string ⟨#[]⟩, .slice p5 V.T.nil.len c5, .slice q5 2 d5]
  | 5, y, _ => y = .slice (some ⟨b, o, none⟩) n c
  | 6, y, _ => y = .int .i64 (i : Int)
  | 7, y, _ => y = .pointer (some ⟨b, o + i * 3, none⟩)
  | 8, y, _ => y = .pointer (some ⟨b, o + i * 3, none⟩)
  | 9, y, _ => y = .int .i64 st
  | 10, y, _ => y = .bool true
  | 11, y, _ => y = .bool false
  | 12, y, _ => y = .bool false
  | 13, y, _ => y = .pointer (some ⟨B3, 2, none⟩)
  | 14, y, _ => y = .slice (some ⟨b1, o1, none⟩) n cv
  | 15, y, _ => y = .int .i64 (i : Int)
  | 16, y, _ => y = .pointer (some ⟨b1, o1 + i * 4, none⟩)
  | 17, y, _ => y = .agg #[.int .u8 6, .string ⟨#[]⟩, .slice p5 V.T.nil.len c5, .slice q5 2 d5]
  | 18, y, _ => y = .slice (some ⟨b, o, none⟩) n c
  | 19, y, _ => y = .int .i64 (i : Int)
  | 20, y, _ => y = .pointer (some ⟨b, o + i * 3, none⟩)
  | 21, y, _ => y = .pointer (some ⟨b, o + i * 3 + 1, none⟩)
  | 22, y, _ => y = .int .i64 de
  | 23, y, _ => y = .bool true
  | 24, y, _ => y = .bool false
  | 25, y, _ => y = .bool false
  | 26, y, _ => y = .bool false
  | 27, y, _ => y = .bool false
  | 28, y, _ => y = .slice (some ⟨b, o, none⟩) n c
  | 29, y, _ => y = .int .i64 (i : Int)
  | 30, y, _ => y = .pointer (some ⟨b, o + i * 3, none⟩)
  | 31, y, _ => y = .pointer (some ⟨b, o + i * 3 + 2, none⟩)
  | 32, y, _ => y = .bool false
  | 33, y, _ => y = .bool false
  | 34, y, _ => y = .bool false
  | 35, y, _ => y = .bool false
  | 36, y, _ => y = .bool false
  | 37, y, _ => y = .bool false
  | 38, y, _ => y = undef
  | 39, y, _ => y = undef
  | 40, y, _ => y = undef
  | 41, y, _ => y = undef
  | 42, y, _ => y = undef
  | 43, y, _ => y = undef
  | 44, y, _ => y = undef
  | 45, y, _ => y = .bool false
  | _, _, _ => True
theorem FBk23.on {p5 q5 : Option Addr} {B3 b1 o1 b o i n cv c c5 d5 : Nat} {st de : Int} {iz : Nat} {y : Value} {W W' : World} (h : FBk23 p5 q5 B3 b1 o1 b o i n cv c c5 d5 st de iz y W) (hB : Below W.heap.size W W') : FBk23 p5 q5 B3 b1 o1 b o i n cv c c5 d5 st de iz y W' := by
  unfold FBk23 at h ⊢
  split at h
  · exact h
  · exact h
  · exact h
  · exact h
  · exact h
  · exact h
  · exact h
  · exact h
  · exact h
  · exact h
  · exact h
  · exact h
  · exact h
  · exact h
  · exact h
  · exact h
  · exact h
  · exact h
  · exact h
  · exact h
  · exact h
  · exact h
  · exact h
  · exact h
  · exact h
  · exact h
  · exact h
  · exact h
  · exact h
  · exact h
  · exact h
  · exact h
  · exact h
  · exact h
  · exact h
  · exact h
  · exact h
  · exact h
  · exact h
  · exact h
  · exact h
  · exact h
  · exact h
  · exact h
  · exact h
  · exact h
  · trivial
set_option maxHeartbeats 8000000 in
set_option maxRecDepth 100000 in
theorem back8_rest (p3 p4 : Option Addr) (c3 c4 : Nat) (fo : List Fo) (ch : List Ch) (w wc : World) (hBc : Below w.heap.size w wc)
    (HFo : Hid (∀ W, Below w.heap.size w W → Calls Tryz.prog 53 #[.slice p3 fo.length c3] W (RetV 0 5 ⟨#[]⟩ (listFoT fo) .nil W)))
    (HCa : Hid (∀ W, Below w.heap.size w W → Calls Tryz.prog 55 #[.slice p4 ch.length c4] W (RetV 0 5 ⟨#[]⟩ (listChT ch) .nil W)))
    (HS3 : Hid (∀ i e, fo[i]? = some e → FoOk w e ∧ ∃ b o c, Value.slice p3 fo.length c3 = .slice (some ⟨b, o, none⟩) fo.length c ∧ ∀ W, Below w.heap.size w W → W.cell? ⟨b, o + i * 3, none⟩ = some (.int .i64 e.a) ∧ W.cell? ⟨b, o + i * 3 + 1, none⟩ = some (.int .i64 e.b) ∧ W.cell? ⟨b, o + i * 3 + 2, none⟩ = some (.bool e.cm)))
    (HSC : Hid (SrcC w (.slice p4 ch.length c4) ch)) (hn3 : fo.length ≤ 1048576) (HN4 : Hid (ch.length ≤ 1000000)) {u0 u1 u2 u5 u6 u7 u8 u9 u10 u11 u12 u13 u14 u15 u16 u17 u18 u19 u20 u21 u22 u23 u24 u25 u26 u27 u28 u29 u30 u31 u32 u33 u34 u35 u36 u37 u38 u39 u40 u41 u42 u43 u44 u45 u46 u47 u48 u49 u50 u51 u52 u53 u54 u55 u56 u57 u58 u59 u60 u61 u62 u63 u64 u65 u66 u67 u68 u69 u70 u71 u72 u73 u74 u75 u76 u77 u78 u79 u80 u81 u82 u83 u84 u85 u86 u87 u88 u89 u90 u91 u92 u93 u94 u95 u96 u97 u98 u99 u100 u101 u102 u103 u104 u105 u106 u107 u108 u109 u110 u111 u112 u113 u114 u115 u116 u117 u118 u119 u120 u121 u122 u123 u124 u125 u126 u127 u128 u129 u130 u131 u132 u133 u134 u135 u136 u137 u138 u139 u140 u141 u142 u143 u144 u145 u146 u147 u148 u149 u150 u151 u152 u153 u154 u155 u156 u157 u158 u159 u160 u161 u162 u163 u164 u165 u166 u167 u168 u169 u170 u171 u172 u173 u174 u175 u176 u177 u178 u179 u180 u181 u182 u183 u184 u185 u186 u187 u188 u189 u190 u191 u192 u193 u194 u195 u196 u197 u198 u199 u200 u201 u202 u203 u204 u205 u206 u207 : Value} :
    Code.wp Tryz.prog (tail8At 8 (Tryz.f8.body.getD .skip)) (bodyPost Tryz.prog Tryz.f8 (True8 w)) { tmps := #[u0, u1, u2, .slice p3 fo.length c3, .slice p4 ch.length c4, u5, u6, u7, u8, u9, u10, u11, u12, u13, u14, u15, u16, u17, u18, u19, u20, u21, u22, u23, u24, u25, u26, u27, u28, u29, u30, u31, u32, u33, u34, u35, u36, u37, u38, u39, u40, u41, u42, u43, u44, u45, u46, u47, u48, u49, u50, u51, u52, u53, u54, u55, u56, u57, u58, u59, u60, u61, u62, u63, u64, u65, u66, u67, u68, u69, u70, u71, u72, u73, u74, u75, u76, u77, u78, u79, u80, u81, u82, u83, u84, u85, u86, u87, u88, u89, u90, u91, u92, u93, u94, u95, u96, u97, u98, u99, u100, u101, u102, u103, u104, u105, u106, u107, u108, u109, u110, u111, u112, u113, u114, u115, u116, u117, u118, u119, u120, u121, u122, u123, u124, u125, u126, u127, u128, u129, u130, u131, u132, u133, u134, u135, u136, u137, u138, u139, u140, u141, u142, u143, u144, u145, u146, u147, u148, u149, u150, u151, u152, u153, u154, u155, u156, u157, u158, u159, u160, u161, u162, u163, u164, u165, u166, u167, u168, u169, u170, u171, u172, u173, u174, u175, u176, u177, u178, u179, u180, u181, u182, u183, u184, u185, u186, u187, u188, u189, u190, u191, u192, u193, u194, u195, u196, u197, u198, u199, u200, u201, u202, u203, u204, u205, u206, u207], defers := [] } wc := by
  have Bc := Lib.hid hBc
  clear hBc
  change Code.wp _ (Code.seq _ _) _ _ _
  go_wp2_with fail
  refine (HFo.out wc Bc.out).mono ?_
  rintro e w3 ⟨yv, rfl, ⟨pv, nv, cv, qv, mv, dv, rfl, hl, hf⟩, hB⟩
  obtain ⟨pv', cv', ev, -⟩ := hl.len
  cases ev
  obtain ⟨qv', dv', ev, -⟩ := hf.len
  cases ev
  rw [listFoT_len] at hl
  have VV : Hid (VB8 w3.heap.size 5 ⟨#[]⟩ pv fo.length cv qv V.T.nil.len dv (listFoT fo) .nil (w3.alloc (.cells #[.int .u8 5, .string ⟨#[]⟩, .slice pv fo.length cv, .slice qv V.T.nil.len dv] 25))) := Lib.hid (VB8.new (k := 5) (x := ⟨#[]⟩) hl hf)
  have B4 := Lib.hid (Bc.out.trans ((hB.trans (((Below.refl w3.heap.size w3).alloc (Nat.le_refl _) (.cells #[.int .u8 5, .string ⟨#[]⟩, .slice pv fo.length cv, .slice qv V.T.nil.len dv] 25)).mono hB.size)).mono Bc.out.size))
  clear hl hf hB
  rw [listFoT_len]
  go_upto_region 17 with fail
  generalize w3.alloc (.cells #[.int .u8 5, .string ⟨#[]⟩, .slice pv fo.length cv, .slice qv V.T.nil.len dv] 25) = W4 at *
  obtain ⟨s0, s1, s2, s3⟩ := VV.out.cells
  go_wp2_with fail
  clear s0 s1 s2 s3
  go_loopw [21] (fun p wr => ∃ i : Nat, p = .int .i64 (i : Int) ∧ i ≤ fo.length ∧ Hid (VB8 w3.heap.size 5 ⟨#[]⟩ pv fo.length cv qv V.T.nil.len dv (listFoT fo) .nil wr ∧ Below w.heap.size w wr)) (fun p _ => fo.length - (RowKit.intOf p).toNat)
  case atStart => exact ⟨0, rfl, Nat.zero_le _, Lib.hid ⟨VV.out, B4.out⟩⟩
  case round =>
    obtain ⟨i, rfl, hi, HR⟩ := hrel
    by_cases hlt : i < fo.length
    · have he := List.getElem?_eq_getElem hlt
      obtain ⟨hq, b, o, c, e1, hc⟩ := HS3.out i _ he
      have hd := listFoT_drop fo i _ he
      generalize fo[i] = e at *
      obtain ⟨st, de, cm⟩ := e
      dsimp only at hd hc
      have hq : I64 st ∧ I64 de := hq
      obtain ⟨rfl, rfl⟩ : p3 = some ⟨b, o, none⟩ ∧ c3 = c := by cases e1; exact ⟨rfl, rfl⟩
      obtain ⟨b1, o1, va, ua, rfl, E1⟩ := HR.out.1.2.1.elem (by rw [listFoT_len]; exact hlt) hd
      obtain ⟨p5, c5, rfl, -⟩ := E1.hl.len
      obtain ⟨q5, d5, rfl, -⟩ := E1.hf.len
      have k1 := E1.kind
      have k2 := E1.text
      have k3 := E1.list
      have k4 := E1.fields
      simp only [Nat.add_zero, Nat.reduceAdd] at k1 k2 k3 k4
      have HE := Lib.hid (And.intro E1.hl E1.hf)
      have HQ := Lib.hid hq
      have HC := Lib.hid hc
      have HL := Lib.hid hlt
      have k1 : wr.cell? ⟨b1, o1 + i * 4, none⟩ = some (.int .u8 6) := k1
      have HCx := Lib.hid (And.intro k1 (And.intro k2 (And.intro k3 k4)))
      obtain ⟨s0, s1, s2, s3⟩ := HR.out.1.cells
      have hi2 : (0 : Int) ≤ (i : Int) := Int.natCast_nonneg i
      have hi3 : (i : Int) < (fo.length : Int) := by omega
      clear he hq e1 hc hd E1 hlt
      cases cm
      · skip
        have hl3 : (foldT st de false).len = 2 := rfl
        rw [hl3] at HCx HE k4
        have HG := Lib.hid (show Calls Tryz.prog 49 #[.agg #[.int .u8 6, .string ⟨#[]⟩, .slice p5 V.T.nil.len c5, .slice q5 2 d5], .string ⟨#[107, 105, 110, 100]⟩] wr (GotF (none) wr) from by
          have hg := got_fki st de false
          simp only [if_true, Bool.false_eq_true, if_false] at hg
          rw [← hg]
          exact get_any 6 ⟨#[]⟩ ⟨#[107, 105, 110, 100]⟩ _ _ .nil (foldT st de false) _ wr HE.out.1 HE.out.2)
        go_wp2_with fail
        refine HG.out.mono ?_
        clear s0 s1 s2 s3 k1 k2 k3 k4 HG
        rintro e w10 ⟨vz, uz, rfl, hx, hu, -, -, hB⟩
        change HS w10 _ 0 vz .nil at hx
        change HS w10 _ 1 uz .nil at hu
        obtain ⟨pz, cz, rfl, -⟩ := hx.len
        obtain ⟨qz, dz, rfl, -⟩ := hu.len
        have hB11 := hB.trans (((Below.refl w10.heap.size w10).alloc (Nat.le_refl _) (.cells #[.int .u8 0, .string ⟨#[]⟩, .slice pz V.T.nil.len cz, .slice qz V.T.nil.len dz] 25)).mono hB.size)
        have VY11 := Lib.hid (HR.out.1.on hB11)
        have B11 := Lib.hid (HR.out.2.trans (hB11.mono HR.out.2.size))
        have HE11 := Lib.hid (And.intro (HE.out.1.below hB11) (HE.out.2.below hB11))
        have HX11 := Lib.hid (And.intro (bcellv hB11 HCx.out.1) (And.intro (bcellv hB11 HCx.out.2.1) (And.intro (bcellv hB11 HCx.out.2.2.1) (bcellv hB11 HCx.out.2.2.2))))
        clear hx hu hB hB11 HE HCx
        simp only [V.res]
        go_upto_region 23 with fail
        generalize w10.alloc (.cells #[.int .u8 0, .string ⟨#[]⟩, .slice pz V.T.nil.len cz, .slice qz V.T.nil.len dz] 25) = W11 at *
        have HN1 := Lib.hid (fun W (hB : Below W11.heap.size W11 W) => (show Calls Tryz.prog 52 #[.agg #[.int .u8 6, .string ⟨#[]⟩, .slice p5 V.T.nil.len c5, .slice q5 2 d5], .string ⟨#[115, 116, 97, 114, 116, 76, 105, 110, 101]⟩, .int .i64 st] W (TrueB W) from number8_any 6 ⟨#[]⟩ _ _ .nil _ _ ⟨#[115, 116, 97, 114, 116, 76, 105, 110, 101]⟩ st W (HE11.out.1.below hB) (HE11.out.2.below hB) (got_fsl _ _ _) HQ.out.1))
        have HN2 := Lib.hid (fun W (hB : Below W11.heap.size W11 W) => (show Calls Tryz.prog 52 #[.agg #[.int .u8 6, .string ⟨#[]⟩, .slice p5 V.T.nil.len c5, .slice q5 2 d5], .string ⟨#[101, 110, 100, 76, 105, 110, 101]⟩, .int .i64 de] W (TrueB W) from number8_any 6 ⟨#[]⟩ _ _ .nil _ _ ⟨#[101, 110, 100, 76, 105, 110, 101]⟩ de W (HE11.out.1.below hB) (HE11.out.2.below hB) (got_fel _ _ _) HQ.out.2))
        have KEEP := Lib.hid (fun w' (hB : Below W11.heap.size W11 w') => (by
          obtain ⟨a0, a1, a2, a3⟩ := (VY11.out.on hB).cells
          obtain ⟨c0, c1, c2⟩ := HC.out w' (B11.out.trans (hB.mono B11.out.size))
          exact ⟨a2, bcellv hB HX11.out.1, bcellv hB HX11.out.2.1, bcellv hB HX11.out.2.2.1, bcellv hB HX11.out.2.2.2, c0, c1, c2⟩ : w'.cell? ⟨w3.heap.size, 2, none⟩ = some (.slice (some ⟨b1, o1, none⟩) fo.length cv) ∧ w'.cell? ⟨b1, o1 + i * 4, none⟩ = some (.int .u8 6) ∧ w'.cell? ⟨b1, o1 + i * 4 + 1, none⟩ = some (.string ⟨#[]⟩) ∧ w'.cell? ⟨b1, o1 + i * 4 + 2, none⟩ = some (.slice p5 V.T.nil.len c5) ∧ w'.cell? ⟨b1, o1 + i * 4 + 3, none⟩ = some (.slice q5 2 d5) ∧ w'.cell? ⟨b, o + i * 3, none⟩ = some (.int .i64 st) ∧ w'.cell? ⟨b, o + i * 3 + 1, none⟩ = some (.int .i64 de) ∧ w'.cell? ⟨b, o + i * 3 + 2, none⟩ = some (.bool false)))
        have HRd := Lib.hid ((Below.refl W11.heap.size W11).drew)
        refine wp_region_stepsP [some 157, some 158, some 159, some 160, some 161, some 162, some 163, some 164, some 165, some 166, some 167, some 168, some 169, some 170, some 171, some 172, some 173, some 174, some 175, some 176, some 177, some 178, some 179, some 180, some 181, some 182, some 183, some 184, some 185, some 186, some 187, some 188, some 189, some 190, some 191, some 192, some 193, some 194, some 195, some 196, some 197, some 198, some 199, some 200, some 201, some 202, some 203] _ _ (G := fun W => Below W11.heap.size W11 W) (F := FBk23 p5 q5 w3.heap.size b1 o1 b o i fo.length cv c3 c5 d5 st de) (z := 46) (by kernel_rfl) rfl (by decide +kernel) rfl (by decide +kernel) (by decide +kernel) rfl (fun W W' h hB => h.trans (hB.mono h.size)) (fun i y W W' h hB => h.on hB) ?_ ?_ HRd.out
        · intro i o' ho hz a W hg hd hold K' hK
          have HG := Lib.hid hg
          have hlt : i < 47 := (Array.getElem?_eq_some_iff.1 ho).1
          clear hg
          obtain rfl | rfl | rfl | rfl | rfl | rfl | rfl | rfl | rfl | rfl | rfl | rfl | rfl | rfl | rfl | rfl | rfl | rfl | rfl | rfl | rfl | rfl | rfl | rfl | rfl | rfl | rfl | rfl | rfl | rfl | rfl | rfl | rfl | rfl | rfl | rfl | rfl | rfl | rfl | rfl | rfl | rfl | rfl | rfl | rfl | rfl | rfl : i = 0 ∨ i = 1 ∨ i = 2 ∨ i = 3 ∨ i = 4 ∨ i = 5 ∨ i = 6 ∨ i = 7 ∨ i = 8 ∨ i = 9 ∨ i = 10 ∨ i = 11 ∨ i = 12 ∨ i = 13 ∨ i = 14 ∨ i = 15 ∨ i = 16 ∨ i = 17 ∨ i = 18 ∨ i = 19 ∨ i = 20 ∨ i = 21 ∨ i = 22 ∨ i = 23 ∨ i = 24 ∨ i = 25 ∨ i = 26 ∨ i = 27 ∨ i = 28 ∨ i = 29 ∨ i = 30 ∨ i = 31 ∨ i = 32 ∨ i = 33 ∨ i = 34 ∨ i = 35 ∨ i = 36 ∨ i = 37 ∨ i = 38 ∨ i = 39 ∨ i = 40 ∨ i = 41 ∨ i = 42 ∨ i = 43 ∨ i = 44 ∨ i = 45 ∨ i = 46 := by omega
          · obtain rfl := Option.some.inj ho
            have o20 : a.tmps[20]? = _ := (hold 20 rfl).trans rfl
            clear hd hold
            go_simp
            exact hK.out _ _ (by rfl) (Below.refl _ _)
          · obtain rfl := Option.some.inj ho
            obtain ⟨y0, e0, h0⟩ := hd 0 157 rfl (by decide +kernel) (by decide)
            have h0 : y0 = _ := h0
            have h0 := h0.symm
            subst h0
            obtain ⟨z0, z1, z2, z3, z4, z5, z6, z7⟩ := KEEP.out W HG.out
            clear hd hold
            go_simp
            exact hK.out _ _ (by rfl) (Below.refl _ _)
          · obtain rfl := Option.some.inj ho
            have o21 : a.tmps[21]? = _ := (hold 21 rfl).trans rfl
            clear hd hold
            go_simp
            exact hK.out _ _ (by rfl) (Below.refl _ _)
          · obtain rfl := Option.some.inj ho
            obtain ⟨y1, e1, h1⟩ := hd 1 158 rfl (by decide +kernel) (by decide)
            have h1 : y1 = _ := h1
            have h1 := h1.symm
            subst h1
            obtain ⟨y2, e2, h2⟩ := hd 2 159 rfl (by decide +kernel) (by decide)
            have h2 : y2 = _ := h2
            have h2 := h2.symm
            subst h2
            have hlt := HL.out
            clear hd hold
            go_simp
            exact hK.out _ _ (by rfl) (Below.refl _ _)
          · obtain rfl := Option.some.inj ho
            obtain ⟨y3, e3, h3⟩ := hd 3 160 rfl (by decide +kernel) (by decide)
            have h3 : y3 = _ := h3
            have h3 := h3.symm
            subst h3
            obtain ⟨z0, z1, z2, z3, z4, z5, z6, z7⟩ := KEEP.out W HG.out
            clear hd hold
            go_simp
            exact hK.out _ _ (by rfl) (Below.refl _ _)
          · obtain rfl := Option.some.inj ho
            have o3 : a.tmps[3]? = _ := (hold 3 rfl).trans rfl
            clear hd hold
            go_simp
            exact hK.out _ _ (by rfl) (Below.refl _ _)
          · obtain rfl := Option.some.inj ho
            have o21 : a.tmps[21]? = _ := (hold 21 rfl).trans rfl
            clear hd hold
            go_simp
            exact hK.out _ _ (by rfl) (Below.refl _ _)
          · obtain rfl := Option.some.inj ho
            obtain ⟨y5, e5, h5⟩ := hd 5 162 rfl (by decide +kernel) (by decide)
            have h5 : y5 = _ := h5
            have h5 := h5.symm
            subst h5
            obtain ⟨y6, e6, h6⟩ := hd 6 163 rfl (by decide +kernel) (by decide)
            have h6 : y6 = _ := h6
            have h6 := h6.symm
            subst h6
            have hlt := HL.out
            clear hd hold
            go_simp
            exact hK.out _ _ (by rfl) (Below.refl _ _)
          · obtain rfl := Option.some.inj ho
            obtain ⟨y7, e7, h7⟩ := hd 7 164 rfl (by decide +kernel) (by decide)
            have h7 : y7 = _ := h7
            have h7 := h7.symm
            subst h7
            clear hd hold
            go_simp
            exact hK.out _ _ (by rfl) (Below.refl _ _)
          · obtain rfl := Option.some.inj ho
            obtain ⟨y8, e8, h8⟩ := hd 8 165 rfl (by decide +kernel) (by decide)
            have h8 : y8 = _ := h8
            have h8 := h8.symm
            subst h8
            obtain ⟨z0, z1, z2, z3, z4, z5, z6, z7⟩ := KEEP.out W HG.out
            clear hd hold
            go_simp
            exact hK.out _ _ (by rfl) (Below.refl _ _)
          · obtain rfl := Option.some.inj ho
            obtain ⟨y4, e4, h4⟩ := hd 4 161 rfl (by decide +kernel) (by decide)
            have h4 : y4 = _ := h4
            have h4 := h4.symm
            subst h4
            obtain ⟨y9, e9, h9⟩ := hd 9 166 rfl (by decide +kernel) (by decide)
            have h9 : y9 = _ := h9
            have h9 := h9.symm
            subst h9
            have HC := Lib.hid (HN1.out W HG.out)
            clear hd hold
            go_simp
            go_at_call 52
            (with_reducible refine HC.out.mono ?_)
            rintro e W1 ⟨rfl, hB⟩
            exact hK.out _ _ (by rfl) hB
          · obtain rfl := Option.some.inj ho
            obtain ⟨y10, e10, h10⟩ := hd 10 167 rfl (by decide +kernel) (by decide)
            have h10 : y10 = _ := h10
            have h10 := h10.symm
            subst h10
            clear hd hold
            go_simp
            exact hK.out _ _ (by rfl) (Below.refl _ _)
          · obtain rfl := Option.some.inj ho
            obtain ⟨y11, e11, h11⟩ := hd 11 168 rfl (by decide +kernel) (by decide)
            have h11 : y11 = _ := h11
            have h11 := h11.symm
            subst h11
            clear hd hold
            go_simp
            exact hK.out _ _ (by rfl) (Below.refl _ _)
          · obtain rfl := Option.some.inj ho
            obtain ⟨y12, e12, h12⟩ := hd 12 169 rfl (by decide +kernel) (by decide)
            have h12 : y12 = _ := h12
            have h12 := h12.symm
            subst h12
            have o20 : a.tmps[20]? = _ := (hold 20 rfl).trans rfl
            clear hd hold
            go_simp
            exact hK.out _ _ (by rfl) (Below.refl _ _)
          · obtain rfl := Option.some.inj ho
            obtain ⟨y13, e13, h13⟩ := hd 13 170 rfl (by decide +kernel) (by decide)
            have h13 : y13 = _ := h13
            have h13 := h13.symm
            subst h13
            obtain ⟨y12, e12, h12⟩ := hd 12 169 rfl (by decide +kernel) (by decide)
            have h12 : y12 = _ := h12
            have h12 := h12.symm
            subst h12
            obtain ⟨z0, z1, z2, z3, z4, z5, z6, z7⟩ := KEEP.out W HG.out
            clear hd hold
            go_simp
            exact hK.out _ _ (by rfl) (Below.refl _ _)
          · obtain rfl := Option.some.inj ho
            obtain ⟨y12, e12, h12⟩ := hd 12 169 rfl (by decide +kernel) (by decide)
            have h12 : y12 = _ := h12
            have h12 := h12.symm
            subst h12
            have o21 : a.tmps[21]? = _ := (hold 21 rfl).trans rfl
            clear hd hold
            go_simp
            exact hK.out _ _ (by rfl) (Below.refl _ _)
          · obtain rfl := Option.some.inj ho
            obtain ⟨y14, e14, h14⟩ := hd 14 171 rfl (by decide +kernel) (by decide)
            have h14 : y14 = _ := h14
            have h14 := h14.symm
            subst h14
            obtain ⟨y15, e15, h15⟩ := hd 15 172 rfl (by decide +kernel) (by decide)
            have h15 : y15 = _ := h15
            have h15 := h15.symm
            subst h15
            obtain ⟨y12, e12, h12⟩ := hd 12 169 rfl (by decide +kernel) (by decide)
            have h12 : y12 = _ := h12
            have h12 := h12.symm
            subst h12
            have hlt := HL.out
            clear hd hold
            go_simp
            exact hK.out _ _ (by rfl) (Below.refl _ _)
          · obtain rfl := Option.some.inj ho
            obtain ⟨y16, e16, h16⟩ := hd 16 173 rfl (by decide +kernel) (by decide)
            have h16 : y16 = _ := h16
            have h16 := h16.symm
            subst h16
            obtain ⟨y12, e12, h12⟩ := hd 12 169 rfl (by decide +kernel) (by decide)
            have h12 : y12 = _ := h12
            have h12 := h12.symm
            subst h12
            obtain ⟨z0, z1, z2, z3, z4, z5, z6, z7⟩ := KEEP.out W HG.out
            clear hd hold
            go_simp
            exact hK.out _ _ (by rfl) (Below.refl _ _)
          · obtain rfl := Option.some.inj ho
            obtain ⟨y12, e12, h12⟩ := hd 12 169 rfl (by decide +kernel) (by decide)
            have h12 : y12 = _ := h12
            have h12 := h12.symm
            subst h12
            have o3 : a.tmps[3]? = _ := (hold 3 rfl).trans rfl
            clear hd hold
            go_simp
            exact hK.out _ _ (by rfl) (Below.refl _ _)
          · obtain rfl := Option.some.inj ho
            obtain ⟨y12, e12, h12⟩ := hd 12 169 rfl (by decide +kernel) (by decide)
            have h12 : y12 = _ := h12
            have h12 := h12.symm
            subst h12
            have o21 : a.tmps[21]? = _ := (hold 21 rfl).trans rfl
            clear hd hold
            go_simp
            exact hK.out _ _ (by rfl) (Below.refl _ _)
          · obtain rfl := Option.some.inj ho
            obtain ⟨y18, e18, h18⟩ := hd 18 175 rfl (by decide +kernel) (by decide)
            have h18 : y18 = _ := h18
            have h18 := h18.symm
            subst h18
            obtain ⟨y19, e19, h19⟩ := hd 19 176 rfl (by decide +kernel) (by decide)
            have h19 : y19 = _ := h19
            have h19 := h19.symm
            subst h19
            obtain ⟨y12, e12, h12⟩ := hd 12 169 rfl (by decide +kernel) (by decide)
            have h12 : y12 = _ := h12
            have h12 := h12.symm
            subst h12
            have hlt := HL.out
            clear hd hold
            go_simp
            exact hK.out _ _ (by rfl) (Below.refl _ _)
          · obtain rfl := Option.some.inj ho
            obtain ⟨y20, e20, h20⟩ := hd 20 177 rfl (by decide +kernel) (by decide)
            have h20 : y20 = _ := h20
            have h20 := h20.symm
            subst h20
            obtain ⟨y12, e12, h12⟩ := hd 12 169 rfl (by decide +kernel) (by decide)
            have h12 : y12 = _ := h12
            have h12 := h12.symm
            subst h12
            clear hd hold
            go_simp
            exact hK.out _ _ (by rfl) (Below.refl _ _)
          · obtain rfl := Option.some.inj ho
            obtain ⟨y21, e21, h21⟩ := hd 21 178 rfl (by decide +kernel) (by decide)
            have h21 : y21 = _ := h21
            have h21 := h21.symm
            subst h21
            obtain ⟨y12, e12, h12⟩ := hd 12 169 rfl (by decide +kernel) (by decide)
            have h12 : y12 = _ := h12
            have h12 := h12.symm
            subst h12
            obtain ⟨z0, z1, z2, z3, z4, z5, z6, z7⟩ := KEEP.out W HG.out
            clear hd hold
            go_simp
            exact hK.out _ _ (by rfl) (Below.refl _ _)
          · obtain rfl := Option.some.inj ho
            obtain ⟨y17, e17, h17⟩ := hd 17 174 rfl (by decide +kernel) (by decide)
            have h17 : y17 = _ := h17
            have h17 := h17.symm
            subst h17
            obtain ⟨y22, e22, h22⟩ := hd 22 179 rfl (by decide +kernel) (by decide)
            have h22 : y22 = _ := h22
            have h22 := h22.symm
            subst h22
            obtain ⟨y12, e12, h12⟩ := hd 12 169 rfl (by decide +kernel) (by decide)
            have h12 : y12 = _ := h12
            have h12 := h12.symm
            subst h12
            have HC := Lib.hid (HN2.out W HG.out)
            clear hd hold
            go_simp
            go_at_call 52
            (with_reducible refine HC.out.mono ?_)
            rintro e W1 ⟨rfl, hB⟩
            exact hK.out _ _ (by rfl) hB
          · obtain rfl := Option.some.inj ho
            obtain ⟨y23, e23, h23⟩ := hd 23 180 rfl (by decide +kernel) (by decide)
            have h23 : y23 = _ := h23
            have h23 := h23.symm
            subst h23
            obtain ⟨y12, e12, h12⟩ := hd 12 169 rfl (by decide +kernel) (by decide)
            have h12 : y12 = _ := h12
            have h12 := h12.symm
            subst h12
            clear hd hold
            go_simp
            exact hK.out _ _ (by rfl) (Below.refl _ _)
          · obtain rfl := Option.some.inj ho
            obtain ⟨y12, e12, h12⟩ := hd 12 169 rfl (by decide +kernel) (by decide)
            have h12 : y12 = _ := h12
            have h12 := h12.symm
            subst h12
            obtain ⟨y24, e24, h24⟩ := hd 24 181 rfl (by decide +kernel) (by decide)
            have h24 : y24 = _ := h24
            have h24 := h24.symm
            subst h24
            clear hd hold
            go_simp
            exact hK.out _ _ (by rfl) (Below.refl _ _)
          · obtain rfl := Option.some.inj ho
            obtain ⟨y25, e25, h25⟩ := hd 25 182 rfl (by decide +kernel) (by decide)
            have h25 : y25 = _ := h25
            have h25 := h25.symm
            subst h25
            clear hd hold
            go_simp
            exact hK.out _ _ (by rfl) (Below.refl _ _)
          · obtain rfl := Option.some.inj ho
            obtain ⟨y26, e26, h26⟩ := hd 26 183 rfl (by decide +kernel) (by decide)
            have h26 : y26 = _ := h26
            have h26 := h26.symm
            subst h26
            have o23 : a.tmps[23]? = _ := (hold 23 rfl).trans rfl
            clear hd hold
            go_simp
            exact hK.out _ _ (by rfl) (Below.refl _ _)
          · obtain rfl := Option.some.inj ho
            obtain ⟨y26, e26, h26⟩ := hd 26 183 rfl (by decide +kernel) (by decide)
            have h26 : y26 = _ := h26
            have h26 := h26.symm
            subst h26
            have o3 : a.tmps[3]? = _ := (hold 3 rfl).trans rfl
            clear hd hold
            go_simp
            exact hK.out _ _ (by rfl) (Below.refl _ _)
          · obtain rfl := Option.some.inj ho
            obtain ⟨y26, e26, h26⟩ := hd 26 183 rfl (by decide +kernel) (by decide)
            have h26 : y26 = _ := h26
            have h26 := h26.symm
            subst h26
            have o21 : a.tmps[21]? = _ := (hold 21 rfl).trans rfl
            clear hd hold
            go_simp
            exact hK.out _ _ (by rfl) (Below.refl _ _)
          · obtain rfl := Option.some.inj ho
            obtain ⟨y28, e28, h28⟩ := hd 28 185 rfl (by decide +kernel) (by decide)
            have h28 : y28 = _ := h28
            have h28 := h28.symm
            subst h28
            obtain ⟨y29, e29, h29⟩ := hd 29 186 rfl (by decide +kernel) (by decide)
            have h29 : y29 = _ := h29
            have h29 := h29.symm
            subst h29
            obtain ⟨y26, e26, h26⟩ := hd 26 183 rfl (by decide +kernel) (by decide)
            have h26 : y26 = _ := h26
            have h26 := h26.symm
            subst h26
            have hlt := HL.out
            clear hd hold
            go_simp
            exact hK.out _ _ (by rfl) (Below.refl _ _)
          · obtain rfl := Option.some.inj ho
            obtain ⟨y30, e30, h30⟩ := hd 30 187 rfl (by decide +kernel) (by decide)
            have h30 : y30 = _ := h30
            have h30 := h30.symm
            subst h30
            obtain ⟨y26, e26, h26⟩ := hd 26 183 rfl (by decide +kernel) (by decide)
            have h26 : y26 = _ := h26
            have h26 := h26.symm
            subst h26
            clear hd hold
            go_simp
            exact hK.out _ _ (by rfl) (Below.refl _ _)
          · obtain rfl := Option.some.inj ho
            obtain ⟨y31, e31, h31⟩ := hd 31 188 rfl (by decide +kernel) (by decide)
            have h31 : y31 = _ := h31
            have h31 := h31.symm
            subst h31
            obtain ⟨y26, e26, h26⟩ := hd 26 183 rfl (by decide +kernel) (by decide)
            have h26 : y26 = _ := h26
            have h26 := h26.symm
            subst h26
            obtain ⟨z0, z1, z2, z3, z4, z5, z6, z7⟩ := KEEP.out W HG.out
            clear hd hold
            go_simp
            exact hK.out _ _ (by rfl) (Below.refl _ _)
          · obtain rfl := Option.some.inj ho
            obtain ⟨y27, e27, h27⟩ := hd 27 184 rfl (by decide +kernel) (by decide)
            have h27 : y27 = _ := h27
            have h27 := h27.symm
            subst h27
            obtain ⟨y32, e32, h32⟩ := hd 32 189 rfl (by decide +kernel) (by decide)
            have h32 : y32 = _ := h32
            have h32 := h32.symm
            subst h32
            obtain ⟨y26, e26, h26⟩ := hd 26 183 rfl (by decide +kernel) (by decide)
            have h26 : y26 = _ := h26
            have h26 := h26.symm
            subst h26
            clear hd hold
            go_simp
            exact hK.out _ _ (by rfl) (Below.refl _ _)
          · obtain rfl := Option.some.inj ho
            obtain ⟨y26, e26, h26⟩ := hd 26 183 rfl (by decide +kernel) (by decide)
            have h26 : y26 = _ := h26
            have h26 := h26.symm
            subst h26
            obtain ⟨y33, e33, h33⟩ := hd 33 190 rfl (by decide +kernel) (by decide)
            have h33 : y33 = _ := h33
            have h33 := h33.symm
            subst h33
            clear hd hold
            go_simp
            exact hK.out _ _ (by rfl) (Below.refl _ _)
          · obtain rfl := Option.some.inj ho
            obtain ⟨y34, e34, h34⟩ := hd 34 191 rfl (by decide +kernel) (by decide)
            have h34 : y34 = _ := h34
            have h34 := h34.symm
            subst h34
            clear hd hold
            go_simp
            exact hK.out _ _ (by rfl) (Below.refl _ _)
          · obtain rfl := Option.some.inj ho
            obtain ⟨y35, e35, h35⟩ := hd 35 192 rfl (by decide +kernel) (by decide)
            have h35 : y35 = _ := h35
            have h35 := h35.symm
            subst h35
            have o23 : a.tmps[23]? = _ := (hold 23 rfl).trans rfl
            clear hd hold
            go_simp
            exact hK.out _ _ (by rfl) (Below.refl _ _)
          · obtain rfl := Option.some.inj ho
            obtain ⟨y36, e36, h36⟩ := hd 36 193 rfl (by decide +kernel) (by decide)
            have h36 : y36 = _ := h36
            have h36 := h36.symm
            subst h36
            obtain ⟨y35, e35, h35⟩ := hd 35 192 rfl (by decide +kernel) (by decide)
            have h35 : y35 = _ := h35
            have h35 := h35.symm
            subst h35
            clear hd hold
            go_simp
            exact hK.out _ _ (by rfl) (Below.refl _ _)
          · obtain rfl := Option.some.inj ho
            obtain ⟨y37, e37, h37⟩ := hd 37 194 rfl (by decide +kernel) (by decide)
            have h37 : y37 = _ := h37
            have h37 := h37.symm
            subst h37
            clear hd hold
            go_simp
            exact hK.out _ _ (by rfl) (Below.refl _ _)
          · obtain rfl := Option.some.inj ho
            obtain ⟨y37, e37, h37⟩ := hd 37 194 rfl (by decide +kernel) (by decide)
            have h37 : y37 = _ := h37
            have h37 := h37.symm
            subst h37
            clear hd hold
            go_simp
            exact hK.out _ _ (by rfl) (Below.refl _ _)
          · obtain rfl := Option.some.inj ho
            obtain ⟨y37, e37, h37⟩ := hd 37 194 rfl (by decide +kernel) (by decide)
            have h37 : y37 = _ := h37
            have h37 := h37.symm
            subst h37
            clear hd hold
            go_simp
            exact hK.out _ _ (by rfl) (Below.refl _ _)
          · obtain rfl := Option.some.inj ho
            obtain ⟨y37, e37, h37⟩ := hd 37 194 rfl (by decide +kernel) (by decide)
            have h37 : y37 = _ := h37
            have h37 := h37.symm
            subst h37
            clear hd hold
            go_simp
            exact hK.out _ _ (by rfl) (Below.refl _ _)
          · obtain rfl := Option.some.inj ho
            obtain ⟨y37, e37, h37⟩ := hd 37 194 rfl (by decide +kernel) (by decide)
            have h37 : y37 = _ := h37
            have h37 := h37.symm
            subst h37
            clear hd hold
            go_simp
            exact hK.out _ _ (by rfl) (Below.refl _ _)
          · obtain rfl := Option.some.inj ho
            obtain ⟨y37, e37, h37⟩ := hd 37 194 rfl (by decide +kernel) (by decide)
            have h37 : y37 = _ := h37
            have h37 := h37.symm
            subst h37
            clear hd hold
            go_simp
            exact hK.out _ _ (by rfl) (Below.refl _ _)
          · obtain rfl := Option.some.inj ho
            obtain ⟨y37, e37, h37⟩ := hd 37 194 rfl (by decide +kernel) (by decide)
            have h37 : y37 = _ := h37
            have h37 := h37.symm
            subst h37
            clear hd hold
            go_simp
            exact hK.out _ _ (by rfl) (Below.refl _ _)
          · obtain rfl := Option.some.inj ho
            obtain ⟨y37, e37, h37⟩ := hd 37 194 rfl (by decide +kernel) (by decide)
            have h37 : y37 = _ := h37
            have h37 := h37.symm
            subst h37
            obtain ⟨y35, e35, h35⟩ := hd 35 192 rfl (by decide +kernel) (by decide)
            have h35 : y35 = _ := h35
            have h35 := h35.symm
            subst h35
            clear hd hold
            go_simp
            exact hK.out _ _ (by rfl) (Below.refl _ _)
          · exact absurd rfl hz
        · intro a W hg hf hold hput K' hK
          obtain ⟨y35, o192, v35⟩ := hf 35 192 rfl (by decide) (by decide)
          obtain ⟨y45, o202, v45⟩ := hf 45 202 rfl (by decide) (by decide)
          have v35 : y35 = _ := v35
          have v45 : y45 = _ := v45
          subst v35
          subst v45
          have hC2 := hg
          clear hg hf hold
          go_simp
          refine hK.out _ _ ?_
          obtain ⟨rr, ha⟩ := hput.out
          clear hput o192 o202
          subst ha
          simp only [putL, Act.put, List.setIfInBounds_toArray, List.set_cons_zero, List.set_cons_succ]
          clear hK K'
          generalize rr 0 = e0 at *
          have VYd := Lib.hid (VY11.out.on hC2)
          have Bd := Lib.hid (B11.out.trans (hC2.mono B11.out.size))
          clear KEEP HN1 HN2 hC2
          go_wp2_with fail
          go_roundw
          case rel => exact ⟨i + 1, by go_num, HL.out, Lib.hid ⟨VYd.out, Bd.out⟩⟩
          case measure => have := HL.out; simp [RowKit.intOf]; omega
      · skip
        have hl3 : (foldT st de true).len = 3 := rfl
        rw [hl3] at HCx HE k4
        have HG := Lib.hid (show Calls Tryz.prog 49 #[.agg #[.int .u8 6, .string ⟨#[]⟩, .slice p5 V.T.nil.len c5, .slice q5 3 d5], .string ⟨#[107, 105, 110, 100]⟩] wr (GotF (some (4, ⟨#[99, 111, 109, 109, 101, 110, 116]⟩, .nil, .nil)) wr) from by
          have hg := got_fki st de true
          simp only [if_true, Bool.false_eq_true, if_false] at hg
          rw [← hg]
          exact get_any 6 ⟨#[]⟩ ⟨#[107, 105, 110, 100]⟩ _ _ .nil (foldT st de true) _ wr HE.out.1 HE.out.2)
        go_wp2_with fail
        refine HG.out.mono ?_
        clear s0 s1 s2 s3 k1 k2 k3 k4 HG
        rintro e w10 ⟨vz, uz, rfl, hx, hu, -, -, hB⟩
        change HS w10 _ 0 vz .nil at hx
        change HS w10 _ 1 uz .nil at hu
        obtain ⟨pz, cz, rfl, -⟩ := hx.len
        obtain ⟨qz, dz, rfl, -⟩ := hu.len
        have hB11 := hB.trans (((Below.refl w10.heap.size w10).alloc (Nat.le_refl _) (.cells #[.int .u8 4, .string ⟨#[99, 111, 109, 109, 101, 110, 116]⟩, .slice pz V.T.nil.len cz, .slice qz V.T.nil.len dz] 25)).mono hB.size)
        have VY11 := Lib.hid (HR.out.1.on hB11)
        have B11 := Lib.hid (HR.out.2.trans (hB11.mono HR.out.2.size))
        have HE11 := Lib.hid (And.intro (HE.out.1.below hB11) (HE.out.2.below hB11))
        have HX11 := Lib.hid (And.intro (bcellv hB11 HCx.out.1) (And.intro (bcellv hB11 HCx.out.2.1) (And.intro (bcellv hB11 HCx.out.2.2.1) (bcellv hB11 HCx.out.2.2.2))))
        clear hx hu hB hB11 HE HCx
        simp only [V.res]
        go_upto_region 23 with fail
        generalize w10.alloc (.cells #[.int .u8 4, .string ⟨#[99, 111, 109, 109, 101, 110, 116]⟩, .slice pz V.T.nil.len cz, .slice qz V.T.nil.len dz] 25) = W11 at *
        have HN1 := Lib.hid (fun W (hB : Below W11.heap.size W11 W) => (show Calls Tryz.prog 52 #[.agg #[.int .u8 6, .string ⟨#[]⟩, .slice p5 V.T.nil.len c5, .slice q5 3 d5], .string ⟨#[115, 116, 97, 114, 116, 76, 105, 110, 101]⟩, .int .i64 st] W (TrueB W) from number8_any 6 ⟨#[]⟩ _ _ .nil _ _ ⟨#[115, 116, 97, 114, 116, 76, 105, 110, 101]⟩ st W (HE11.out.1.below hB) (HE11.out.2.below hB) (got_fsl _ _ _) HQ.out.1))
        have HN2 := Lib.hid (fun W (hB : Below W11.heap.size W11 W) => (show Calls Tryz.prog 52 #[.agg #[.int .u8 6, .string ⟨#[]⟩, .slice p5 V.T.nil.len c5, .slice q5 3 d5], .string ⟨#[101, 110, 100, 76, 105, 110, 101]⟩, .int .i64 de] W (TrueB W) from number8_any 6 ⟨#[]⟩ _ _ .nil _ _ ⟨#[101, 110, 100, 76, 105, 110, 101]⟩ de W (HE11.out.1.below hB) (HE11.out.2.below hB) (got_fel _ _ _) HQ.out.2))
        have HN3 := Lib.hid (fun W (hB : Below W11.heap.size W11 W) => (show Calls Tryz.prog 50 #[.agg #[.int .u8 6, .string ⟨#[]⟩, .slice p5 V.T.nil.len c5, .slice q5 3 d5], .string ⟨#[107, 105, 110, 100]⟩, .string ⟨#[99, 111, 109, 109, 101, 110, 116]⟩] W (TrueB W) from text8_any 6 ⟨#[]⟩ _ _ .nil _ _ ⟨#[107, 105, 110, 100]⟩ ⟨#[99, 111, 109, 109, 101, 110, 116]⟩ W (HE11.out.1.below hB) (HE11.out.2.below hB) (got_fki st de true)))
        have KEEP := Lib.hid (fun w' (hB : Below W11.heap.size W11 w') => (by
          obtain ⟨a0, a1, a2, a3⟩ := (VY11.out.on hB).cells
          obtain ⟨c0, c1, c2⟩ := HC.out w' (B11.out.trans (hB.mono B11.out.size))
          exact ⟨a2, bcellv hB HX11.out.1, bcellv hB HX11.out.2.1, bcellv hB HX11.out.2.2.1, bcellv hB HX11.out.2.2.2, c0, c1, c2⟩ : w'.cell? ⟨w3.heap.size, 2, none⟩ = some (.slice (some ⟨b1, o1, none⟩) fo.length cv) ∧ w'.cell? ⟨b1, o1 + i * 4, none⟩ = some (.int .u8 6) ∧ w'.cell? ⟨b1, o1 + i * 4 + 1, none⟩ = some (.string ⟨#[]⟩) ∧ w'.cell? ⟨b1, o1 + i * 4 + 2, none⟩ = some (.slice p5 V.T.nil.len c5) ∧ w'.cell? ⟨b1, o1 + i * 4 + 3, none⟩ = some (.slice q5 3 d5) ∧ w'.cell? ⟨b, o + i * 3, none⟩ = some (.int .i64 st) ∧ w'.cell? ⟨b, o + i * 3 + 1, none⟩ = some (.int .i64 de) ∧ w'.cell? ⟨b, o + i * 3 + 2, none⟩ = some (.bool true)))
        have kp := KEEP.out W11 (Below.refl _ _)
        obtain ⟨z0, z1, z2, z3, z4, z5, z6, z7⟩ := kp
        go_region_held3 (fun w' => w'.cell? ⟨w3.heap.size, 2, none⟩ = some (.slice (some ⟨b1, o1, none⟩) fo.length cv) ∧ w'.cell? ⟨b1, o1 + i * 4, none⟩ = some (.int .u8 6) ∧ w'.cell? ⟨b1, o1 + i * 4 + 1, none⟩ = some (.string ⟨#[]⟩) ∧ w'.cell? ⟨b1, o1 + i * 4 + 2, none⟩ = some (.slice p5 V.T.nil.len c5) ∧ w'.cell? ⟨b1, o1 + i * 4 + 3, none⟩ = some (.slice q5 3 d5) ∧ w'.cell? ⟨b, o + i * 3, none⟩ = some (.int .i64 st) ∧ w'.cell? ⟨b, o + i * 3 + 1, none⟩ = some (.int .i64 de) ∧ w'.cell? ⟨b, o + i * 3 + 2, none⟩ = some (.bool true))
          (first | exact KEEP.out _ hC3 | exact KEEP.out _ hC2 | exact KEEP.out _ hC1 | exact KEEP.out _ (Below.refl _ _).drew | exact KEEP.out _ (Below.refl _ _))
          (first
            | (go_at_call 50; (with_reducible refine (HN3.out _ hC2).mono ?_); rintro e wc3 ⟨rfl, hB⟩; have hC3 := hC2.trans (hB.mono hC2.size); clear hB)
            | (go_at_call 52; (with_reducible refine (HN2.out _ hC1).mono ?_); rintro e wc2 ⟨rfl, hB⟩; have hC2 := hC1.trans (hB.mono hC1.size); clear hB)
            | (go_at_call 52; (with_reducible refine (HN1.out _ (Below.refl _ _).drew).mono ?_); rintro e wc1 ⟨rfl, hB⟩; have hC1 := (Below.refl W11.heap.size W11).drew.trans hB; clear hB))
        rename_i hHeld
        have VYd := Lib.hid (VY11.out.on hC3)
        have Bd := Lib.hid (B11.out.trans (hC3.mono B11.out.size))
        clear z0 z1 z2 z3 z4 z5 z6 z7 hHeld KEEP HN1 HN2
        go_wp2_with fail
        go_roundw
        case rel => exact ⟨i + 1, by go_num, HL.out, Lib.hid ⟨VYd.out, Bd.out⟩⟩
        case measure => have := HL.out; simp [RowKit.intOf]; omega
    · obtain rfl : i = fo.length := by omega
      go_wp2_with fail
      refine (HCa.out wr HR.out.2).mono ?_
      rintro e w5 ⟨yv, rfl, ⟨p6, n6, c6, q6, m6, d6, rfl, hl, hf⟩, hB⟩
      have B5 := Lib.hid (HR.out.2.trans (hB.mono HR.out.2.size))
      have HLk := Lib.hid (show Calls Tryz.prog 54 #[.agg #[.int .u8 5, .string ⟨#[]⟩, .slice p6 n6 c6, .slice q6 m6 d6], .slice p4 ch.length c4] w5 (TrueB w5) from linked8_any _ _ ch (fun _ => True) _ w5 (hl.mono fun _ _ _ => trivial) (hf.mono fun _ _ _ => trivial) (HSC.out.below B5.out) HN4.out)
      clear hl hf hB
      go_wp2_with fail
      refine HLk.out.mono ?_
      rintro e w6 ⟨rfl, hB⟩
      have B6 := Lib.hid (B5.out.trans (hB.mono B5.out.size))
      clear hB
      go_wp2_with fail
      go_ret
      exact ⟨rfl, B6.out⟩
end Go.Proofs.YtbkciiogkgndiaaGreatDoor
