/- What the server can, the program's answer. Conditions: the library's tables. -/
import Derived.Test.YtdgmbmoaeoakpaaDoorMA38
import Derived.Test.YtdgmbmoaeoakpaaDoorMA44
namespace Go.Proofs.YtdgmbmoaeoakpaaDoor
open Go Go.RowKit Go.Lib

/-- such a value within an interface -/
def IVF (N k : Nat) (x : ByteArray) (l f : V.T) (y : Value) (W : World) : Prop := ∃ z, y = .iface 25 z ∧ VF N k x l f z W
theorem IVF.on {N k : Nat} {x : ByteArray} {l f : V.T} {y : Value} {W W' : World} (h : IVF N k x l f y W) (hB : Below W.heap.size W W') : IVF N k x l f y W' := by
  obtain ⟨z, h1, h2⟩ := h
  exact ⟨z, h1, h2.on hB⟩
structure CapG (w : World) (b2 : Nat) (v u : Value) (W : World) : Prop where
  below : Below w.heap.size w W
  lt : w.heap.size + 1 ≤ W.heap.size
  b0 : Blk4 W w.heap.size 25 (.int .u8 0) (.string ⟨#[]⟩) (.slice none 0 0) (.slice none 0 0)
  b1 : Blk4 W (w.heap.size + 1) 25 (.int .u8 2) (.string ⟨#[]⟩) (.slice none 0 0) (.slice none 0 0)
  b2 : Blk4 W b2 25 (.int .u8 6) (.string ⟨#[]⟩) v u
  l : HS W (Fre (w.heap.size + 1) W) 0 v .nil
  f : HS W (Fre (w.heap.size + 1) W) 1 u tLegend
theorem CapG.on {w : World} {b2 : Nat} {v u : Value} {W W' : World} (h : CapG w b2 v u W) (hB : Below W.heap.size W W') : CapG w b2 v u W' :=
  ⟨h.below.trans (hB.mono h.below.size), Nat.le_trans h.lt hB.size, h.b0.same (hB.block _ h.b0.lt), h.b1.same (hB.block _ h.b1.lt), h.b2.same (hB.block _ h.b2.lt), h.l.freB hB, h.f.freB hB⟩
/-- what each operation yields -/
def FCap (N : Nat) : Nat → Value → World → Prop
  | 0, y, W => y = .iface 9 (.string ⟨#[99, 97, 112, 97, 98, 105, 108, 105, 116, 105, 101, 115]⟩)
  | 1, y, W => y = .iface 9 (.string ⟨#[112, 111, 115, 105, 116, 105, 111, 110, 69, 110, 99, 111, 100, 105, 110, 103]⟩)
  | 2, y, W => VF N 4 ⟨#[117, 116, 102, 45, 49, 54]⟩ .nil .nil y W
  | 3, y, W => IVF N 4 ⟨#[117, 116, 102, 45, 49, 54]⟩ .nil .nil y W
  | 4, y, W => y = .iface 9 (.string ⟨#[116, 101, 120, 116, 68, 111, 99, 117, 109, 101, 110, 116, 83, 121, 110, 99]⟩)
  | 5, y, W => y = .iface 9 (.string ⟨#[111, 112, 101, 110, 67, 108, 111, 115, 101]⟩)
  | 6, y, W => VF N 2 ⟨#[]⟩ .nil .nil y W
  | 7, y, W => IVF N 2 ⟨#[]⟩ .nil .nil y W
  | 8, y, W => y = .iface 9 (.string ⟨#[99, 104, 97, 110, 103, 101]⟩)
  | 9, y, W => y = .iface 3 (.int .i64 2)
  | 10, y, W => PsF N 2 tSync y W
  | 11, y, W => VF N 6 ⟨#[]⟩ .nil tSync y W
  | 12, y, W => IVF N 6 ⟨#[]⟩ .nil tSync y W
  | 13, y, W => y = .iface 9 (.string ⟨#[115, 101, 109, 97, 110, 116, 105, 99, 84, 111, 107, 101, 110, 115, 80, 114, 111, 118, 105, 100, 101, 114]⟩)
  | 14, y, W => y = .iface 9 (.string ⟨#[108, 101, 103, 101, 110, 100]⟩)
  | 15, y, W => VF N 6 ⟨#[]⟩ .nil tLegend y W
  | 16, y, W => IVF N 6 ⟨#[]⟩ .nil tLegend y W
  | 17, y, W => y = .iface 9 (.string ⟨#[102, 117, 108, 108]⟩)
  | 18, y, W => y = .iface 9 (.string ⟨#[100, 101, 108, 116, 97]⟩)
  | 19, y, W => VF N 2 ⟨#[]⟩ .nil .nil y W
  | 20, y, W => IVF N 2 ⟨#[]⟩ .nil .nil y W
  | 21, y, W => PsF N 1 tFull y W
  | 22, y, W => VF N 6 ⟨#[]⟩ .nil tFull y W
  | 23, y, W => IVF N 6 ⟨#[]⟩ .nil tFull y W
  | 24, y, W => PsF N 2 tTokens y W
  | 25, y, W => VF N 6 ⟨#[]⟩ .nil tTokens y W
  | 26, y, W => IVF N 6 ⟨#[]⟩ .nil tTokens y W
  | 27, y, W => y = .iface 9 (.string ⟨#[102, 111, 108, 100, 105, 110, 103, 82, 97, 110, 103, 101, 80, 114, 111, 118, 105, 100, 101, 114]⟩)
  | 28, y, W => VF N 2 ⟨#[]⟩ .nil .nil y W
  | 29, y, W => IVF N 2 ⟨#[]⟩ .nil .nil y W
  | 30, y, W => y = .iface 9 (.string ⟨#[115, 101, 108, 101, 99, 116, 105, 111, 110, 82, 97, 110, 103, 101, 80, 114, 111, 118, 105, 100, 101, 114]⟩)
  | 31, y, W => VF N 2 ⟨#[]⟩ .nil .nil y W
  | 32, y, W => IVF N 2 ⟨#[]⟩ .nil .nil y W
  | 33, y, W => PsF N 5 tAll y W
  | 34, y, W => VF N 6 ⟨#[]⟩ .nil tAll y W
  | 35, y, W => IVF N 6 ⟨#[]⟩ .nil tAll y W
  | 36, y, W => y = .iface 9 (.string ⟨#[115, 101, 114, 118, 101, 114, 73, 110, 102, 111]⟩)
  | 37, y, W => y = .iface 9 (.string ⟨#[110, 97, 109, 101]⟩)
  | 38, y, W => VF N 4 ⟨#[103, 108, 111, 115, 115, 97, 116, 111, 114]⟩ .nil .nil y W
  | 39, y, W => IVF N 4 ⟨#[103, 108, 111, 115, 115, 97, 116, 111, 114]⟩ .nil .nil y W
  | 40, y, W => PsF N 1 tInfo y W
  | 41, y, W => VF N 6 ⟨#[]⟩ .nil tInfo y W
  | 42, y, W => IVF N 6 ⟨#[]⟩ .nil tInfo y W
  | 43, y, W => PsF N 2 tCap y W
  | 44, y, W => VF N 6 ⟨#[]⟩ .nil tCap y W
  | _, _, _ => True
theorem FCap.on {N i : Nat} {y : Value} {W W' : World} (h : FCap N i y W) (hB : Below W.heap.size W W') : FCap N i y W' := by
  unfold FCap at h ⊢
  split at h
  · exact h
  · exact h
  · exact h.on hB
  · exact h.on hB
  · exact h
  · exact h
  · exact h.on hB
  · exact h.on hB
  · exact h
  · exact h
  · exact h.on hB
  · exact h.on hB
  · exact h.on hB
  · exact h
  · exact h
  · exact h.on hB
  · exact h.on hB
  · exact h
  · exact h
  · exact h.on hB
  · exact h.on hB
  · exact h.on hB
  · exact h.on hB
  · exact h.on hB
  · exact h.on hB
  · exact h.on hB
  · exact h.on hB
  · exact h
  · exact h.on hB
  · exact h.on hB
  · exact h
  · exact h.on hB
  · exact h.on hB
  · exact h.on hB
  · exact h.on hB
  · exact h.on hB
  · exact h
  · exact h
  · exact h.on hB
  · exact h.on hB
  · exact h.on hB
  · exact h.on hB
  · exact h.on hB
  · exact h.on hB
  · exact h.on hB
  · trivial
set_option maxHeartbeats 8000000 in
set_option maxRecDepth 100000 in
theorem cap_any (w : World) (hP : PowTab w) (hT : Tabs w) : Calls Tryd.prog 34 #[] w (RetV w.heap.size 6 ⟨#[]⟩ .nil tCap w) := by
  have HPo := Lib.hid (fun W (h : Below w.heap.size w W) => pow_below hP h)
  have HTo := Lib.hid (fun W (h : Below w.heap.size w W) => tabs_below hT h)
  have HX1 := Lib.hid (fun W (h : Below w.heap.size w W) => text4_any ⟨#[117, 116, 102, 45, 49, 54]⟩ W (by decide) (by rw [fix_utf]; decide) (HTo.out W h))
  have HX2 := Lib.hid (fun W (h : Below w.heap.size w W) => text4_any ⟨#[103, 108, 111, 115, 115, 97, 116, 111, 114]⟩ W (by decide) (by rw [fix_glo]; decide) (HTo.out W h))
  rw [fix_utf] at HX1
  rw [fix_glo] at HX2
  have HTy := Lib.hid (fun W => types_any W)
  have HMd := Lib.hid (fun W => mods_any W)
  have HLs := Lib.hid (fun (b c : Nat) (l : List ByteArray) W (hc : l.length ≤ c ∧ c ≤ 9223372036854775807) (hn : l.length ≤ 1000) (hb : b < W.heap.size) (hS : StrsLie W b l) (hz : ∀ s ∈ l, s.size ≤ 1000) (h : Below w.heap.size w W) => listStr_any b c l W hc hn hb hS hz (HTo.out W h))
  clear hP hT
  have h2 := two_new w (.cells #[.int .u8 0, .string ⟨#[]⟩, .slice none 0 0, .slice none 0 0] 25) (.cells #[.int .u8 2, .string ⟨#[]⟩, .slice none 0 0, .slice none 0 0] 25)
  have hw2 := two_below w (.cells #[.int .u8 0, .string ⟨#[]⟩, .slice none 0 0, .slice none 0 0] 25) (.cells #[.int .u8 2, .string ⟨#[]⟩, .slice none 0 0, .slice none 0 0] 25)
  have hs2 := two_size w (.cells #[.int .u8 0, .string ⟨#[]⟩, .slice none 0 0, .slice none 0 0] 25) (.cells #[.int .u8 2, .string ⟨#[]⟩, .slice none 0 0, .slice none 0 0] 25)
  have H0 := Lib.hid (And.intro h2 (And.intro hw2 hs2))
  clear h2 hw2 hs2
  go_enter Tryd.func34, Tryd.ntmps34
  go_upto_region 2 with fail
  generalize (w.alloc (.cells #[.int .u8 0, .string ⟨#[]⟩, .slice none 0 0, .slice none 0 0] 25)).alloc (.cells #[.int .u8 2, .string ⟨#[]⟩, .slice none 0 0, .slice none 0 0] 25) = W2 at *
  go_wp2_with fail
  refine (HTy.out W2).mono ?_
  rintro e w3 ⟨rfl, rfl⟩
  have hB3 := (Below.refl W2.heap.size W2).alloc (Nat.le_refl _) (.cells #[.string ⟨#[107, 101, 121, 119, 111, 114, 100]⟩, .string ⟨#[99, 111, 109, 109, 101, 110, 116]⟩, .string ⟨#[115, 116, 114, 105, 110, 103]⟩, .string ⟨#[110, 117, 109, 98, 101, 114]⟩, .string ⟨#[111, 112, 101, 114, 97, 116, 111, 114]⟩, .string ⟨#[118, 97, 114, 105, 97, 98, 108, 101]⟩, .string ⟨#[112, 97, 114, 97, 109, 101, 116, 101, 114]⟩, .string ⟨#[102, 117, 110, 99, 116, 105, 111, 110]⟩] 9)
  have hS3 := strs_lie W2 tyL (row := #[.string ⟨#[107, 101, 121, 119, 111, 114, 100]⟩, .string ⟨#[99, 111, 109, 109, 101, 110, 116]⟩, .string ⟨#[115, 116, 114, 105, 110, 103]⟩, .string ⟨#[110, 117, 109, 98, 101, 114]⟩, .string ⟨#[111, 112, 101, 114, 97, 116, 111, 114]⟩, .string ⟨#[118, 97, 114, 105, 97, 98, 108, 101]⟩, .string ⟨#[112, 97, 114, 97, 109, 101, 116, 101, 114]⟩, .string ⟨#[102, 117, 110, 99, 116, 105, 111, 110]⟩]) rfl
  have hl3 : W2.heap.size < (W2.alloc (.cells #[.string ⟨#[107, 101, 121, 119, 111, 114, 100]⟩, .string ⟨#[99, 111, 109, 109, 101, 110, 116]⟩, .string ⟨#[115, 116, 114, 105, 110, 103]⟩, .string ⟨#[110, 117, 109, 98, 101, 114]⟩, .string ⟨#[111, 112, 101, 114, 97, 116, 111, 114]⟩, .string ⟨#[118, 97, 114, 105, 97, 98, 108, 101]⟩, .string ⟨#[112, 97, 114, 97, 109, 101, 116, 101, 114]⟩, .string ⟨#[102, 117, 110, 99, 116, 105, 111, 110]⟩] 9)).heap.size := by simp
  have hb3 := H0.out.2.1.trans (hB3.mono H0.out.2.1.size)
  have H3 := Lib.hid (And.intro hB3 (And.intro hS3 (And.intro hl3 hb3)))
  clear hB3 hS3 hl3 hb3
  generalize W2.alloc (.cells #[.string ⟨#[107, 101, 121, 119, 111, 114, 100]⟩, .string ⟨#[99, 111, 109, 109, 101, 110, 116]⟩, .string ⟨#[115, 116, 114, 105, 110, 103]⟩, .string ⟨#[110, 117, 109, 98, 101, 114]⟩, .string ⟨#[111, 112, 101, 114, 97, 116, 111, 114]⟩, .string ⟨#[118, 97, 114, 105, 97, 98, 108, 101]⟩, .string ⟨#[112, 97, 114, 97, 109, 101, 116, 101, 114]⟩, .string ⟨#[102, 117, 110, 99, 116, 105, 111, 110]⟩] 9) = w3 at *
  go_wp2_with fail
  refine (HLs.out _ 8 tyL _ (by decide) (by decide) H3.out.2.2.1 H3.out.2.1 tyL_small H3.out.2.2.2).mono ?_
  rintro e w4 ⟨v4, rfl, hv4, hB4⟩
  have hb4 := H3.out.2.2.2.trans (hB4.mono H3.out.2.2.2.size)
  have hz4 : W2.heap.size ≤ w3.heap.size := H3.out.1.size
  obtain ⟨p4, c4, rfl, -⟩ := hv4.len
  have H4 := Lib.hid (And.intro hv4 (And.intro (H3.out.1.trans (hB4.mono H3.out.1.size)) (And.intro hb4 hz4)))
  clear hv4 hB4 hb4 hz4
  go_wp2_with fail
  refine (HMd.out w4).mono ?_
  rintro e w5 ⟨rfl, rfl⟩
  have hB5 := (Below.refl w4.heap.size w4).alloc (Nat.le_refl _) (.cells #[.string ⟨#[100, 101, 99, 108, 97, 114, 97, 116, 105, 111, 110]⟩, .string ⟨#[117, 110, 114, 101, 115, 111, 108, 118, 101, 100]⟩, .string ⟨#[114, 101, 100, 101, 99, 108, 97, 114, 101, 100]⟩] 9)
  have hS5 := strs_lie w4 mdL (row := #[.string ⟨#[100, 101, 99, 108, 97, 114, 97, 116, 105, 111, 110]⟩, .string ⟨#[117, 110, 114, 101, 115, 111, 108, 118, 101, 100]⟩, .string ⟨#[114, 101, 100, 101, 99, 108, 97, 114, 101, 100]⟩]) rfl
  have hl5 : w4.heap.size < (w4.alloc (.cells #[.string ⟨#[100, 101, 99, 108, 97, 114, 97, 116, 105, 111, 110]⟩, .string ⟨#[117, 110, 114, 101, 115, 111, 108, 118, 101, 100]⟩, .string ⟨#[114, 101, 100, 101, 99, 108, 97, 114, 101, 100]⟩] 9)).heap.size := by simp
  have hb5 := H4.out.2.2.1.trans (hB5.mono H4.out.2.2.1.size)
  have hv5 := H4.out.1.freB hB5
  have H5 := Lib.hid (And.intro hv5 (And.intro hS5 (And.intro hl5 (And.intro hb5 (H4.out.2.1.trans (hB5.mono H4.out.2.1.size))))))
  clear hB5 hS5 hl5 hb5 hv5
  generalize w4.alloc (.cells #[.string ⟨#[100, 101, 99, 108, 97, 114, 97, 116, 105, 111, 110]⟩, .string ⟨#[117, 110, 114, 101, 115, 111, 108, 118, 101, 100]⟩, .string ⟨#[114, 101, 100, 101, 99, 108, 97, 114, 101, 100]⟩] 9) = w5 at *
  go_wp2_with fail
  refine (HLs.out _ 3 mdL _ (by decide) (by decide) H5.out.2.2.1 H5.out.2.1 mdL_small H5.out.2.2.2.1).mono ?_
  rintro e w6 ⟨v6, rfl, hv6, hB6⟩
  obtain ⟨p6, c6, rfl, -⟩ := hv6.len
  have hz5 : W2.heap.size ≤ w5.heap.size := H5.out.2.2.2.2.size
  have hN2 : w.heap.size + 1 ≤ W2.heap.size := by have := H0.out.2.2; omega
  have hv4' : HS w6 (Fre (w.heap.size + 1) w6) 0 _ (txT tyL) := (H5.out.1.mono (A' := Fre (w.heap.size + 1) w5) (fun b hb _ => ⟨by have := hb.1; have := H4.out.2.2.2; omega, hb.2⟩)).freB hB6
  have hv6' : HS w6 (Fre (w.heap.size + 1) w6) 0 _ (txT mdL) := hv6.mono (fun b hb _ => ⟨by have := hb.1; omega, hb.2⟩)
  have hps := psf_new (cs := #[.iface 9 (.string ⟨#[116, 111, 107, 101, 110, 84, 121, 112, 101, 115]⟩), .iface 25 (.agg #[.int .u8 5, .string ⟨#[]⟩, .slice p4 (txT tyL).len c4, .slice none 0 0]), .iface 9 (.string ⟨#[116, 111, 107, 101, 110, 77, 111, 100, 105, 102, 105, 101, 114, 115]⟩), .iface 25 (.agg #[.int .u8 5, .string ⟨#[]⟩, .slice p6 (txT mdL).len c6, .slice none 0 0])]) (N := w.heap.size + 1) (W := w6) (t := 20) (T := tLegend) (m := 2) [vPt ⟨#[116, 111, 107, 101, 110, 84, 121, 112, 101, 115]⟩ 5 ⟨#[]⟩ (.slice p4 (txT tyL).len c4) (.slice none 0 0) (txT tyL) .nil, vPt ⟨#[116, 111, 107, 101, 110, 77, 111, 100, 105, 102, 105, 101, 114, 115]⟩ 5 ⟨#[]⟩ (.slice p6 (txT mdL).len c6) (.slice none 0 0) (txT mdL) .nil] rfl rfl rfl (fun p hp => by
    simp only [List.mem_cons, List.not_mem_nil, or_false] at hp
    rcases hp with rfl | rfl
    · exact vPt_ok ⟨by decide, by decide, by decide⟩ hv4' (HS.nil _ _ _)
    · exact vPt_ok ⟨by decide, by decide, by decide⟩ hv6' (HS.nil _ _ _))
  have hB7 := (Below.refl w6.heap.size w6).alloc (Nat.le_refl _) (.cells #[.iface 9 (.string ⟨#[116, 111, 107, 101, 110, 84, 121, 112, 101, 115]⟩), .iface 25 (.agg #[.int .u8 5, .string ⟨#[]⟩, .slice p4 (txT tyL).len c4, .slice none 0 0]), .iface 9 (.string ⟨#[116, 111, 107, 101, 110, 77, 111, 100, 105, 102, 105, 101, 114, 115]⟩), .iface 25 (.agg #[.int .u8 5, .string ⟨#[]⟩, .slice p6 (txT mdL).len c6, .slice none 0 0])] 20)
  have hBW := (H5.out.2.2.2.2.trans (hB6.mono H5.out.2.2.2.2.size)).trans (hB7.mono (Nat.le_trans H5.out.2.2.2.2.size hB6.size))
  have hob := obj_ret (N := w.heap.size + 1) (by have := hBW.size; omega) (by decide) hps (HPo.out _ (H0.out.2.1.trans (hBW.mono H0.out.2.1.size)))
  have H7 := Lib.hid (And.intro hob hBW)
  clear hps hB7 hBW hob hv6' hv4' hv6 hB6 hz5
  generalize (txT tyL).len = n4 at *
  generalize (txT mdL).len = n6 at *
  go_wp2_with fail
  generalize w6.alloc (.cells #[.iface 9 (.string ⟨#[116, 111, 107, 101, 110, 84, 121, 112, 101, 115]⟩), .iface 25 (.agg #[.int .u8 5, .string ⟨#[]⟩, .slice p4 n4 c4, .slice none 0 0]), .iface 9 (.string ⟨#[116, 111, 107, 101, 110, 77, 111, 100, 105, 102, 105, 101, 114, 115]⟩), .iface 25 (.agg #[.int .u8 5, .string ⟨#[]⟩, .slice p6 n6 c6, .slice none 0 0])] 20) = w7 at *
  refine H7.out.1.mono ?_
  rintro e w8 ⟨y, rfl, ⟨pl, nl, cl, pf, nf, cf, rfl, hl8, hf8⟩, hB8⟩
  have hBA := H7.out.2.trans (hB8.mono H7.out.2.size)
  have hB9 := (Below.refl w8.heap.size w8).alloc (Nat.le_refl _) (.cells #[.int .u8 6, .string ⟨#[]⟩, .slice pl nl cl, .slice pf nf cf] 25)
  have hBB := hBA.trans (hB9.mono hBA.size)
  have b0 : Blk4 W2 w.heap.size 25 _ _ _ _ := H0.out.1.1
  have b1 : Blk4 W2 (w.heap.size + 1) 25 _ _ _ _ := H0.out.1.2
  have HG0 := Lib.hid (show CapG w w8.heap.size (.slice pl nl cl) (.slice pf nf cf) (w8.alloc (.cells #[.int .u8 6, .string ⟨#[]⟩, .slice pl nl cl, .slice pf nf cf] 25)) from
    ⟨H0.out.2.1.trans (hBB.mono H0.out.2.1.size), by have := hBB.size; omega, b0.same (hBB.block _ b0.lt), b1.same (hBB.block _ b1.lt), heap_alloc_new _ _, hl8.freB hB9, hf8.freB hB9⟩)
  clear hBA hB9 hBB b0 b1 hl8 hf8 hB8 H7 H5 H4 H3 H0 hN2
  go_upto_region 3 with fail
  generalize w8.alloc (.cells #[.int .u8 6, .string ⟨#[]⟩, .slice pl nl cl, .slice pf nf cf] 25) = W9 at *
  generalize w8.heap.size = b2 at *
  have HG1 := HG0.out.on (Below.refl W9.heap.size W9).drew
  refine wp_region_stepsF [some 14, some 15, some 16, some 17, some 18, some 19, some 20, some 21, some 22, some 23, some 24, some 25, some 26, some 27, some 28, some 29, some 30, some 31, some 32, some 33, some 34, some 35, some 36, some 37, some 38, some 39, some 40, some 41, some 42, some 43, some 44, some 45, some 46, some 47, some 48, some 49, some 50, some 51, some 52, some 53, some 54, some 55, some 56, some 57, some 58, none] _ _ (G := CapG w b2 (.slice pl nl cl) (.slice pf nf cf)) (F := FCap (w.heap.size + 1)) (z := 45) (by kernel_rfl) rfl (by decide +kernel) rfl (by decide +kernel) (by decide +kernel) rfl (fun W W' h hB => h.on hB) (fun i y W W' h hB => h.on hB) ?_ ?_ HG1
  · intro i o ho hz a W hg hd hold K' hK
    have HG := Lib.hid hg
    have hlt : i < 46 := (Array.getElem?_eq_some_iff.1 ho).1
    clear hg
    obtain rfl | rfl | rfl | rfl | rfl | rfl | rfl | rfl | rfl | rfl | rfl | rfl | rfl | rfl | rfl | rfl | rfl | rfl | rfl | rfl | rfl | rfl | rfl | rfl | rfl | rfl | rfl | rfl | rfl | rfl | rfl | rfl | rfl | rfl | rfl | rfl | rfl | rfl | rfl | rfl | rfl | rfl | rfl | rfl | rfl | rfl : i = 0 ∨ i = 1 ∨ i = 2 ∨ i = 3 ∨ i = 4 ∨ i = 5 ∨ i = 6 ∨ i = 7 ∨ i = 8 ∨ i = 9 ∨ i = 10 ∨ i = 11 ∨ i = 12 ∨ i = 13 ∨ i = 14 ∨ i = 15 ∨ i = 16 ∨ i = 17 ∨ i = 18 ∨ i = 19 ∨ i = 20 ∨ i = 21 ∨ i = 22 ∨ i = 23 ∨ i = 24 ∨ i = 25 ∨ i = 26 ∨ i = 27 ∨ i = 28 ∨ i = 29 ∨ i = 30 ∨ i = 31 ∨ i = 32 ∨ i = 33 ∨ i = 34 ∨ i = 35 ∨ i = 36 ∨ i = 37 ∨ i = 38 ∨ i = 39 ∨ i = 40 ∨ i = 41 ∨ i = 42 ∨ i = 43 ∨ i = 44 ∨ i = 45 := by omega
    · obtain rfl := Option.some.inj ho
      clear hd hold
      go_simp
      exact hK.out _ _ (by rfl) (Below.refl _ _)
    · obtain rfl := Option.some.inj ho
      clear hd hold
      go_simp
      exact hK.out _ _ (by rfl) (Below.refl _ _)
    · obtain rfl := Option.some.inj ho
      clear hd hold
      go_simp
      go_at_call 41
      (with_reducible refine (HX1.out _ HG.out.below).mono ?_)
      rintro e W1 h
      obtain ⟨y, rfl, hv, hB⟩ := text_ret (N := w.heap.size + 1) h
      exact hK.out _ _ hv hB
    · obtain rfl := Option.some.inj ho
      obtain ⟨y2, e2, h2⟩ := hd 2 16 rfl (by decide +kernel) (by decide)
      obtain ⟨p2, n2, c2, q2, m2, d2, rfl, l2, f2⟩ : VF (w.heap.size + 1) 4 ⟨#[117, 116, 102, 45, 49, 54]⟩ .nil .nil y2 W := h2
      clear hd hold
      go_simp
      exact hK.out _ _ ⟨_, rfl, VF.mk l2 f2⟩ (Below.refl _ _)
    · obtain rfl := Option.some.inj ho
      clear hd hold
      go_simp
      exact hK.out _ _ (by rfl) (Below.refl _ _)
    · obtain rfl := Option.some.inj ho
      clear hd hold
      go_simp
      exact hK.out _ _ (by rfl) (Below.refl _ _)
    · obtain rfl := Option.some.inj ho
      have o1 : a.tmps[1]? = _ := (hold 1 rfl).trans rfl
      clear hd hold
      obtain ⟨s0, s1, s2, s3⟩ := HG.out.b1.box
      go_simp
      exact hK.out _ _ (VF.mk (HS.nil _ _ _) (HS.nil _ _ _)) (Below.refl _ _)
    · obtain rfl := Option.some.inj ho
      obtain ⟨y6, e6, h6⟩ := hd 6 20 rfl (by decide +kernel) (by decide)
      obtain ⟨p6, n6, c6, q6, m6, d6, rfl, l6, f6⟩ : VF (w.heap.size + 1) 2 ⟨#[]⟩ .nil .nil y6 W := h6
      clear hd hold
      go_simp
      exact hK.out _ _ ⟨_, rfl, VF.mk l6 f6⟩ (Below.refl _ _)
    · obtain rfl := Option.some.inj ho
      clear hd hold
      go_simp
      exact hK.out _ _ (by rfl) (Below.refl _ _)
    · obtain rfl := Option.some.inj ho
      clear hd hold
      go_simp
      exact hK.out _ _ (by rfl) (Below.refl _ _)
    · obtain rfl := Option.some.inj ho
      obtain ⟨y5, e5, h5⟩ := hd 5 19 rfl (by decide +kernel) (by decide)
      have h5 : y5 = _ := h5
      subst h5
      obtain ⟨y7, e7, h7⟩ := hd 7 21 rfl (by decide +kernel) (by decide)
      obtain ⟨z7, rfl, p7, n7, c7, q7, m7, d7, rfl, l7, f7⟩ : IVF (w.heap.size + 1) 2 ⟨#[]⟩ .nil .nil y7 W := h7
      obtain ⟨y8, e8, h8⟩ := hd 8 22 rfl (by decide +kernel) (by decide)
      have h8 : y8 = _ := h8
      subst h8
      obtain ⟨y9, e9, h9⟩ := hd 9 23 rfl (by decide +kernel) (by decide)
      have h9 : y9 = _ := h9
      subst h9
      have hps := psf_new (cs := #[.iface 9 (.string ⟨#[111, 112, 101, 110, 67, 108, 111, 115, 101]⟩), .iface 25 (.agg #[.int .u8 2, .string ⟨#[]⟩, .slice p7 n7 c7, .slice q7 m7 d7]), .iface 9 (.string ⟨#[99, 104, 97, 110, 103, 101]⟩), .iface 3 (.int .i64 2)]) (N := w.heap.size + 1) (W := W) (t := 20) (T := tSync) (m := 2) [vPt ⟨#[111, 112, 101, 110, 67, 108, 111, 115, 101]⟩ 2 ⟨#[]⟩ (.slice p7 n7 c7) (.slice q7 m7 d7) .nil .nil, nPt ⟨#[99, 104, 97, 110, 103, 101]⟩ 2] rfl rfl rfl (fun p hp => by
        simp only [List.mem_cons, List.not_mem_nil, or_false] at hp
        rcases hp with rfl | rfl
        · exact vPt_ok ⟨by decide, by decide, by decide⟩ l7 f7
        · exact nPt_ok (by decide) (by decide))
      have hB := (Below.refl W.heap.size W).alloc (Nat.le_refl _) (.cells #[.iface 9 (.string ⟨#[111, 112, 101, 110, 67, 108, 111, 115, 101]⟩), .iface 25 (.agg #[.int .u8 2, .string ⟨#[]⟩, .slice p7 n7 c7, .slice q7 m7 d7]), .iface 9 (.string ⟨#[99, 104, 97, 110, 103, 101]⟩), .iface 3 (.int .i64 2)] 20)
      have HQ := Lib.hid (And.intro hps hB)
      clear hd hold hps hB
      go_simp
      exact hK.out _ _ HQ.out.1 HQ.out.2
    · obtain rfl := Option.some.inj ho
      obtain ⟨y10, e10, h10⟩ := hd 10 24 rfl (by decide +kernel) (by decide)
      have h10 : PsF (w.heap.size + 1) 2 tSync y10 W := h10
      have hcall := obj_ret (y := y10) (w := W) (N := w.heap.size + 1) HG.out.lt (by decide) h10 (HPo.out _ HG.out.below)
      have HC := Lib.hid hcall
      clear hd hold hcall h10
      go_simp
      go_at_call 53
      (with_reducible refine HC.out.mono ?_)
      rintro e W1 ⟨y, rfl, hv, hB⟩
      exact hK.out _ _ hv hB
    · obtain rfl := Option.some.inj ho
      obtain ⟨y11, e11, h11⟩ := hd 11 25 rfl (by decide +kernel) (by decide)
      obtain ⟨p11, n11, c11, q11, m11, d11, rfl, l11, f11⟩ : VF (w.heap.size + 1) 6 ⟨#[]⟩ .nil tSync y11 W := h11
      clear hd hold
      go_simp
      exact hK.out _ _ ⟨_, rfl, VF.mk l11 f11⟩ (Below.refl _ _)
    · obtain rfl := Option.some.inj ho
      clear hd hold
      go_simp
      exact hK.out _ _ (by rfl) (Below.refl _ _)
    · obtain rfl := Option.some.inj ho
      clear hd hold
      go_simp
      exact hK.out _ _ (by rfl) (Below.refl _ _)
    · obtain rfl := Option.some.inj ho
      have o2 : a.tmps[2]? = _ := (hold 2 rfl).trans rfl
      clear hd hold
      obtain ⟨s0, s1, s2, s3⟩ := HG.out.b2.box
      go_simp
      exact hK.out _ _ (VF.mk HG.out.l HG.out.f) (Below.refl _ _)
    · obtain rfl := Option.some.inj ho
      obtain ⟨y15, e15, h15⟩ := hd 15 29 rfl (by decide +kernel) (by decide)
      obtain ⟨p15, n15, c15, q15, m15, d15, rfl, l15, f15⟩ : VF (w.heap.size + 1) 6 ⟨#[]⟩ .nil tLegend y15 W := h15
      clear hd hold
      go_simp
      exact hK.out _ _ ⟨_, rfl, VF.mk l15 f15⟩ (Below.refl _ _)
    · obtain rfl := Option.some.inj ho
      clear hd hold
      go_simp
      exact hK.out _ _ (by rfl) (Below.refl _ _)
    · obtain rfl := Option.some.inj ho
      clear hd hold
      go_simp
      exact hK.out _ _ (by rfl) (Below.refl _ _)
    · obtain rfl := Option.some.inj ho
      have o1 : a.tmps[1]? = _ := (hold 1 rfl).trans rfl
      clear hd hold
      obtain ⟨s0, s1, s2, s3⟩ := HG.out.b1.box
      go_simp
      exact hK.out _ _ (VF.mk (HS.nil _ _ _) (HS.nil _ _ _)) (Below.refl _ _)
    · obtain rfl := Option.some.inj ho
      obtain ⟨y19, e19, h19⟩ := hd 19 33 rfl (by decide +kernel) (by decide)
      obtain ⟨p19, n19, c19, q19, m19, d19, rfl, l19, f19⟩ : VF (w.heap.size + 1) 2 ⟨#[]⟩ .nil .nil y19 W := h19
      clear hd hold
      go_simp
      exact hK.out _ _ ⟨_, rfl, VF.mk l19 f19⟩ (Below.refl _ _)
    · obtain rfl := Option.some.inj ho
      obtain ⟨y18, e18, h18⟩ := hd 18 32 rfl (by decide +kernel) (by decide)
      have h18 : y18 = _ := h18
      subst h18
      obtain ⟨y20, e20, h20⟩ := hd 20 34 rfl (by decide +kernel) (by decide)
      obtain ⟨z20, rfl, p20, n20, c20, q20, m20, d20, rfl, l20, f20⟩ : IVF (w.heap.size + 1) 2 ⟨#[]⟩ .nil .nil y20 W := h20
      have hps := psf_new (cs := #[.iface 9 (.string ⟨#[100, 101, 108, 116, 97]⟩), .iface 25 (.agg #[.int .u8 2, .string ⟨#[]⟩, .slice p20 n20 c20, .slice q20 m20 d20])]) (N := w.heap.size + 1) (W := W) (t := 20) (T := tFull) (m := 1) [vPt ⟨#[100, 101, 108, 116, 97]⟩ 2 ⟨#[]⟩ (.slice p20 n20 c20) (.slice q20 m20 d20) .nil .nil] rfl rfl rfl (fun p hp => by
        simp only [List.mem_cons, List.not_mem_nil, or_false] at hp
        rcases hp with rfl
        · exact vPt_ok ⟨by decide, by decide, by decide⟩ l20 f20)
      have hB := (Below.refl W.heap.size W).alloc (Nat.le_refl _) (.cells #[.iface 9 (.string ⟨#[100, 101, 108, 116, 97]⟩), .iface 25 (.agg #[.int .u8 2, .string ⟨#[]⟩, .slice p20 n20 c20, .slice q20 m20 d20])] 20)
      have HQ := Lib.hid (And.intro hps hB)
      clear hd hold hps hB
      go_simp
      exact hK.out _ _ HQ.out.1 HQ.out.2
    · obtain rfl := Option.some.inj ho
      obtain ⟨y21, e21, h21⟩ := hd 21 35 rfl (by decide +kernel) (by decide)
      have h21 : PsF (w.heap.size + 1) 1 tFull y21 W := h21
      have hcall := obj_ret (y := y21) (w := W) (N := w.heap.size + 1) HG.out.lt (by decide) h21 (HPo.out _ HG.out.below)
      have HC := Lib.hid hcall
      clear hd hold hcall h21
      go_simp
      go_at_call 53
      (with_reducible refine HC.out.mono ?_)
      rintro e W1 ⟨y, rfl, hv, hB⟩
      exact hK.out _ _ hv hB
    · obtain rfl := Option.some.inj ho
      obtain ⟨y22, e22, h22⟩ := hd 22 36 rfl (by decide +kernel) (by decide)
      obtain ⟨p22, n22, c22, q22, m22, d22, rfl, l22, f22⟩ : VF (w.heap.size + 1) 6 ⟨#[]⟩ .nil tFull y22 W := h22
      clear hd hold
      go_simp
      exact hK.out _ _ ⟨_, rfl, VF.mk l22 f22⟩ (Below.refl _ _)
    · obtain rfl := Option.some.inj ho
      obtain ⟨y14, e14, h14⟩ := hd 14 28 rfl (by decide +kernel) (by decide)
      have h14 : y14 = _ := h14
      subst h14
      obtain ⟨y16, e16, h16⟩ := hd 16 30 rfl (by decide +kernel) (by decide)
      obtain ⟨z16, rfl, p16, n16, c16, q16, m16, d16, rfl, l16, f16⟩ : IVF (w.heap.size + 1) 6 ⟨#[]⟩ .nil tLegend y16 W := h16
      obtain ⟨y17, e17, h17⟩ := hd 17 31 rfl (by decide +kernel) (by decide)
      have h17 : y17 = _ := h17
      subst h17
      obtain ⟨y23, e23, h23⟩ := hd 23 37 rfl (by decide +kernel) (by decide)
      obtain ⟨z23, rfl, p23, n23, c23, q23, m23, d23, rfl, l23, f23⟩ : IVF (w.heap.size + 1) 6 ⟨#[]⟩ .nil tFull y23 W := h23
      have hps := psf_new (cs := #[.iface 9 (.string ⟨#[108, 101, 103, 101, 110, 100]⟩), .iface 25 (.agg #[.int .u8 6, .string ⟨#[]⟩, .slice p16 n16 c16, .slice q16 m16 d16]), .iface 9 (.string ⟨#[102, 117, 108, 108]⟩), .iface 25 (.agg #[.int .u8 6, .string ⟨#[]⟩, .slice p23 n23 c23, .slice q23 m23 d23])]) (N := w.heap.size + 1) (W := W) (t := 20) (T := tTokens) (m := 2) [vPt ⟨#[108, 101, 103, 101, 110, 100]⟩ 6 ⟨#[]⟩ (.slice p16 n16 c16) (.slice q16 m16 d16) .nil tLegend, vPt ⟨#[102, 117, 108, 108]⟩ 6 ⟨#[]⟩ (.slice p23 n23 c23) (.slice q23 m23 d23) .nil tFull] rfl rfl rfl (fun p hp => by
        simp only [List.mem_cons, List.not_mem_nil, or_false] at hp
        rcases hp with rfl | rfl
        · exact vPt_ok ⟨by decide, by decide, by decide⟩ l16 f16
        · exact vPt_ok ⟨by decide, by decide, by decide⟩ l23 f23)
      have hB := (Below.refl W.heap.size W).alloc (Nat.le_refl _) (.cells #[.iface 9 (.string ⟨#[108, 101, 103, 101, 110, 100]⟩), .iface 25 (.agg #[.int .u8 6, .string ⟨#[]⟩, .slice p16 n16 c16, .slice q16 m16 d16]), .iface 9 (.string ⟨#[102, 117, 108, 108]⟩), .iface 25 (.agg #[.int .u8 6, .string ⟨#[]⟩, .slice p23 n23 c23, .slice q23 m23 d23])] 20)
      have HQ := Lib.hid (And.intro hps hB)
      clear hd hold hps hB
      go_simp
      exact hK.out _ _ HQ.out.1 HQ.out.2
    · obtain rfl := Option.some.inj ho
      obtain ⟨y24, e24, h24⟩ := hd 24 38 rfl (by decide +kernel) (by decide)
      have h24 : PsF (w.heap.size + 1) 2 tTokens y24 W := h24
      have hcall := obj_ret (y := y24) (w := W) (N := w.heap.size + 1) HG.out.lt (by decide) h24 (HPo.out _ HG.out.below)
      have HC := Lib.hid hcall
      clear hd hold hcall h24
      go_simp
      go_at_call 53
      (with_reducible refine HC.out.mono ?_)
      rintro e W1 ⟨y, rfl, hv, hB⟩
      exact hK.out _ _ hv hB
    · obtain rfl := Option.some.inj ho
      obtain ⟨y25, e25, h25⟩ := hd 25 39 rfl (by decide +kernel) (by decide)
      obtain ⟨p25, n25, c25, q25, m25, d25, rfl, l25, f25⟩ : VF (w.heap.size + 1) 6 ⟨#[]⟩ .nil tTokens y25 W := h25
      clear hd hold
      go_simp
      exact hK.out _ _ ⟨_, rfl, VF.mk l25 f25⟩ (Below.refl _ _)
    · obtain rfl := Option.some.inj ho
      clear hd hold
      go_simp
      exact hK.out _ _ (by rfl) (Below.refl _ _)
    · obtain rfl := Option.some.inj ho
      have o1 : a.tmps[1]? = _ := (hold 1 rfl).trans rfl
      clear hd hold
      obtain ⟨s0, s1, s2, s3⟩ := HG.out.b1.box
      go_simp
      exact hK.out _ _ (VF.mk (HS.nil _ _ _) (HS.nil _ _ _)) (Below.refl _ _)
    · obtain rfl := Option.some.inj ho
      obtain ⟨y28, e28, h28⟩ := hd 28 42 rfl (by decide +kernel) (by decide)
      obtain ⟨p28, n28, c28, q28, m28, d28, rfl, l28, f28⟩ : VF (w.heap.size + 1) 2 ⟨#[]⟩ .nil .nil y28 W := h28
      clear hd hold
      go_simp
      exact hK.out _ _ ⟨_, rfl, VF.mk l28 f28⟩ (Below.refl _ _)
    · obtain rfl := Option.some.inj ho
      clear hd hold
      go_simp
      exact hK.out _ _ (by rfl) (Below.refl _ _)
    · obtain rfl := Option.some.inj ho
      have o1 : a.tmps[1]? = _ := (hold 1 rfl).trans rfl
      clear hd hold
      obtain ⟨s0, s1, s2, s3⟩ := HG.out.b1.box
      go_simp
      exact hK.out _ _ (VF.mk (HS.nil _ _ _) (HS.nil _ _ _)) (Below.refl _ _)
    · obtain rfl := Option.some.inj ho
      obtain ⟨y31, e31, h31⟩ := hd 31 45 rfl (by decide +kernel) (by decide)
      obtain ⟨p31, n31, c31, q31, m31, d31, rfl, l31, f31⟩ : VF (w.heap.size + 1) 2 ⟨#[]⟩ .nil .nil y31 W := h31
      clear hd hold
      go_simp
      exact hK.out _ _ ⟨_, rfl, VF.mk l31 f31⟩ (Below.refl _ _)
    · obtain rfl := Option.some.inj ho
      obtain ⟨y1, e1, h1⟩ := hd 1 15 rfl (by decide +kernel) (by decide)
      have h1 : y1 = _ := h1
      subst h1
      obtain ⟨y3, e3, h3⟩ := hd 3 17 rfl (by decide +kernel) (by decide)
      obtain ⟨z3, rfl, p3, n3, c3, q3, m3, d3, rfl, l3, f3⟩ : IVF (w.heap.size + 1) 4 ⟨#[117, 116, 102, 45, 49, 54]⟩ .nil .nil y3 W := h3
      obtain ⟨y4, e4, h4⟩ := hd 4 18 rfl (by decide +kernel) (by decide)
      have h4 : y4 = _ := h4
      subst h4
      obtain ⟨y12, e12, h12⟩ := hd 12 26 rfl (by decide +kernel) (by decide)
      obtain ⟨z12, rfl, p12, n12, c12, q12, m12, d12, rfl, l12, f12⟩ : IVF (w.heap.size + 1) 6 ⟨#[]⟩ .nil tSync y12 W := h12
      obtain ⟨y13, e13, h13⟩ := hd 13 27 rfl (by decide +kernel) (by decide)
      have h13 : y13 = _ := h13
      subst h13
      obtain ⟨y26, e26, h26⟩ := hd 26 40 rfl (by decide +kernel) (by decide)
      obtain ⟨z26, rfl, p26, n26, c26, q26, m26, d26, rfl, l26, f26⟩ : IVF (w.heap.size + 1) 6 ⟨#[]⟩ .nil tTokens y26 W := h26
      obtain ⟨y27, e27, h27⟩ := hd 27 41 rfl (by decide +kernel) (by decide)
      have h27 : y27 = _ := h27
      subst h27
      obtain ⟨y29, e29, h29⟩ := hd 29 43 rfl (by decide +kernel) (by decide)
      obtain ⟨z29, rfl, p29, n29, c29, q29, m29, d29, rfl, l29, f29⟩ : IVF (w.heap.size + 1) 2 ⟨#[]⟩ .nil .nil y29 W := h29
      obtain ⟨y30, e30, h30⟩ := hd 30 44 rfl (by decide +kernel) (by decide)
      have h30 : y30 = _ := h30
      subst h30
      obtain ⟨y32, e32, h32⟩ := hd 32 46 rfl (by decide +kernel) (by decide)
      obtain ⟨z32, rfl, p32, n32, c32, q32, m32, d32, rfl, l32, f32⟩ : IVF (w.heap.size + 1) 2 ⟨#[]⟩ .nil .nil y32 W := h32
      have hps := psf_new (cs := #[.iface 9 (.string ⟨#[112, 111, 115, 105, 116, 105, 111, 110, 69, 110, 99, 111, 100, 105, 110, 103]⟩), .iface 25 (.agg #[.int .u8 4, .string ⟨#[117, 116, 102, 45, 49, 54]⟩, .slice p3 n3 c3, .slice q3 m3 d3]), .iface 9 (.string ⟨#[116, 101, 120, 116, 68, 111, 99, 117, 109, 101, 110, 116, 83, 121, 110, 99]⟩), .iface 25 (.agg #[.int .u8 6, .string ⟨#[]⟩, .slice p12 n12 c12, .slice q12 m12 d12]), .iface 9 (.string ⟨#[115, 101, 109, 97, 110, 116, 105, 99, 84, 111, 107, 101, 110, 115, 80, 114, 111, 118, 105, 100, 101, 114]⟩), .iface 25 (.agg #[.int .u8 6, .string ⟨#[]⟩, .slice p26 n26 c26, .slice q26 m26 d26]), .iface 9 (.string ⟨#[102, 111, 108, 100, 105, 110, 103, 82, 97, 110, 103, 101, 80, 114, 111, 118, 105, 100, 101, 114]⟩), .iface 25 (.agg #[.int .u8 2, .string ⟨#[]⟩, .slice p29 n29 c29, .slice q29 m29 d29]), .iface 9 (.string ⟨#[115, 101, 108, 101, 99, 116, 105, 111, 110, 82, 97, 110, 103, 101, 80, 114, 111, 118, 105, 100, 101, 114]⟩), .iface 25 (.agg #[.int .u8 2, .string ⟨#[]⟩, .slice p32 n32 c32, .slice q32 m32 d32])]) (N := w.heap.size + 1) (W := W) (t := 20) (T := tAll) (m := 5) [vPt ⟨#[112, 111, 115, 105, 116, 105, 111, 110, 69, 110, 99, 111, 100, 105, 110, 103]⟩ 4 ⟨#[117, 116, 102, 45, 49, 54]⟩ (.slice p3 n3 c3) (.slice q3 m3 d3) .nil .nil, vPt ⟨#[116, 101, 120, 116, 68, 111, 99, 117, 109, 101, 110, 116, 83, 121, 110, 99]⟩ 6 ⟨#[]⟩ (.slice p12 n12 c12) (.slice q12 m12 d12) .nil tSync, vPt ⟨#[115, 101, 109, 97, 110, 116, 105, 99, 84, 111, 107, 101, 110, 115, 80, 114, 111, 118, 105, 100, 101, 114]⟩ 6 ⟨#[]⟩ (.slice p26 n26 c26) (.slice q26 m26 d26) .nil tTokens, vPt ⟨#[102, 111, 108, 100, 105, 110, 103, 82, 97, 110, 103, 101, 80, 114, 111, 118, 105, 100, 101, 114]⟩ 2 ⟨#[]⟩ (.slice p29 n29 c29) (.slice q29 m29 d29) .nil .nil, vPt ⟨#[115, 101, 108, 101, 99, 116, 105, 111, 110, 82, 97, 110, 103, 101, 80, 114, 111, 118, 105, 100, 101, 114]⟩ 2 ⟨#[]⟩ (.slice p32 n32 c32) (.slice q32 m32 d32) .nil .nil] rfl rfl rfl (fun p hp => by
        simp only [List.mem_cons, List.not_mem_nil, or_false] at hp
        rcases hp with rfl | rfl | rfl | rfl | rfl
        · exact vPt_ok ⟨by decide, by decide, by decide⟩ l3 f3
        · exact vPt_ok ⟨by decide, by decide, by decide⟩ l12 f12
        · exact vPt_ok ⟨by decide, by decide, by decide⟩ l26 f26
        · exact vPt_ok ⟨by decide, by decide, by decide⟩ l29 f29
        · exact vPt_ok ⟨by decide, by decide, by decide⟩ l32 f32)
      have hB := (Below.refl W.heap.size W).alloc (Nat.le_refl _) (.cells #[.iface 9 (.string ⟨#[112, 111, 115, 105, 116, 105, 111, 110, 69, 110, 99, 111, 100, 105, 110, 103]⟩), .iface 25 (.agg #[.int .u8 4, .string ⟨#[117, 116, 102, 45, 49, 54]⟩, .slice p3 n3 c3, .slice q3 m3 d3]), .iface 9 (.string ⟨#[116, 101, 120, 116, 68, 111, 99, 117, 109, 101, 110, 116, 83, 121, 110, 99]⟩), .iface 25 (.agg #[.int .u8 6, .string ⟨#[]⟩, .slice p12 n12 c12, .slice q12 m12 d12]), .iface 9 (.string ⟨#[115, 101, 109, 97, 110, 116, 105, 99, 84, 111, 107, 101, 110, 115, 80, 114, 111, 118, 105, 100, 101, 114]⟩), .iface 25 (.agg #[.int .u8 6, .string ⟨#[]⟩, .slice p26 n26 c26, .slice q26 m26 d26]), .iface 9 (.string ⟨#[102, 111, 108, 100, 105, 110, 103, 82, 97, 110, 103, 101, 80, 114, 111, 118, 105, 100, 101, 114]⟩), .iface 25 (.agg #[.int .u8 2, .string ⟨#[]⟩, .slice p29 n29 c29, .slice q29 m29 d29]), .iface 9 (.string ⟨#[115, 101, 108, 101, 99, 116, 105, 111, 110, 82, 97, 110, 103, 101, 80, 114, 111, 118, 105, 100, 101, 114]⟩), .iface 25 (.agg #[.int .u8 2, .string ⟨#[]⟩, .slice p32 n32 c32, .slice q32 m32 d32])] 20)
      have HQ := Lib.hid (And.intro hps hB)
      clear hd hold hps hB
      go_simp
      exact hK.out _ _ HQ.out.1 HQ.out.2
    · obtain rfl := Option.some.inj ho
      obtain ⟨y33, e33, h33⟩ := hd 33 47 rfl (by decide +kernel) (by decide)
      have h33 : PsF (w.heap.size + 1) 5 tAll y33 W := h33
      have hcall := obj_ret (y := y33) (w := W) (N := w.heap.size + 1) HG.out.lt (by decide) h33 (HPo.out _ HG.out.below)
      have HC := Lib.hid hcall
      clear hd hold hcall h33
      go_simp
      go_at_call 53
      (with_reducible refine HC.out.mono ?_)
      rintro e W1 ⟨y, rfl, hv, hB⟩
      exact hK.out _ _ hv hB
    · obtain rfl := Option.some.inj ho
      obtain ⟨y34, e34, h34⟩ := hd 34 48 rfl (by decide +kernel) (by decide)
      obtain ⟨p34, n34, c34, q34, m34, d34, rfl, l34, f34⟩ : VF (w.heap.size + 1) 6 ⟨#[]⟩ .nil tAll y34 W := h34
      clear hd hold
      go_simp
      exact hK.out _ _ ⟨_, rfl, VF.mk l34 f34⟩ (Below.refl _ _)
    · obtain rfl := Option.some.inj ho
      clear hd hold
      go_simp
      exact hK.out _ _ (by rfl) (Below.refl _ _)
    · obtain rfl := Option.some.inj ho
      clear hd hold
      go_simp
      exact hK.out _ _ (by rfl) (Below.refl _ _)
    · obtain rfl := Option.some.inj ho
      clear hd hold
      go_simp
      go_at_call 41
      (with_reducible refine (HX2.out _ HG.out.below).mono ?_)
      rintro e W1 h
      obtain ⟨y, rfl, hv, hB⟩ := text_ret (N := w.heap.size + 1) h
      exact hK.out _ _ hv hB
    · obtain rfl := Option.some.inj ho
      obtain ⟨y38, e38, h38⟩ := hd 38 52 rfl (by decide +kernel) (by decide)
      obtain ⟨p38, n38, c38, q38, m38, d38, rfl, l38, f38⟩ : VF (w.heap.size + 1) 4 ⟨#[103, 108, 111, 115, 115, 97, 116, 111, 114]⟩ .nil .nil y38 W := h38
      clear hd hold
      go_simp
      exact hK.out _ _ ⟨_, rfl, VF.mk l38 f38⟩ (Below.refl _ _)
    · obtain rfl := Option.some.inj ho
      obtain ⟨y37, e37, h37⟩ := hd 37 51 rfl (by decide +kernel) (by decide)
      have h37 : y37 = _ := h37
      subst h37
      obtain ⟨y39, e39, h39⟩ := hd 39 53 rfl (by decide +kernel) (by decide)
      obtain ⟨z39, rfl, p39, n39, c39, q39, m39, d39, rfl, l39, f39⟩ : IVF (w.heap.size + 1) 4 ⟨#[103, 108, 111, 115, 115, 97, 116, 111, 114]⟩ .nil .nil y39 W := h39
      have hps := psf_new (cs := #[.iface 9 (.string ⟨#[110, 97, 109, 101]⟩), .iface 25 (.agg #[.int .u8 4, .string ⟨#[103, 108, 111, 115, 115, 97, 116, 111, 114]⟩, .slice p39 n39 c39, .slice q39 m39 d39])]) (N := w.heap.size + 1) (W := W) (t := 20) (T := tInfo) (m := 1) [vPt ⟨#[110, 97, 109, 101]⟩ 4 ⟨#[103, 108, 111, 115, 115, 97, 116, 111, 114]⟩ (.slice p39 n39 c39) (.slice q39 m39 d39) .nil .nil] rfl rfl rfl (fun p hp => by
        simp only [List.mem_cons, List.not_mem_nil, or_false] at hp
        rcases hp with rfl
        · exact vPt_ok ⟨by decide, by decide, by decide⟩ l39 f39)
      have hB := (Below.refl W.heap.size W).alloc (Nat.le_refl _) (.cells #[.iface 9 (.string ⟨#[110, 97, 109, 101]⟩), .iface 25 (.agg #[.int .u8 4, .string ⟨#[103, 108, 111, 115, 115, 97, 116, 111, 114]⟩, .slice p39 n39 c39, .slice q39 m39 d39])] 20)
      have HQ := Lib.hid (And.intro hps hB)
      clear hd hold hps hB
      go_simp
      exact hK.out _ _ HQ.out.1 HQ.out.2
    · obtain rfl := Option.some.inj ho
      obtain ⟨y40, e40, h40⟩ := hd 40 54 rfl (by decide +kernel) (by decide)
      have h40 : PsF (w.heap.size + 1) 1 tInfo y40 W := h40
      have hcall := obj_ret (y := y40) (w := W) (N := w.heap.size + 1) HG.out.lt (by decide) h40 (HPo.out _ HG.out.below)
      have HC := Lib.hid hcall
      clear hd hold hcall h40
      go_simp
      go_at_call 53
      (with_reducible refine HC.out.mono ?_)
      rintro e W1 ⟨y, rfl, hv, hB⟩
      exact hK.out _ _ hv hB
    · obtain rfl := Option.some.inj ho
      obtain ⟨y41, e41, h41⟩ := hd 41 55 rfl (by decide +kernel) (by decide)
      obtain ⟨p41, n41, c41, q41, m41, d41, rfl, l41, f41⟩ : VF (w.heap.size + 1) 6 ⟨#[]⟩ .nil tInfo y41 W := h41
      clear hd hold
      go_simp
      exact hK.out _ _ ⟨_, rfl, VF.mk l41 f41⟩ (Below.refl _ _)
    · obtain rfl := Option.some.inj ho
      obtain ⟨y0, e0, h0⟩ := hd 0 14 rfl (by decide +kernel) (by decide)
      have h0 : y0 = _ := h0
      subst h0
      obtain ⟨y35, e35, h35⟩ := hd 35 49 rfl (by decide +kernel) (by decide)
      obtain ⟨z35, rfl, p35, n35, c35, q35, m35, d35, rfl, l35, f35⟩ : IVF (w.heap.size + 1) 6 ⟨#[]⟩ .nil tAll y35 W := h35
      obtain ⟨y36, e36, h36⟩ := hd 36 50 rfl (by decide +kernel) (by decide)
      have h36 : y36 = _ := h36
      subst h36
      obtain ⟨y42, e42, h42⟩ := hd 42 56 rfl (by decide +kernel) (by decide)
      obtain ⟨z42, rfl, p42, n42, c42, q42, m42, d42, rfl, l42, f42⟩ : IVF (w.heap.size + 1) 6 ⟨#[]⟩ .nil tInfo y42 W := h42
      have hps := psf_new (cs := #[.iface 9 (.string ⟨#[99, 97, 112, 97, 98, 105, 108, 105, 116, 105, 101, 115]⟩), .iface 25 (.agg #[.int .u8 6, .string ⟨#[]⟩, .slice p35 n35 c35, .slice q35 m35 d35]), .iface 9 (.string ⟨#[115, 101, 114, 118, 101, 114, 73, 110, 102, 111]⟩), .iface 25 (.agg #[.int .u8 6, .string ⟨#[]⟩, .slice p42 n42 c42, .slice q42 m42 d42])]) (N := w.heap.size + 1) (W := W) (t := 20) (T := tCap) (m := 2) [vPt ⟨#[99, 97, 112, 97, 98, 105, 108, 105, 116, 105, 101, 115]⟩ 6 ⟨#[]⟩ (.slice p35 n35 c35) (.slice q35 m35 d35) .nil tAll, vPt ⟨#[115, 101, 114, 118, 101, 114, 73, 110, 102, 111]⟩ 6 ⟨#[]⟩ (.slice p42 n42 c42) (.slice q42 m42 d42) .nil tInfo] rfl rfl rfl (fun p hp => by
        simp only [List.mem_cons, List.not_mem_nil, or_false] at hp
        rcases hp with rfl | rfl
        · exact vPt_ok ⟨by decide, by decide, by decide⟩ l35 f35
        · exact vPt_ok ⟨by decide, by decide, by decide⟩ l42 f42)
      have hB := (Below.refl W.heap.size W).alloc (Nat.le_refl _) (.cells #[.iface 9 (.string ⟨#[99, 97, 112, 97, 98, 105, 108, 105, 116, 105, 101, 115]⟩), .iface 25 (.agg #[.int .u8 6, .string ⟨#[]⟩, .slice p35 n35 c35, .slice q35 m35 d35]), .iface 9 (.string ⟨#[115, 101, 114, 118, 101, 114, 73, 110, 102, 111]⟩), .iface 25 (.agg #[.int .u8 6, .string ⟨#[]⟩, .slice p42 n42 c42, .slice q42 m42 d42])] 20)
      have HQ := Lib.hid (And.intro hps hB)
      clear hd hold hps hB
      go_simp
      exact hK.out _ _ HQ.out.1 HQ.out.2
    · obtain rfl := Option.some.inj ho
      obtain ⟨y43, e43, h43⟩ := hd 43 57 rfl (by decide +kernel) (by decide)
      have h43 : PsF (w.heap.size + 1) 2 tCap y43 W := h43
      have hcall := obj_ret (y := y43) (w := W) (N := w.heap.size + 1) HG.out.lt (by decide) h43 (HPo.out _ HG.out.below)
      have HC := Lib.hid hcall
      clear hd hold hcall h43
      go_simp
      go_at_call 53
      (with_reducible refine HC.out.mono ?_)
      rintro e W1 ⟨y, rfl, hv, hB⟩
      exact hK.out _ _ hv hB
    · exact absurd rfl hz
  · intro a W hg hf hold hdf hasz K' hK
    obtain ⟨y58, o58, hv58⟩ := hf 44 58 rfl (by decide) (by decide)
    obtain ⟨p, n, c, q, m, d, rfl, hl, hf'⟩ : VF (w.heap.size + 1) 6 ⟨#[]⟩ .nil tCap y58 W := hv58
    have o0 : a.tmps[0]? = some (Value.pointer (some ⟨w.heap.size, 0, none⟩)) := (hold 0 rfl).trans rfl
    have od : a.defers = [] := hdf.trans rfl
    have HG := Lib.hid hg
    have HV := Lib.hid (And.intro hl hf')
    obtain ⟨s0, s1, s2, s3⟩ := hg.b0.box
    have f0 := hg.b0.free 0
    have f1 := hg.b0.free 1
    have f2 := hg.b0.free 2
    have f3 := hg.b0.free 3
    clear hg hl hf hf' hold hdf hasz
    go_simp
    refine hK.out _ _ ?_
    clear hK K'
    go_wp2_with fail
    obtain ⟨g1, g2, g3⟩ := HG.out.b0.all (.int .u8 6) (.string ⟨#[]⟩) (.slice p n c) (.slice q m d)
    have hw3 := set4_else W w.heap.size (.int .u8 6) (.string ⟨#[]⟩) (.slice p n c) (.slice q m d)
    have g3' := g3 w.heap.size (Nat.le_refl _)
    clear s0 s1 s2 s3 f0 f1 f2 f3
    generalize (((W.setCell ⟨w.heap.size, 0, none⟩ (.int .u8 6)).setCell ⟨w.heap.size, 1, none⟩ (.string ⟨#[]⟩)).setCell ⟨w.heap.size, 2, none⟩ (.slice p n c)).setCell ⟨w.heap.size, 3, none⟩ (.slice q m d) = w3 at *
    obtain ⟨x0, x1, x2, x3⟩ := g1.box
    refine bodyPost_ret (v := .agg #[.int .u8 6, .string ⟨#[]⟩, .slice p n c, .slice q m d]) (by simp [results, Tryd.results34, go_sem, o0, x0, x1, x2, x3]) od ?_
    exact ⟨_, rfl, VF.mk (HV.out.1.fre (fun b hb => by omega) (fun b hb _ => hw3 b (by omega))) (HV.out.2.fre (fun b hb => by omega) (fun b hb _ => hw3 b (by omega))), HG.out.below.trans g3'⟩
end Go.Proofs.YtdgmbmoaeoakpaaDoor
