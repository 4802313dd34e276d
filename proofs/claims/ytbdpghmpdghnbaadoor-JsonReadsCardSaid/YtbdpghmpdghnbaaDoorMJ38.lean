/- The document's own reader of JSON: a string, the rest of a round. Conditions: a string of at most 10^12 bytes. -/
import Derived.Test.YtbdpghmpdghnbaaDoorMJ28
import Derived.Test.YtbdpghmpdghnbaaDoorMJ29
import Derived.Test.YtbdpghmpdghnbaaDoorMJ37
import Derived.Deep.CutBlock
import Derived.Deep.RegionWith
import Derived.Deep.RegionHeld3
namespace Go.Proofs.YtbdpghmpdghnbaaDoor
open Go Go.RowKit Go.Lib

theorem grown_below {w w' : World} (h : Below w.heap.size w w') (row : Option Nat) : w.grownBy w' row := ⟨h.os, h.tape, h.output, h.size, fun k hk _ => h.block k hk⟩
theorem St.below {s : ByteArray} {p e B : Nat} {W W' : World} (h : St s p e B W) (g : Below W.heap.size W W') : St s p e B W' :=
  (g.block B (Array.getElem?_eq_some_iff.1 h).1).trans h

theorem after_next {s : ByteArray} {q B k : Nat} {w wr wn : World} (h : St s q 0 B wr) (g : w.grownBy wr (some B)) (hb : Below (wr.drewN k).heap.size (wr.drewN k) wn) (m : Nat) :
    St s q 0 B (wn.drewN m) ∧ w.grownBy (wn.drewN m) (some B) :=
  ⟨((h.drewN k).below hb).drewN m, grown_trans g (grown_trans (grownBy_drewN wr k _) (grown_trans (grown_below hb _) (grownBy_drewN wn m _)))⟩
/-- the reader gives a string back -/
def Told (s : ByteArray) (X : ByteArray × Nat × Nat) (B : Nat) (w : World) (en : Ending) (w' : World) : Prop :=
  en = .returned (.string X.1) ∧ St s X.2.1 X.2.2 B w' ∧ w.grownBy w' (some B)
/-- what holds ahead of each piece -/
def TxAtR (s : ByteArray) (B : Nat) (w : World) (X : ByteArray × Nat × Nat) (q e : Nat) (out : ByteArray) (high : Nat) (W : World) : Prop :=
  St s q e B W ∧ w.grownBy W (some B) ∧ (e = 0 → ∃ f, s.size - q + 1 ≤ f ∧ J.tx s f q out high = X) ∧ (¬ e = 0 → (⟨#[]⟩, q, e) = X)

/-- the first part of a body that begins with a region -/
def headId : Code → Option Nat
  | .region id _ _ => some id
  | .seq a _ => headId a
  | _ => none
def subAt (n : Nat) : Code → Option Code
  | .seq a b => if headId (.seq a b) = some n then some (.seq a b) else (subAt n a).orElse fun _ => subAt n b
  | .block _ c => subAt n c
  | .loop c => subAt n c
  | .cond _ a b => (subAt n a).orElse fun _ => subAt n b
  | _ => none
set_option maxRecDepth 100000 in
set_option maxHeartbeats 4000000 in
theorem text_rest (B : Nat) (out more : ByteArray) (high : Nat) (z : Int) (v0 : Value) (x7 x8 x9 x10 x13 x14 x15 x16 x17 x18 x19 x20 x21 x22 x23 x24 x25 x26 x27 x28 x29 x30 x31 x32 x33 x34 x35 x36 x37 x38 x39 x40 x41 x42 x43 x44 x45 x46 x47 x48 x49 x50 x51 x52 x53 x54 x55 x56 x57 x58 x59 x60 x61 x62 x63 x64 x65 x66 x67 x68 x69 x70 x71 x72 x73 x74 x75 x76 x77 x78 x79 x80 x81 x82 x83 x84 x85 x86 x87 x88 x89 x90 x91 x92 x93 x94 x95 x96 x97 x98 x99 x100 x101 x102 x103 x104 x105 x106 x107 x108 x109 x110 x111 x112 x113 x114 x115 x116 x117 x118 x119 x120 x121 x122 x123 x124 x125 x126 x127 x128 x129 x130 x131 x132 x133 x134 x135 x136 x137 x138 x139 x140 x141 x142 x143 x144 x145 x146 x147 x148 x149 x150 x151 x152 x153 x154 x155 x156 x157 x158 x159 x160 x161 x162 x163 x164 x165 x166 x167 x168 x169 x170 x171 x172 x173 : Value) (wc : World) (Q : Exit → Act → World → Prop) (hh : high < 65536) (k1 : -1 ≤ z) (k2 : z < 65536) (hos : out.size ≤ 3000000000000) (k5 : z < 0 → more.size ≤ 3000000000000)
    (hN : ∀ (o' : ByteArray) (h' : Nat), J.ad out high z more = (o', h') → ∀ y5 y6 y7 y8 y9 y10 y13 y14 y15 y16 y17 y18 y19 y20 y21 y22 y23 y24 y25 y26 y27 y28 y29 y30 y31 y32 y33 y34 y35 y36 y37 y38 y39 y40 y41 y42 y43 y44 y45 y46 y47 y48 y49 y50 y51 y52 y53 y54 y55 y56 y57 y58 y59 y60 y61 y62 y63 y64 y65 y66 y67 y68 y69 y70 y71 y72 y73 y74 y75 y76 y77 y78 y79 y80 y81 y82 y83 y84 y85 y86 y87 y88 y89 y90 y91 y92 y93 y94 y95 y96 y97 y98 y99 y100 y101 y102 y103 y104 y105 y106 y107 y108 y109 y110 y111 y112 y113 y114 y115 y116 y117 y118 y119 y120 y121 y122 y123 y124 y125 y126 y127 y128 y129 y130 y131 y132 y133 y134 y135 y136 y137 y138 y139 y140 y141 y142 y143 y144 y145 y146 y147 y148 y149 y150 y151 y152 y153 y154 y155 y156 y157 y158 y159 y160 y161 y162 y163 y164 y165 y166 y167 y168 y169 y170 y171 y172 y173 : Value, Q .normal { tmps := #[Value.pointer (some ⟨B, 0, none⟩), undef, Value.string ⟨#[]⟩, Value.string o', Value.int .i64 h', y5, y6, y7, y8, y9, y10, Value.pointer (some ⟨B, 0, none⟩), v0, y13, y14, y15, y16, y17, y18, y19, y20, y21, y22, y23, y24, y25, y26, y27, y28, y29, y30, y31, y32, y33, y34, y35, y36, y37, y38, y39, y40, y41, y42, y43, y44, y45, y46, y47, y48, y49, y50, y51, y52, y53, y54, y55, y56, y57, y58, y59, y60, y61, y62, y63, y64, y65, y66, y67, y68, y69, y70, y71, y72, y73, y74, y75, y76, y77, y78, y79, y80, y81, y82, y83, y84, y85, y86, y87, y88, y89, y90, y91, y92, y93, y94, y95, y96, y97, y98, y99, y100, y101, y102, y103, y104, y105, y106, y107, y108, y109, y110, y111, y112, y113, y114, y115, y116, y117, y118, y119, y120, y121, y122, y123, y124, y125, y126, y127, y128, y129, y130, y131, y132, y133, y134, y135, y136, y137, y138, y139, y140, y141, y142, y143, y144, y145, y146, y147, y148, y149, y150, y151, y152, y153, y154, y155, y156, y157, y158, y159, y160, y161, y162, y163, y164, y165, y166, y167, y168, y169, y170, y171, y172, y173], defers := [] } wc)
    (hE : ∀ (o' : ByteArray) (h' : Nat), J.ad out high z more = (o', h') → ∀ y5 y6 y7 y8 y9 y10 y13 y14 y15 y16 y17 y18 y19 y20 y21 y22 y23 y24 y25 y26 y27 y28 y29 y30 y31 y32 y33 y34 y35 y36 y37 y38 y39 y40 y41 y42 y43 y44 y45 y46 y47 y48 y49 y50 y51 y52 y53 y54 y55 y56 y57 y58 y59 y60 y61 y62 y63 y64 y65 y66 y67 y68 y69 y70 y71 y72 y73 y74 y75 y76 y77 y78 y79 y80 y81 y82 y83 y84 y85 y86 y87 y88 y89 y90 y91 y92 y93 y94 y95 y96 y97 y98 y99 y100 y101 y102 y103 y104 y105 y106 y107 y108 y109 y110 y111 y112 y113 y114 y115 y116 y117 y118 y119 y120 y121 y122 y123 y124 y125 y126 y127 y128 y129 y130 y131 y132 y133 y134 y135 y136 y137 y138 y139 y140 y141 y142 y143 y144 y145 y146 y147 y148 y149 y150 y151 y152 y153 y154 y155 y156 y157 y158 y159 y160 y161 y162 y163 y164 y165 y166 y167 y168 y169 y170 y171 y172 y173 : Value, Q (.exit 1) { tmps := #[Value.pointer (some ⟨B, 0, none⟩), undef, Value.string ⟨#[]⟩, Value.string o', Value.int .i64 h', y5, y6, y7, y8, y9, y10, Value.pointer (some ⟨B, 0, none⟩), v0, y13, y14, y15, y16, y17, y18, y19, y20, y21, y22, y23, y24, y25, y26, y27, y28, y29, y30, y31, y32, y33, y34, y35, y36, y37, y38, y39, y40, y41, y42, y43, y44, y45, y46, y47, y48, y49, y50, y51, y52, y53, y54, y55, y56, y57, y58, y59, y60, y61, y62, y63, y64, y65, y66, y67, y68, y69, y70, y71, y72, y73, y74, y75, y76, y77, y78, y79, y80, y81, y82, y83, y84, y85, y86, y87, y88, y89, y90, y91, y92, y93, y94, y95, y96, y97, y98, y99, y100, y101, y102, y103, y104, y105, y106, y107, y108, y109, y110, y111, y112, y113, y114, y115, y116, y117, y118, y119, y120, y121, y122, y123, y124, y125, y126, y127, y128, y129, y130, y131, y132, y133, y134, y135, y136, y137, y138, y139, y140, y141, y142, y143, y144, y145, y146, y147, y148, y149, y150, y151, y152, y153, y154, y155, y156, y157, y158, y159, y160, y161, y162, y163, y164, y165, y166, y167, y168, y169, y170, y171, y172, y173], defers := [] } wc) :
    Code.wp Tryd.prog ((subAt 24 (Tryd.f15.body.getD .skip)).getD .skip) Q { tmps := #[Value.pointer (some ⟨B, 0, none⟩), undef, Value.string ⟨#[]⟩, Value.string out, Value.int .i64 high, Value.int .i64 z, Value.string more, x7, x8, x9, x10, Value.pointer (some ⟨B, 0, none⟩), v0, x13, x14, x15, x16, x17, x18, x19, x20, x21, x22, x23, x24, x25, x26, x27, x28, x29, x30, x31, x32, x33, x34, x35, x36, x37, x38, x39, x40, x41, x42, x43, x44, x45, x46, x47, x48, x49, x50, x51, x52, x53, x54, x55, x56, x57, x58, x59, x60, x61, x62, x63, x64, x65, x66, x67, x68, x69, x70, x71, x72, x73, x74, x75, x76, x77, x78, x79, x80, x81, x82, x83, x84, x85, x86, x87, x88, x89, x90, x91, x92, x93, x94, x95, x96, x97, x98, x99, x100, x101, x102, x103, x104, x105, x106, x107, x108, x109, x110, x111, x112, x113, x114, x115, x116, x117, x118, x119, x120, x121, x122, x123, x124, x125, x126, x127, x128, x129, x130, x131, x132, x133, x134, x135, x136, x137, x138, x139, x140, x141, x142, x143, x144, x145, x146, x147, x148, x149, x150, x151, x152, x153, x154, x155, x156, x157, x158, x159, x160, x161, x162, x163, x164, x165, x166, x167, x168, x169, x170, x171, x172, x173], defers := [] } wc := by
  have HN := Lib.hid hN
  have HE := Lib.hid hE
  have K5 := Lib.hid k5
  clear hN hE k5
  change Code.wp Tryd.prog (Code.seq _ _) _ _ _
  try dsimp only
  go_upto_region 24 with fail
  go_cut [130] from 120 to 131 (fun t wx => t = .bool (decide (0 < high ∧ 56320 ≤ z ∧ z ≤ 57343)) ∧ wx = wc)
  case first =>
    by_cases a1 : 0 < high
    · by_cases a2 : 56320 ≤ z
      · by_cases a3 : z ≤ 57343
        · go_wp2_with fail
          go_meet
          exact ⟨congrArg Value.bool (decide_eq_true (p := 0 < high ∧ 56320 ≤ z ∧ z ≤ 57343) ⟨a1, a2, a3⟩).symm, rfl⟩
        · go_wp2_with fail
          go_meet
          exact ⟨congrArg Value.bool (decide_eq_false (p := 0 < high ∧ 56320 ≤ z ∧ z ≤ 57343) (by omega)).symm, rfl⟩
      · go_wp2_with fail
        go_meet
        exact ⟨congrArg Value.bool (decide_eq_false (p := 0 < high ∧ 56320 ≤ z ∧ z ≤ 57343) (by omega)).symm, rfl⟩
    · go_wp2_with fail
      go_meet
      exact ⟨congrArg Value.bool (decide_eq_false (p := 0 < high ∧ 56320 ≤ z ∧ z ≤ 57343) (by omega)).symm, rfl⟩
  case rest =>
  obtain ⟨rfl, rfl⟩ := hcut
  by_cases hp : 0 < high ∧ 56320 ≤ z ∧ z ≤ 57343
  · have ht := decide_eq_true hp
    have HA := Lib.hid (show J.ad out high z more = (out ++ Utf8.encode (65536 + ((high : Int) - 55296) * 1024 + z - 56320), 0) by unfold J.ad; rw [if_pos hp])
    have es1 := encode_size_le (65536 + ((high : Int) - 55296) * 1024 + z - 56320)
    obtain ⟨a1, a2, a3⟩ := hp
    go_wp2_with fail
    first | exact HN.out _ _ HA.out _ _ _ _ _ _ _ _ _ _ _ _ _ _ _ _ _ _ _ _ _ _ _ _ _ _ _ _ _ _ _ _ _ _ _ _ _ _ _ _ _ _ _ _ _ _ _ _ _ _ _ _ _ _ _ _ _ _ _ _ _ _ _ _ _ _ _ _ _ _ _ _ _ _ _ _ _ _ _ _ _ _ _ _ _ _ _ _ _ _ _ _ _ _ _ _ _ _ _ _ _ _ _ _ _ _ _ _ _ _ _ _ _ _ _ _ _ _ _ _ _ _ _ _ _ _ _ _ _ _ _ _ _ _ _ _ _ _ _ _ _ _ _ _ _ _ _ _ _ _ _ _ _ _ _ _ _ _ _ _ _ _ _ _ _ _ _ | exact HE.out _ _ HA.out _ _ _ _ _ _ _ _ _ _ _ _ _ _ _ _ _ _ _ _ _ _ _ _ _ _ _ _ _ _ _ _ _ _ _ _ _ _ _ _ _ _ _ _ _ _ _ _ _ _ _ _ _ _ _ _ _ _ _ _ _ _ _ _ _ _ _ _ _ _ _ _ _ _ _ _ _ _ _ _ _ _ _ _ _ _ _ _ _ _ _ _ _ _ _ _ _ _ _ _ _ _ _ _ _ _ _ _ _ _ _ _ _ _ _ _ _ _ _ _ _ _ _ _ _ _ _ _ _ _ _ _ _ _ _ _ _ _ _ _ _ _ _ _ _ _ _ _ _ _ _ _ _ _ _ _ _ _ _ _ _ _ _ _ _ _ _
  · have ht := decide_eq_false hp
    have HP := Lib.hid hp
    clear hp
    go_upto_if 143 with fail
    go_cut [3, 4] from 119 to 160 (fun o hi wx => o = .string (J.fl out high) ∧ hi = .int .i64 0 ∧ wx = wc)
    case first =>
      by_cases a1 : 0 < high
      · have hfl : J.fl out high = out ++ ⟨#[239, 191, 189]⟩ := by unfold J.fl; rw [if_pos a1]; rfl
        go_wp2_with fail
        go_meet
        exact ⟨congrArg Value.string hfl.symm, rfl, rfl⟩
      · have hfl : J.fl out high = out := by unfold J.fl; rw [if_neg a1]
        go_wp2_with fail
        go_meet
        exact ⟨congrArg Value.string hfl.symm, congrArg (Value.int .i64) (by omega), rfl⟩
    case rest =>
    obtain ⟨rfl, rfl, rfl⟩ := hcut
    have hfs : (J.fl out high).size ≤ 4000000000000 := by rw [J.fl_size]; unfold J.pd; split <;> omega
    clear ht
    by_cases b1 : z < 0
    · have hms := K5.out b1
      have HA := Lib.hid (show J.ad out high z more = (J.fl out high ++ more, 0) by unfold J.ad; rw [if_neg HP.out, if_pos b1])
      generalize J.fl out high = o2 at *
      go_wp2_with fail
      first | exact HN.out _ _ HA.out _ _ _ _ _ _ _ _ _ _ _ _ _ _ _ _ _ _ _ _ _ _ _ _ _ _ _ _ _ _ _ _ _ _ _ _ _ _ _ _ _ _ _ _ _ _ _ _ _ _ _ _ _ _ _ _ _ _ _ _ _ _ _ _ _ _ _ _ _ _ _ _ _ _ _ _ _ _ _ _ _ _ _ _ _ _ _ _ _ _ _ _ _ _ _ _ _ _ _ _ _ _ _ _ _ _ _ _ _ _ _ _ _ _ _ _ _ _ _ _ _ _ _ _ _ _ _ _ _ _ _ _ _ _ _ _ _ _ _ _ _ _ _ _ _ _ _ _ _ _ _ _ _ _ _ _ _ _ _ _ _ _ _ _ _ _ _ | exact HE.out _ _ HA.out _ _ _ _ _ _ _ _ _ _ _ _ _ _ _ _ _ _ _ _ _ _ _ _ _ _ _ _ _ _ _ _ _ _ _ _ _ _ _ _ _ _ _ _ _ _ _ _ _ _ _ _ _ _ _ _ _ _ _ _ _ _ _ _ _ _ _ _ _ _ _ _ _ _ _ _ _ _ _ _ _ _ _ _ _ _ _ _ _ _ _ _ _ _ _ _ _ _ _ _ _ _ _ _ _ _ _ _ _ _ _ _ _ _ _ _ _ _ _ _ _ _ _ _ _ _ _ _ _ _ _ _ _ _ _ _ _ _ _ _ _ _ _ _ _ _ _ _ _ _ _ _ _ _ _ _ _ _ _ _ _ _ _ _ _ _ _
    · by_cases b2 : 55296 ≤ z ∧ z ≤ 56319
      · obtain ⟨u0, rfl⟩ := Int.eq_ofNat_of_zero_le (show 0 ≤ z by omega)
        have HA := Lib.hid (show J.ad out high (u0 : Int) more = (J.fl out high, u0) by unfold J.ad; rw [if_neg HP.out, if_neg b1, if_pos b2]; rfl)
        obtain ⟨b3, b4⟩ := b2
        generalize J.fl out high = o2 at *
        go_wp2_with fail
        first | exact HN.out _ _ HA.out _ _ _ _ _ _ _ _ _ _ _ _ _ _ _ _ _ _ _ _ _ _ _ _ _ _ _ _ _ _ _ _ _ _ _ _ _ _ _ _ _ _ _ _ _ _ _ _ _ _ _ _ _ _ _ _ _ _ _ _ _ _ _ _ _ _ _ _ _ _ _ _ _ _ _ _ _ _ _ _ _ _ _ _ _ _ _ _ _ _ _ _ _ _ _ _ _ _ _ _ _ _ _ _ _ _ _ _ _ _ _ _ _ _ _ _ _ _ _ _ _ _ _ _ _ _ _ _ _ _ _ _ _ _ _ _ _ _ _ _ _ _ _ _ _ _ _ _ _ _ _ _ _ _ _ _ _ _ _ _ _ _ _ _ _ _ _ | exact HE.out _ _ HA.out _ _ _ _ _ _ _ _ _ _ _ _ _ _ _ _ _ _ _ _ _ _ _ _ _ _ _ _ _ _ _ _ _ _ _ _ _ _ _ _ _ _ _ _ _ _ _ _ _ _ _ _ _ _ _ _ _ _ _ _ _ _ _ _ _ _ _ _ _ _ _ _ _ _ _ _ _ _ _ _ _ _ _ _ _ _ _ _ _ _ _ _ _ _ _ _ _ _ _ _ _ _ _ _ _ _ _ _ _ _ _ _ _ _ _ _ _ _ _ _ _ _ _ _ _ _ _ _ _ _ _ _ _ _ _ _ _ _ _ _ _ _ _ _ _ _ _ _ _ _ _ _ _ _ _ _ _ _ _ _ _ _ _ _ _ _ _
      · by_cases b3 : 56320 ≤ z ∧ z ≤ 57343
        · have HA := Lib.hid (show J.ad out high z more = (J.fl out high ++ J.fffd, 0) by unfold J.ad; rw [if_neg HP.out, if_neg b1, if_neg b2, if_pos b3])
          obtain ⟨b4, b5⟩ := b3
          clear b2
          generalize J.fl out high = o2 at *
          go_wp2_with fail
          first | exact HN.out _ _ HA.out _ _ _ _ _ _ _ _ _ _ _ _ _ _ _ _ _ _ _ _ _ _ _ _ _ _ _ _ _ _ _ _ _ _ _ _ _ _ _ _ _ _ _ _ _ _ _ _ _ _ _ _ _ _ _ _ _ _ _ _ _ _ _ _ _ _ _ _ _ _ _ _ _ _ _ _ _ _ _ _ _ _ _ _ _ _ _ _ _ _ _ _ _ _ _ _ _ _ _ _ _ _ _ _ _ _ _ _ _ _ _ _ _ _ _ _ _ _ _ _ _ _ _ _ _ _ _ _ _ _ _ _ _ _ _ _ _ _ _ _ _ _ _ _ _ _ _ _ _ _ _ _ _ _ _ _ _ _ _ _ _ _ _ _ _ _ _ | exact HE.out _ _ HA.out _ _ _ _ _ _ _ _ _ _ _ _ _ _ _ _ _ _ _ _ _ _ _ _ _ _ _ _ _ _ _ _ _ _ _ _ _ _ _ _ _ _ _ _ _ _ _ _ _ _ _ _ _ _ _ _ _ _ _ _ _ _ _ _ _ _ _ _ _ _ _ _ _ _ _ _ _ _ _ _ _ _ _ _ _ _ _ _ _ _ _ _ _ _ _ _ _ _ _ _ _ _ _ _ _ _ _ _ _ _ _ _ _ _ _ _ _ _ _ _ _ _ _ _ _ _ _ _ _ _ _ _ _ _ _ _ _ _ _ _ _ _ _ _ _ _ _ _ _ _ _ _ _ _ _ _ _ _ _ _ _ _ _ _ _ _ _
        · have HA := Lib.hid (show J.ad out high z more = (J.fl out high ++ Utf8.encode z, 0) by unfold J.ad; rw [if_neg HP.out, if_neg b1, if_neg b2, if_neg b3])
          have es1 := encode_size_le z
          generalize J.fl out high = o2 at *
          by_cases b4 : z < 55296
          · clear b2 b3
            go_wp2_with fail
            first | exact HN.out _ _ HA.out _ _ _ _ _ _ _ _ _ _ _ _ _ _ _ _ _ _ _ _ _ _ _ _ _ _ _ _ _ _ _ _ _ _ _ _ _ _ _ _ _ _ _ _ _ _ _ _ _ _ _ _ _ _ _ _ _ _ _ _ _ _ _ _ _ _ _ _ _ _ _ _ _ _ _ _ _ _ _ _ _ _ _ _ _ _ _ _ _ _ _ _ _ _ _ _ _ _ _ _ _ _ _ _ _ _ _ _ _ _ _ _ _ _ _ _ _ _ _ _ _ _ _ _ _ _ _ _ _ _ _ _ _ _ _ _ _ _ _ _ _ _ _ _ _ _ _ _ _ _ _ _ _ _ _ _ _ _ _ _ _ _ _ _ _ _ _ | exact HE.out _ _ HA.out _ _ _ _ _ _ _ _ _ _ _ _ _ _ _ _ _ _ _ _ _ _ _ _ _ _ _ _ _ _ _ _ _ _ _ _ _ _ _ _ _ _ _ _ _ _ _ _ _ _ _ _ _ _ _ _ _ _ _ _ _ _ _ _ _ _ _ _ _ _ _ _ _ _ _ _ _ _ _ _ _ _ _ _ _ _ _ _ _ _ _ _ _ _ _ _ _ _ _ _ _ _ _ _ _ _ _ _ _ _ _ _ _ _ _ _ _ _ _ _ _ _ _ _ _ _ _ _ _ _ _ _ _ _ _ _ _ _ _ _ _ _ _ _ _ _ _ _ _ _ _ _ _ _ _ _ _ _ _ _ _ _ _ _ _ _ _
          · have b5 : 57343 < z := by omega
            clear b2 b3
            go_wp2_with fail
            first | exact HN.out _ _ HA.out _ _ _ _ _ _ _ _ _ _ _ _ _ _ _ _ _ _ _ _ _ _ _ _ _ _ _ _ _ _ _ _ _ _ _ _ _ _ _ _ _ _ _ _ _ _ _ _ _ _ _ _ _ _ _ _ _ _ _ _ _ _ _ _ _ _ _ _ _ _ _ _ _ _ _ _ _ _ _ _ _ _ _ _ _ _ _ _ _ _ _ _ _ _ _ _ _ _ _ _ _ _ _ _ _ _ _ _ _ _ _ _ _ _ _ _ _ _ _ _ _ _ _ _ _ _ _ _ _ _ _ _ _ _ _ _ _ _ _ _ _ _ _ _ _ _ _ _ _ _ _ _ _ _ _ _ _ _ _ _ _ _ _ _ _ _ _ | exact HE.out _ _ HA.out _ _ _ _ _ _ _ _ _ _ _ _ _ _ _ _ _ _ _ _ _ _ _ _ _ _ _ _ _ _ _ _ _ _ _ _ _ _ _ _ _ _ _ _ _ _ _ _ _ _ _ _ _ _ _ _ _ _ _ _ _ _ _ _ _ _ _ _ _ _ _ _ _ _ _ _ _ _ _ _ _ _ _ _ _ _ _ _ _ _ _ _ _ _ _ _ _ _ _ _ _ _ _ _ _ _ _ _ _ _ _ _ _ _ _ _ _ _ _ _ _ _ _ _ _ _ _ _ _ _ _ _ _ _ _ _ _ _ _ _ _ _ _ _ _ _ _ _ _ _ _ _ _ _ _ _ _ _ _ _ _ _ _ _ _ _ _
end Go.Proofs.YtbdpghmpdghnbaaDoor
