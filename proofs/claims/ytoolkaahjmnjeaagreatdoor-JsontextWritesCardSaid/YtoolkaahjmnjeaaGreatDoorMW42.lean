/- The library's functions that this seat's program holds are laid at its numbers, in plain words. Conditions: none. -/
import Derived.Test.YtoolkaahjmnjeaaGreatDoorProg
import Derived.Shelf.Lays
import Derived.Shelf.LaysM
import Derived.Shelf.LaysC
import Derived.KernelRfl
import Derived.Test.YtoolkaahjmnjeaaGreatDoorMW41
import Derived.Test.YtoolkaahjmnjeaaGreatDoorMW02
import Derived.Test.YtoolkaahjmnjeaaGreatDoorMW04
import Derived.Shelf.Strconv.AtoiAll
import Derived.Lib.AtoiErrMem
import Derived.Deep.DeepCutAuto
import Derived.Deep.CutBlock
namespace Go.Proofs
open Go.Shelf

def Tryz.laysAtoi_ren : Go.Shelf.Ren := ⟨fun | 129 => 219 | 171 => 131 | 172 => 49 | 205 => 178 | 243 => 170 | 244 => 100 | 245 => 101 | 246 => 186 | 247 => 150 | 279 => 151 | 280 => 152 | 281 => 153 | 282 => 154 | 283 => 202 | 284 => 203 | 285 => 204 | 286 => 205 | 287 => 177 | 316 => 169 | 317 => 218 | 318 => 220 | 319 => 221 | 320 => 222 | 321 => 193 | 322 => 194 | 337 => 228 | 338 => 229 | n => n, fun | 37 => 81 | 46 => 200 | 51 => 175 | 53 => 210 | 75 => 85 | 76 => 86 | 80 => 238 | 85 => 181 | 127 => 223 | 143 => 233 | 145 => 235 | 167 => 180 | 168 => 183 | 171 => 241 | 173 => 244 | 175 => 211 | 210 => 214 | 212 => 257 | 213 => 258 | 232 => 266 | 233 => 267 | n => n, fun | 15 => 2 | 16 => 3 | 17 => 4 | 18 => 6 | 19 => 7 | n => n⟩
theorem Tryz.laysAtoi : LaysC.n172 Tryz.prog Tryz.laysAtoi_ren := {
  mixed := by kernel_rfl,
  f129 := Tryz.func219.trans (congrArg some (by kernel_rfl)),
  f171 := Tryz.func131.trans (congrArg some (by kernel_rfl)),
  f172 := Tryz.func49.trans (congrArg some (by kernel_rfl)),
  f205 := Tryz.func178.trans (congrArg some (by kernel_rfl)),
  f243 := Tryz.func170.trans (congrArg some (by kernel_rfl)),
  f244 := Tryz.func100.trans (congrArg some (by kernel_rfl)),
  f245 := Tryz.func101.trans (congrArg some (by kernel_rfl)),
  f246 := Tryz.func186.trans (congrArg some (by kernel_rfl)),
  f247 := Tryz.func150.trans (congrArg some (by kernel_rfl)),
  f279 := Tryz.func151.trans (congrArg some (by kernel_rfl)),
  f280 := Tryz.func152.trans (congrArg some (by kernel_rfl)),
  f281 := Tryz.func153.trans (congrArg some (by kernel_rfl)),
  f282 := Tryz.func154.trans (congrArg some (by kernel_rfl)),
  f283 := Tryz.func202.trans (congrArg some (by kernel_rfl)),
  f284 := Tryz.func203.trans (congrArg some (by kernel_rfl)),
  f285 := Tryz.func204.trans (congrArg some (by kernel_rfl)),
  f286 := Tryz.func205.trans (congrArg some (by kernel_rfl)),
  f287 := Tryz.func177.trans (congrArg some (by kernel_rfl)),
  f316 := Tryz.func169.trans (congrArg some (by kernel_rfl)),
  f317 := Tryz.func218.trans (congrArg some (by kernel_rfl)),
  f318 := Tryz.func220.trans (congrArg some (by kernel_rfl)),
  f319 := Tryz.func221.trans (congrArg some (by kernel_rfl)),
  f320 := Tryz.func222.trans (congrArg some (by kernel_rfl)),
  f321 := Tryz.func193.trans (congrArg some (by kernel_rfl)),
  f322 := Tryz.func194.trans (congrArg some (by kernel_rfl)),
  f337 := Tryz.func228.trans (congrArg some (by kernel_rfl)),
  f338 := Tryz.func229.trans (congrArg some (by kernel_rfl)),
  t0 := Tryz.underlying0,
  a0 := Tryz.isAgg0,
  z0 := Tryz.sizeOf0,
  v0 := Tryz.zeroValue0,
  t2 := Tryz.underlying2,
  a2 := Tryz.isAgg2,
  z2 := Tryz.sizeOf2,
  v2 := Tryz.zeroValue2,
  t3 := Tryz.underlying3,
  a3 := Tryz.isAgg3,
  z3 := Tryz.sizeOf3,
  v3 := Tryz.zeroValue3,
  t4 := Tryz.underlying4,
  a4 := Tryz.isAgg4,
  z4 := Tryz.sizeOf4,
  v4 := Tryz.zeroValue4,
  t5 := Tryz.underlying5,
  a5 := Tryz.isAgg5,
  z5 := Tryz.sizeOf5,
  v5 := Tryz.zeroValue5,
  t9 := Tryz.underlying9,
  a9 := Tryz.isAgg9,
  z9 := Tryz.sizeOf9,
  v9 := Tryz.zeroValue9,
  t20 := Tryz.underlying20,
  a20 := Tryz.isAgg20,
  z20 := Tryz.sizeOf20,
  v20 := Tryz.zeroValue20,
  t21 := Tryz.underlying21,
  a21 := Tryz.isAgg21,
  z21 := Tryz.sizeOf21,
  v21 := Tryz.zeroValue21,
  t37 := Tryz.underlying81,
  a37 := Tryz.isAgg81,
  z37 := Tryz.sizeOf81,
  v37 := Tryz.zeroValue81,
  t46 := Tryz.underlying200,
  a46 := Tryz.isAgg200,
  z46 := Tryz.sizeOf200,
  v46 := Tryz.zeroValue200,
  t51 := Tryz.underlying175,
  a51 := Tryz.isAgg175,
  z51 := Tryz.sizeOf175,
  v51 := Tryz.zeroValue175,
  t53 := Tryz.underlying210,
  a53 := Tryz.isAgg210,
  z53 := Tryz.sizeOf210,
  v53 := Tryz.zeroValue210,
  t75 := Tryz.underlying85,
  a75 := Tryz.isAgg85,
  z75 := Tryz.sizeOf85,
  v75 := Tryz.zeroValue85,
  t76 := Tryz.underlying86,
  a76 := Tryz.isAgg86,
  z76 := Tryz.sizeOf86,
  v76 := Tryz.zeroValue86,
  t85 := Tryz.underlying181,
  a85 := Tryz.isAgg181,
  z85 := Tryz.sizeOf181,
  v85 := Tryz.zeroValue181,
  t127 := Tryz.underlying223,
  a127 := Tryz.isAgg223,
  z127 := Tryz.sizeOf223,
  v127 := Tryz.zeroValue223,
  t143 := Tryz.underlying233,
  a143 := Tryz.isAgg233,
  z143 := Tryz.sizeOf233,
  v143 := Tryz.zeroValue233,
  t145 := Tryz.underlying235,
  a145 := Tryz.isAgg235,
  z145 := Tryz.sizeOf235,
  v145 := Tryz.zeroValue235,
  t167 := Tryz.underlying180,
  a167 := Tryz.isAgg180,
  z167 := Tryz.sizeOf180,
  v167 := Tryz.zeroValue180,
  t168 := Tryz.underlying183,
  a168 := Tryz.isAgg183,
  z168 := Tryz.sizeOf183,
  v168 := Tryz.zeroValue183,
  t171 := Tryz.underlying241,
  a171 := Tryz.isAgg241,
  z171 := Tryz.sizeOf241,
  v171 := Tryz.zeroValue241,
  t173 := Tryz.underlying244,
  a173 := Tryz.isAgg244,
  z173 := Tryz.sizeOf244,
  v173 := Tryz.zeroValue244,
  t175 := Tryz.underlying211,
  a175 := Tryz.isAgg211,
  z175 := Tryz.sizeOf211,
  v175 := Tryz.zeroValue211,
  t210 := Tryz.underlying214,
  a210 := Tryz.isAgg214,
  z210 := Tryz.sizeOf214,
  v210 := Tryz.zeroValue214,
  t212 := Tryz.underlying257,
  a212 := Tryz.isAgg257,
  z212 := Tryz.sizeOf257,
  v212 := Tryz.zeroValue257,
  t213 := Tryz.underlying258,
  a213 := Tryz.isAgg258,
  z213 := Tryz.sizeOf258,
  t232 := Tryz.underlying266,
  a232 := Tryz.isAgg266,
  z232 := Tryz.sizeOf266,
  v232 := Tryz.zeroValue266,
  t233 := Tryz.underlying267,
  a233 := Tryz.isAgg267,
  z233 := Tryz.sizeOf267,
  v233 := Tryz.zeroValue267,
  g15 := by kernel_rfl,
  g16 := by kernel_rfl,
  g17 := by kernel_rfl,
  g18 := by kernel_rfl,
  g19 := by kernel_rfl,
  t80 := Tryz.underlying238,
  a80 := Tryz.isAgg238,
  z80 := Tryz.sizeOf238,
  v80 := Tryz.zeroValue238,
  i0 := by kernel_rfl,
  i2 := by kernel_rfl,
  i3 := by kernel_rfl,
  i4 := by kernel_rfl,
  i5 := by kernel_rfl,
  i9 := by kernel_rfl,
  i20 := by kernel_rfl,
  i21 := by kernel_rfl,
  i37 := by kernel_rfl,
  i46 := by kernel_rfl,
  i51 := by kernel_rfl,
  i53 := by kernel_rfl,
  i75 := by kernel_rfl,
  i76 := by kernel_rfl,
  i80 := by kernel_rfl,
  i85 := by kernel_rfl,
  i127 := by kernel_rfl,
  i143 := by kernel_rfl,
  i145 := by kernel_rfl,
  i167 := by kernel_rfl,
  i168 := by kernel_rfl,
  i171 := by kernel_rfl,
  i173 := by kernel_rfl,
  i175 := by kernel_rfl,
  i210 := by kernel_rfl,
  i212 := by kernel_rfl,
  i232 := by kernel_rfl,
  i233 := by kernel_rfl,
  m15 := by kernel_rfl,
  m16 := by kernel_rfl,
  m17 := by kernel_rfl,
  m18 := by kernel_rfl,
  m19 := by kernel_rfl,
  c0 := by kernel_rfl,
  c2 := by kernel_rfl,
  c3 := by kernel_rfl,
  c4 := by kernel_rfl,
  c5 := by kernel_rfl,
  c9 := by kernel_rfl,
  c20 := by kernel_rfl,
  c21 := by kernel_rfl,
  c37 := by kernel_rfl,
  c46 := by kernel_rfl,
  c51 := by kernel_rfl,
  c53 := by kernel_rfl,
  c75 := by kernel_rfl,
  c76 := by kernel_rfl,
  c80 := by kernel_rfl,
  c85 := by kernel_rfl,
  c127 := by kernel_rfl,
  c143 := by kernel_rfl,
  c145 := by kernel_rfl,
  c167 := by kernel_rfl,
  c168 := by kernel_rfl,
  c171 := by kernel_rfl,
  c173 := by kernel_rfl,
  c175 := by kernel_rfl,
  c210 := by kernel_rfl,
  c212 := by kernel_rfl,
  c213 := by kernel_rfl,
  c232 := by kernel_rfl,
  c233 := by kernel_rfl }
end Go.Proofs

namespace Go.Proofs
open Go Go.RowKit Go.Shelf Go.Lib

namespace YtoolkaahjmnjeaaGreatDoor
def IntR (r : Int × Bool) (w : World) (e : Ending) (w' : World) : Prop := e = .returned (.tuple #[.int .i64 r.1, .bool r.2]) ∧ Below w.heap.size w w'
set_option maxHeartbeats 1000000 in
set_option maxRecDepth 100000 in
theorem int_kind (k : Nat) (x : ByteArray) (va ua : Value) (w : World) (hk : ¬ k = 3) : Calls Tryz.prog 12 #[.agg #[.int .u8 k, .string x, va, ua]] w (IntR (0, false) w) := by
  have t1 : ((k : Int) != 3) = true := by simp; omega
  have hB := (Below.refl w.heap.size w).alloc (Nat.le_refl _) (.cells #[.int .u8 k, .string x, va, ua] 25)
  clear hk
  go_enter Tryz.func12, Tryz.ntmps12
  go_wp2_with fail
  go_ret2
  exact ⟨rfl, hB⟩
set_option maxHeartbeats 1000000 in
set_option maxRecDepth 100000 in
theorem int_text (x : ByteArray) (va ua : Value) (w : World) (hx : x.size ≤ 140737488355328) (h : bothS (ciS x) = false) : Calls Tryz.prog 12 #[.agg #[.int .u8 3, .string x, va, ua]] w (IntR (0, false) w) := by
  have hB := Lib.hid ((Below.refl w.heap.size w).alloc (Nat.le_refl _) (.cells #[.int .u8 3, .string x, va, ua] 25))
  have hI := fun W => isInteger_any x W hx
  rw [h] at hI
  unfold BoolB at hI
  clear h
  go_enter Tryz.func12, Tryz.ntmps12
  go_wp2_with fail
  refine (hI _).mono ?_
  rintro e w1 ⟨rfl, hB1⟩
  have H1 := Lib.hid (hB.out.trans (hB1.mono hB.out.size))
  clear hB1 hI
  go_wp2_with fail
  go_ret2
  exact ⟨rfl, H1.out⟩
set_option maxHeartbeats 1000000 in
set_option maxRecDepth 100000 in
theorem int_some (x : ByteArray) (va ua : Value) (v : Int) (w : World) (hx : x.size ≤ 140737488355328) (h : bothS (ciS x) = true) (hv : Lib.atoiAll x.data.toList = .ok v) : Calls Tryz.prog 12 #[.agg #[.int .u8 3, .string x, va, ua]] w (IntR (v, true) w) := by
  have hB := Lib.hid ((Below.refl w.heap.size w).alloc (Nat.le_refl _) (.cells #[.int .u8 3, .string x, va, ua] 25))
  have hbk : Blk4 (w.alloc (.cells #[.int .u8 3, .string x, va, ua] 25)) w.heap.size 25 (.int .u8 3) (.string x) va ua := heap_alloc_new _ _
  have HBK := Lib.hid hbk
  have hI := fun W => isInteger_any x W hx
  rw [h] at hI
  unfold BoolB at hI
  have hA := fun W => Any.strconv_Atoi_ok Tryz.laysAtoi x (by omega) v hv W
  have HA := Lib.hid hA
  clear h hv hbk hA
  go_enter Tryz.func12, Tryz.ntmps12
  go_wp2_with fail
  refine (hI _).mono ?_
  rintro e w1 ⟨rfl, hB1⟩
  have H1 := Lib.hid (hB.out.trans (hB1.mono hB.out.size))
  have b1 := HBK.out.same (hB1.block _ HBK.out.lt)
  obtain ⟨d0, d1, d2, d3⟩ := b1.box
  clear hB1 hI b1
  go_wp2_with fail
  refine (HA.out _).mono ?_
  rintro e w2 ⟨rfl, hw2⟩
  have hB2 : Below w1.heap.size w1 w2 := by
    rcases hw2 with rfl | ⟨t, rfl⟩
    · exact Below.refl _ _
    · exact Lib.bytesWorld_below _ _ _
  have H2 := Lib.hid (H1.out.trans (hB2.mono H1.out.size))
  clear hB2 hw2 d0 d1 d2 d3
  go_wp2_with fail
  go_ret2
  exact ⟨rfl, H2.out⟩
end YtoolkaahjmnjeaaGreatDoor
end Go.Proofs

namespace Go.Proofs.YtoolkaahjmnjeaaGreatDoor
open Go Go.RowKit Go.Lib

def NatIs (n : Nat) (w : World) (e : Ending) (w' : World) : Prop := e = .returned (.int .i64 (n : Int)) ∧ w' = w
set_option maxHeartbeats 1000000 in
set_option maxRecDepth 100000 in
theorem digits04_any (s : ByteArray) (p : Nat) (w : World) (hs : s.size ≤ 1000000000000) (hp : p ≤ s.size) : Calls Tryz.prog 102 #[.string s, .int .i64 p] w (NatIs (J.dg s p - p) w) := by
  have HP := Lib.hid hp
  clear hp
  have hp2 : p ≤ 1000000000000 := by have := HP.out; omega
  have hp3 := HP.out
  go_enter Tryz.func102, Tryz.ntmps102
  go_wp2_with fail
  go_loopw [5] (fun y wr => ∃ n : Nat, y = .int .i64 n ∧ p + n ≤ s.size ∧ Hid (J.dg s (p + n) = J.dg s p ∧ wr = w)) (fun y _ => s.size - (RowKit.intOf y).toNat)
  case atStart => exact ⟨0, rfl, hp3, Lib.hid ⟨rfl, rfl⟩⟩
  case round =>
    obtain ⟨n, rfl, hn, HR⟩ := hrel
    by_cases h1 : p + n < s.size
    · have t1 : decide ((p : Int) + (n : Int) < (s.size : Int)) = true := decide_eq_true (by omega)
      have hx := J.at_byte h1
      by_cases h2 : J.dgt (s.get! (p + n)).toNat = true
      · have HD := Lib.hid ((J.dg_step h1 h2).symm.trans HR.out.1)
        have h3 := of_decide_eq_true h2
        have h4 := h3.1
        have h5 := h3.2
        have HN := Lib.hid h1
        have HW := Lib.hid HR.out.2
        generalize (s.get! (p + n)).toNat = c at *
        have t2 : decide ((48 : Int) ≤ (c : Int)) = true := decide_eq_true (by omega)
        have t3 : decide ((c : Int) ≤ 57) = true := decide_eq_true (by omega)
        clear HR h2 h3
        go_wp2_with fail
        go_roundw
        case rel => exact ⟨n + 1, by go_num, by have := HN.out; omega, Lib.hid ⟨HD.out, HW.out⟩⟩
        case measure => have := HN.out; simp [RowKit.intOf]; omega
      · have HD := Lib.hid ((J.dg_stop (fun h => h2 h.2)).symm.trans HR.out.1)
        have HW := Lib.hid HR.out.2
        have h3 : ¬ (48 ≤ (s.get! (p + n)).toNat ∧ (s.get! (p + n)).toNat ≤ 57) := fun h => h2 (decide_eq_true h)
        generalize (s.get! (p + n)).toNat = c at *
        clear HR h2
        by_cases h4 : 48 ≤ c
        · have t2 : decide ((48 : Int) ≤ (c : Int)) = true := decide_eq_true (by omega)
          have t3 : decide ((c : Int) ≤ 57) = false := decide_eq_false (by omega)
          go_wp2_with fail
          go_ret
          exact ⟨by rw [← HD.out, Nat.add_sub_cancel_left]; rfl, HW.out⟩
        · have t2 : decide ((48 : Int) ≤ (c : Int)) = false := decide_eq_false (by omega)
          go_wp2_with fail
          go_ret
          exact ⟨by rw [← HD.out, Nat.add_sub_cancel_left]; rfl, HW.out⟩
    · have t1 : decide ((p : Int) + (n : Int) < (s.size : Int)) = false := decide_eq_false (by omega)
      have HD := Lib.hid ((J.dg_stop (fun h => h1 h.1)).symm.trans HR.out.1)
      have HW := Lib.hid HR.out.2
      clear HR
      go_wp2_with fail
      go_ret
      exact ⟨by rw [← HD.out, Nat.add_sub_cancel_left]; rfl, HW.out⟩
end Go.Proofs.YtoolkaahjmnjeaaGreatDoor
