/- How great a value is that was read; what is read, written and read again. Conditions: none. -/
import Derived.Test.YtgcdfkoobbijeaaGreatDoorMB39
import Derived.Test.YtgcdfkoobbijeaaGreatDoorMB46
import Derived.Test.YtgcdfkoobbijeaaGreatDoorProg
import Derived.Shelf.Lays
import Derived.Shelf.LaysM
import Derived.Shelf.LaysC
import Derived.KernelRfl
import Derived.Test.YtgcdfkoobbijeaaGreatDoorMB03
import Derived.Test.YtgcdfkoobbijeaaGreatDoorMB07
import Derived.Shelf.Strconv.AtoiAll
import Derived.Lib.AtoiErrMem
namespace Go.Proofs.YtgcdfkoobbijeaaGreatDoor
open Go Go.RowKit Go.Lib

theorem rb_pos (b : Nat) : 1 ≤ (rb b).length := by
  unfold rb
  repeat' split
  all_goals simp
theorem rbs_ge : ∀ (l : List UInt8), l.length ≤ (rbs l).length
  | [] => Nat.zero_le _
  | b :: l => by
    have h1 := rb_pos b.toNat
    have h2 := rbs_ge l
    unfold rbs at h2 ⊢
    rw [List.map_cons, List.flatten_cons, List.length_append, List.length_cons]
    omega
theorem qL_ge {x : ByteArray} (h : U.valid x = true) : x.size + 2 ≤ (qL x).length := by
  rw [qL_valid h]
  have h1 := rbs_ge x.data.toList
  have h2 := Lib.size_eq x
  simp only [List.length_append, List.length_singleton]
  omega
theorem first_ge (t : V.T) (d : Nat) : wl t d ≤ (wrT t d true).length + 1 := by
  cases t with
  | nil => exact Nat.zero_le _
  | cons nm k x l f tl =>
    unfold wl
    rw [wrT_cons, wrT_cons, ahead_false]
    simp only [List.length_append, List.length_cons]
    omega
theorem sizes_of : ∀ (t : V.T) (d : Nat) (seen : List ByteArray) (dep : Nat), d = 0 ∨ d = 1 → mayT t d seen dep = true → Nn t d → t.size ≤ wl t d ∧ szT t ≤ wl t d
  | .nil, _, _, _, _, _, _ => ⟨Nat.zero_le _, Nat.zero_le _⟩
  | .cons nm k x l f tl, d, seen, dep, hd, h, hn => by
    rw [mayT_cons, Bool.and_eq_true, Bool.and_eq_true] at h
    obtain ⟨⟨h1, h2⟩, h3⟩ := h
    obtain ⟨i1, i2⟩ := sizes_of tl d _ dep hd h3 hn.2.2.2
    have ha : 1 + nm.size ≤ (ahead d false nm).length := by
      rcases hd with rfl | rfl
      · have e1 : nm.size = 0 := by rw [hn.1 rfl]; rfl
        have e2 : (ahead 0 false nm).length = 1 := by simp [ahead]
        omega
      · have := qL_ge ((named h1 rfl).2)
        have e : (ahead 1 false nm).length = (qL nm).length + 2 := by simp [ahead]
        omega
    have hv : l.size + f.size ≤ (wrV k x l f).length ∧ x.size + szT l + szT f ≤ (wrV k x l f).length := by
      by_cases h5 : k = 5
      · subst h5
        obtain ⟨rfl, _, m1, rfl⟩ := mayV_list h2
        obtain ⟨j1, j2⟩ := sizes_of l 0 _ _ (.inl rfl) m1 hn.2.1
        have j3 := first_ge l 0
        have e : (wrV 5 ⟨#[]⟩ l .nil).length = (wrT l 0 true).length + 2 := by
          unfold wrV
          rw [if_pos rfl]
          simp only [List.length_append, List.length_singleton]
          omega
        have e1 : V.T.size .nil = 0 := rfl
        have e2 : szT .nil = 0 := rfl
        have e3 : (⟨#[]⟩ : ByteArray).size = 0 := rfl
        omega
      by_cases h6 : k = 6
      · subst h6
        obtain ⟨rfl, _, m1, rfl⟩ := mayV_obj h2
        obtain ⟨j1, j2⟩ := sizes_of f 1 _ _ (.inr rfl) m1 hn.2.2.1
        have j3 := first_ge f 1
        have e : (wrV 6 ⟨#[]⟩ .nil f).length = (wrT f 1 true).length + 2 := by
          unfold wrV
          rw [if_neg (by decide), if_pos rfl]
          simp only [List.length_append, List.length_singleton]
          omega
        have e1 : V.T.size .nil = 0 := rfl
        have e2 : szT .nil = 0 := rfl
        have e3 : (⟨#[]⟩ : ByteArray).size = 0 := rfl
        omega
      · obtain ⟨hk, hx, rfl, rfl⟩ := mayV_leaf h2 h5 h6
        have e1 : V.T.size .nil = 0 := rfl
        have e2 : szT .nil = 0 := rfl
        have e : wrV k x .nil .nil = lf k x := by unfold wrV; rw [if_neg h5, if_neg h6]
        rw [e, e1, e2]
        refine ⟨by omega, ?_⟩
        have hkk : k = 0 ∨ k = 1 ∨ k = 2 ∨ k = 3 ∨ k = 4 := by omega
        have hz := Lib.size_eq x
        rcases hkk with rfl | rfl | rfl | rfl | rfl
        · have : x.size = 0 := of_decide_eq_true (show decide (x.size = 0) = true from hx); omega
        · have : x.size = 0 := of_decide_eq_true (show decide (x.size = 0) = true from hx); omega
        · have : x.size = 0 := of_decide_eq_true (show decide (x.size = 0) = true from hx); omega
        · have : lf 3 x = x.data.toList := rfl
          rw [this]; omega
        · have : lf 4 x = qL x := rfl
          have h9 := qL_ge (show U.valid x = true from hx)
          rw [this]; omega
    rw [wl_cons]
    refine ⟨?_, ?_⟩
    · show l.size + f.size + tl.size + 1 ≤ _; omega
    · show nm.size + x.size + szT l + szT f + szT tl ≤ _; omega
theorem sizesV {k : Nat} {x : ByteArray} {l f : V.T} {dep : Nat} (h : mayV k x l f dep = true) (n1 : Nn l 0) (n2 : Nn f 1) : l.size + f.size ≤ (wrV k x l f).length ∧ x.size + szT l + szT f ≤ (wrV k x l f).length + 1 := by
  have := sizes_of (.cons ⟨#[]⟩ k x l f .nil) 0 [] dep (.inl rfl) (by rw [mayT_cons, h]; rfl) ⟨fun _ => rfl, n1, n2, trivial⟩
  rw [wl_cons] at this
  have e : (ahead 0 false ⟨#[]⟩).length = 1 := by simp [ahead]
  have e1 : wl .nil 0 = 0 := rfl
  obtain ⟨a1, a2⟩ := this
  have a1 : l.size + f.size + V.T.size .nil + 1 ≤ _ := a1
  have a2 : (⟨#[]⟩ : ByteArray).size + x.size + szT l + szT f + szT .nil ≤ _ := a2
  have e2 : V.T.size .nil = 0 := rfl
  have e3 : szT .nil = 0 := rfl
  have e4 : (⟨#[]⟩ : ByteArray).size = 0 := rfl
  omega
/-- a value that was read is such as is gone through -/
theorem gv_read {w : World} {A : Nat → Prop} {k : Nat} {x : ByteArray} {v u : Value} {l f : V.T} (hl : HS w A 0 v l) (hf : HS w A 1 u f) (hm : mayV k x l f 0 = true) (n1 : Nn l 0) (n2 : Nn f 1) (hz : (wrV k x l f).length ≤ 1000000) : Gv w A k x v u l f := by
  obtain ⟨h1, h2⟩ := sizesV hm n1 n2
  have h3 := wgt_le l
  have h4 := wgt_le f
  have h5 := mayV_six hm
  exact ⟨hl, hf, by omega, by omega, sm_of l (by omega), sm_of f (by omega), by omega⟩
theorem prn_of {k : Nat} {x : ByteArray} {l f : V.T} (h : mayV k x l f 0 = true) (hz : (wrV k x l f).length ≤ 262144) : prn k x l f = (⟨(wrV k x l f).toArray⟩, 0) := by
  unfold prn
  rw [if_pos h, if_neg (by omega)]
/-- what is read may be; written it is read as the same -/
theorem read_back {s : ByteArray} (hs : s.size ≤ 20000) (h : (prsAll s).2.2 = 0) : Mv 0 (prsAll s).1 ∧ (wrV (prsAll s).1.1 (prsAll s).1.2.1 (prsAll s).1.2.2.1 (prsAll s).1.2.2.2).length ≤ 120000 ∧
    prn (prsAll s).1.1 (prsAll s).1.2.1 (prsAll s).1.2.2.1 (prsAll s).1.2.2.2 = (⟨(wrV (prsAll s).1.1 (prsAll s).1.2.1 (prsAll s).1.2.2.1 (prsAll s).1.2.2.2).toArray⟩, 0) ∧
    prsAll ⟨(wrV (prsAll s).1.1 (prsAll s).1.2.1 (prsAll s).1.2.2.1 (prsAll s).1.2.2.2).toArray⟩ = ((prsAll s).1, 0, 0) := by
  obtain ⟨h1, h2⟩ := prs_may h
  refine ⟨h1, by omega, prn_of h1.1 (by omega), ?_⟩
  exact back_whole h1.1 h1.2.1 h1.2.2 (by omega)
end Go.Proofs.YtgcdfkoobbijeaaGreatDoor

namespace Go.Proofs
open Go.Shelf

def Tryz.laysAtoi_ren : Go.Shelf.Ren := ⟨fun | 129 => 155 | 171 => 49 | 172 => 41 | 205 => 127 | 243 => 76 | 244 => 69 | 245 => 70 | 246 => 116 | 247 => 108 | 279 => 109 | 280 => 110 | 281 => 111 | 282 => 112 | 283 => 135 | 284 => 136 | 285 => 137 | 286 => 138 | 287 => 126 | 316 => 77 | 317 => 154 | 318 => 156 | 319 => 157 | 320 => 158 | 321 => 144 | 322 => 145 | 337 => 166 | 338 => 167 | n => n, fun | 37 => 59 | 46 => 113 | 51 => 106 | 53 => 128 | 75 => 62 | 76 => 63 | 80 => 147 | 85 => 116 | 127 => 126 | 143 => 163 | 145 => 165 | 167 => 115 | 168 => 118 | 171 => 150 | 173 => 153 | 175 => 140 | 210 => 143 | 212 => 174 | 213 => 175 | 232 => 185 | 233 => 186 | n => n, fun | 15 => 2 | 16 => 3 | 17 => 4 | 18 => 6 | 19 => 7 | n => n⟩
theorem Tryz.laysAtoi : LaysC.n172 Tryz.prog Tryz.laysAtoi_ren := {
  mixed := by kernel_rfl,
  f129 := Tryz.func155.trans (congrArg some (by kernel_rfl)),
  f171 := Tryz.func49.trans (congrArg some (by kernel_rfl)),
  f172 := Tryz.func41.trans (congrArg some (by kernel_rfl)),
  f205 := Tryz.func127.trans (congrArg some (by kernel_rfl)),
  f243 := Tryz.func76.trans (congrArg some (by kernel_rfl)),
  f244 := Tryz.func69.trans (congrArg some (by kernel_rfl)),
  f245 := Tryz.func70.trans (congrArg some (by kernel_rfl)),
  f246 := Tryz.func116.trans (congrArg some (by kernel_rfl)),
  f247 := Tryz.func108.trans (congrArg some (by kernel_rfl)),
  f279 := Tryz.func109.trans (congrArg some (by kernel_rfl)),
  f280 := Tryz.func110.trans (congrArg some (by kernel_rfl)),
  f281 := Tryz.func111.trans (congrArg some (by kernel_rfl)),
  f282 := Tryz.func112.trans (congrArg some (by kernel_rfl)),
  f283 := Tryz.func135.trans (congrArg some (by kernel_rfl)),
  f284 := Tryz.func136.trans (congrArg some (by kernel_rfl)),
  f285 := Tryz.func137.trans (congrArg some (by kernel_rfl)),
  f286 := Tryz.func138.trans (congrArg some (by kernel_rfl)),
  f287 := Tryz.func126.trans (congrArg some (by kernel_rfl)),
  f316 := Tryz.func77.trans (congrArg some (by kernel_rfl)),
  f317 := Tryz.func154.trans (congrArg some (by kernel_rfl)),
  f318 := Tryz.func156.trans (congrArg some (by kernel_rfl)),
  f319 := Tryz.func157.trans (congrArg some (by kernel_rfl)),
  f320 := Tryz.func158.trans (congrArg some (by kernel_rfl)),
  f321 := Tryz.func144.trans (congrArg some (by kernel_rfl)),
  f322 := Tryz.func145.trans (congrArg some (by kernel_rfl)),
  f337 := Tryz.func166.trans (congrArg some (by kernel_rfl)),
  f338 := Tryz.func167.trans (congrArg some (by kernel_rfl)),
  t0 := Tryz.underlying0,
  a0 := Tryz.isAgg0,
  z0 := Tryz.sizeOf0,
  v0 := Tryz.zeroValue0,
  t2 := Tryz.underlying2,
  a2 := Tryz.isAgg2,
  z2 := Tryz.sizeOf2,
  v2 := Tryz.zeroValue2,
  t3 := Tryz.underlying3,
  a3 := Tryz.isAgg3,
  z3 := Tryz.sizeOf3,
  v3 := Tryz.zeroValue3,
  t4 := Tryz.underlying4,
  a4 := Tryz.isAgg4,
  z4 := Tryz.sizeOf4,
  v4 := Tryz.zeroValue4,
  t5 := Tryz.underlying5,
  a5 := Tryz.isAgg5,
  z5 := Tryz.sizeOf5,
  v5 := Tryz.zeroValue5,
  t9 := Tryz.underlying9,
  a9 := Tryz.isAgg9,
  z9 := Tryz.sizeOf9,
  v9 := Tryz.zeroValue9,
  t20 := Tryz.underlying20,
  a20 := Tryz.isAgg20,
  z20 := Tryz.sizeOf20,
  v20 := Tryz.zeroValue20,
  t21 := Tryz.underlying21,
  a21 := Tryz.isAgg21,
  z21 := Tryz.sizeOf21,
  v21 := Tryz.zeroValue21,
  t37 := Tryz.underlying59,
  a37 := Tryz.isAgg59,
  z37 := Tryz.sizeOf59,
  v37 := Tryz.zeroValue59,
  t46 := Tryz.underlying113,
  a46 := Tryz.isAgg113,
  z46 := Tryz.sizeOf113,
  v46 := Tryz.zeroValue113,
  t51 := Tryz.underlying106,
  a51 := Tryz.isAgg106,
  z51 := Tryz.sizeOf106,
  v51 := Tryz.zeroValue106,
  t53 := Tryz.underlying128,
  a53 := Tryz.isAgg128,
  z53 := Tryz.sizeOf128,
  v53 := Tryz.zeroValue128,
  t75 := Tryz.underlying62,
  a75 := Tryz.isAgg62,
  z75 := Tryz.sizeOf62,
  v75 := Tryz.zeroValue62,
  t76 := Tryz.underlying63,
  a76 := Tryz.isAgg63,
  z76 := Tryz.sizeOf63,
  v76 := Tryz.zeroValue63,
  t85 := Tryz.underlying116,
  a85 := Tryz.isAgg116,
  z85 := Tryz.sizeOf116,
  v85 := Tryz.zeroValue116,
  t127 := Tryz.underlying126,
  a127 := Tryz.isAgg126,
  z127 := Tryz.sizeOf126,
  v127 := Tryz.zeroValue126,
  t143 := Tryz.underlying163,
  a143 := Tryz.isAgg163,
  z143 := Tryz.sizeOf163,
  v143 := Tryz.zeroValue163,
  t145 := Tryz.underlying165,
  a145 := Tryz.isAgg165,
  z145 := Tryz.sizeOf165,
  v145 := Tryz.zeroValue165,
  t167 := Tryz.underlying115,
  a167 := Tryz.isAgg115,
  z167 := Tryz.sizeOf115,
  v167 := Tryz.zeroValue115,
  t168 := Tryz.underlying118,
  a168 := Tryz.isAgg118,
  z168 := Tryz.sizeOf118,
  v168 := Tryz.zeroValue118,
  t171 := Tryz.underlying150,
  a171 := Tryz.isAgg150,
  z171 := Tryz.sizeOf150,
  v171 := Tryz.zeroValue150,
  t173 := Tryz.underlying153,
  a173 := Tryz.isAgg153,
  z173 := Tryz.sizeOf153,
  v173 := Tryz.zeroValue153,
  t175 := Tryz.underlying140,
  a175 := Tryz.isAgg140,
  z175 := Tryz.sizeOf140,
  v175 := Tryz.zeroValue140,
  t210 := Tryz.underlying143,
  a210 := Tryz.isAgg143,
  z210 := Tryz.sizeOf143,
  v210 := Tryz.zeroValue143,
  t212 := Tryz.underlying174,
  a212 := Tryz.isAgg174,
  z212 := Tryz.sizeOf174,
  v212 := Tryz.zeroValue174,
  t213 := Tryz.underlying175,
  a213 := Tryz.isAgg175,
  z213 := Tryz.sizeOf175,
  t232 := Tryz.underlying185,
  a232 := Tryz.isAgg185,
  z232 := Tryz.sizeOf185,
  v232 := Tryz.zeroValue185,
  t233 := Tryz.underlying186,
  a233 := Tryz.isAgg186,
  z233 := Tryz.sizeOf186,
  v233 := Tryz.zeroValue186,
  g15 := by kernel_rfl,
  g16 := by kernel_rfl,
  g17 := by kernel_rfl,
  g18 := by kernel_rfl,
  g19 := by kernel_rfl,
  t80 := Tryz.underlying147,
  a80 := Tryz.isAgg147,
  z80 := Tryz.sizeOf147,
  v80 := Tryz.zeroValue147,
  i0 := by kernel_rfl,
  i2 := by kernel_rfl,
  i3 := by kernel_rfl,
  i4 := by kernel_rfl,
  i5 := by kernel_rfl,
  i9 := by kernel_rfl,
  i20 := by kernel_rfl,
  i21 := by kernel_rfl,
  i37 := by kernel_rfl,
  i46 := by kernel_rfl,
  i51 := by kernel_rfl,
  i53 := by kernel_rfl,
  i75 := by kernel_rfl,
  i76 := by kernel_rfl,
  i80 := by kernel_rfl,
  i85 := by kernel_rfl,
  i127 := by kernel_rfl,
  i143 := by kernel_rfl,
  i145 := by kernel_rfl,
  i167 := by kernel_rfl,
  i168 := by kernel_rfl,
  i171 := by kernel_rfl,
  i173 := by kernel_rfl,
  i175 := by kernel_rfl,
  i210 := by kernel_rfl,
  i212 := by kernel_rfl,
  i232 := by kernel_rfl,
  i233 := by kernel_rfl,
  m15 := by kernel_rfl,
  m16 := by kernel_rfl,
  m17 := by kernel_rfl,
  m18 := by kernel_rfl,
  m19 := by kernel_rfl,
  c0 := by kernel_rfl,
  c2 := by kernel_rfl,
  c3 := by kernel_rfl,
  c4 := by kernel_rfl,
  c5 := by kernel_rfl,
  c9 := by kernel_rfl,
  c20 := by kernel_rfl,
  c21 := by kernel_rfl,
  c37 := by kernel_rfl,
  c46 := by kernel_rfl,
  c51 := by kernel_rfl,
  c53 := by kernel_rfl,
  c75 := by kernel_rfl,
  c76 := by kernel_rfl,
  c80 := by kernel_rfl,
  c85 := by kernel_rfl,
  c127 := by kernel_rfl,
  c143 := by kernel_rfl,
  c145 := by kernel_rfl,
  c167 := by kernel_rfl,
  c168 := by kernel_rfl,
  c171 := by kernel_rfl,
  c173 := by kernel_rfl,
  c175 := by kernel_rfl,
  c210 := by kernel_rfl,
  c212 := by kernel_rfl,
  c213 := by kernel_rfl,
  c232 := by kernel_rfl,
  c233 := by kernel_rfl }
end Go.Proofs

namespace Go.Proofs
open Go Go.RowKit Go.Shelf Go.Lib

namespace YtgcdfkoobbijeaaGreatDoor
def IntR (r : Int × Bool) (w : World) (e : Ending) (w' : World) : Prop := e = .returned (.tuple #[.int .i64 r.1, .bool r.2]) ∧ Below w.heap.size w w'
set_option maxHeartbeats 1000000 in
set_option maxRecDepth 100000 in
theorem int_kind (k : Nat) (x : ByteArray) (va ua : Value) (w : World) (hk : ¬ k = 3) : Calls Tryz.prog 12 #[.agg #[.int .u8 k, .string x, va, ua]] w (IntR (0, false) w) := by
  have t1 : ((k : Int) != 3) = true := by simp; omega
  have hB := (Below.refl w.heap.size w).alloc (Nat.le_refl _) (.cells #[.int .u8 k, .string x, va, ua] 25)
  clear hk
  go_enter Tryz.func12, Tryz.ntmps12
  go_wp2_with fail
  go_ret2
  exact ⟨rfl, hB⟩
set_option maxHeartbeats 1000000 in
set_option maxRecDepth 100000 in
theorem int_text (x : ByteArray) (va ua : Value) (w : World) (hx : x.size ≤ 1000000000000) (h : bothS (ciS x) = false) : Calls Tryz.prog 12 #[.agg #[.int .u8 3, .string x, va, ua]] w (IntR (0, false) w) := by
  have hB := Lib.hid ((Below.refl w.heap.size w).alloc (Nat.le_refl _) (.cells #[.int .u8 3, .string x, va, ua] 25))
  have hI := fun W => isInteger_any x W hx
  rw [h] at hI
  unfold BoolB at hI
  clear h
  go_enter Tryz.func12, Tryz.ntmps12
  go_wp2_with fail
  refine (hI _).mono ?_
  rintro e w1 ⟨rfl, hB1⟩
  have H1 := Lib.hid (hB.out.trans (hB1.mono hB.out.size))
  clear hB1 hI
  go_wp2_with fail
  go_ret2
  exact ⟨rfl, H1.out⟩
set_option maxHeartbeats 1000000 in
set_option maxRecDepth 100000 in
theorem int_some (x : ByteArray) (va ua : Value) (v : Int) (w : World) (hx : x.size ≤ 1000000000000) (h : bothS (ciS x) = true) (hv : Lib.atoiAll x.data.toList = .ok v) : Calls Tryz.prog 12 #[.agg #[.int .u8 3, .string x, va, ua]] w (IntR (v, true) w) := by
  have hB := Lib.hid ((Below.refl w.heap.size w).alloc (Nat.le_refl _) (.cells #[.int .u8 3, .string x, va, ua] 25))
  have hbk : Blk4 (w.alloc (.cells #[.int .u8 3, .string x, va, ua] 25)) w.heap.size 25 (.int .u8 3) (.string x) va ua := heap_alloc_new _ _
  have HBK := Lib.hid hbk
  have hI := fun W => isInteger_any x W hx
  rw [h] at hI
  unfold BoolB at hI
  have hA := fun W => Any.strconv_Atoi_ok Tryz.laysAtoi x (by omega) v hv W
  have HA := Lib.hid hA
  clear h hv hbk hA
  go_enter Tryz.func12, Tryz.ntmps12
  go_wp2_with fail
  refine (hI _).mono ?_
  rintro e w1 ⟨rfl, hB1⟩
  have H1 := Lib.hid (hB.out.trans (hB1.mono hB.out.size))
  have b1 := HBK.out.same (hB1.block _ HBK.out.lt)
  obtain ⟨d0, d1, d2, d3⟩ := b1.box
  clear hB1 hI b1
  go_wp2_with fail
  refine (HA.out _).mono ?_
  rintro e w2 ⟨rfl, hw2⟩
  have hB2 : Below w1.heap.size w1 w2 := by
    rcases hw2 with rfl | ⟨t, rfl⟩
    · exact Below.refl _ _
    · exact Lib.bytesWorld_below _ _ _
  have H2 := Lib.hid (H1.out.trans (hB2.mono H1.out.size))
  clear hB2 hw2 d0 d1 d2 d3
  go_wp2_with fail
  go_ret2
  exact ⟨rfl, H2.out⟩
end YtgcdfkoobbijeaaGreatDoor
end Go.Proofs
