/- The chapter's examples hold: awake of layer 6's statements answers true. Conditions: the library's tables as its text lays them; strconv.ErrRange holds an error. -/
import Derived.Test.YtagafedkfkmkbaaGreatDoorMO33
import Derived.Test.YtagafedkfkmkbaaGreatDoorMO35
import Derived.Test.YtagafedkfkmkbaaGreatDoorMO44
import Derived.Test.YtagafedkfkmkbaaGreatDoorMO16
import Derived.Test.YtagafedkfkmkbaaGreatDoorMO05
import Derived.Test.YtagafedkfkmkbaaGreatDoorMO03
namespace Go.Proofs.YtagafedkfkmkbaaGreatDoor
open Go Go.RowKit Go.Shelf Go.Lib

def rx1 : ByteArray := ⟨#[123, 34, 106, 115, 111, 110, 114, 112, 99, 34, 58, 34, 50, 46, 48, 34, 44, 34, 105, 100, 34, 58, 49, 44, 34, 109, 101, 116, 104, 111, 100, 34, 58, 34, 97, 34, 44, 34, 112, 97, 114, 97, 109, 115, 34, 58, 91, 50, 93, 125]⟩
def rt1 : V.T := .cons ⟨#[106, 115, 111, 110, 114, 112, 99]⟩ 4 ⟨#[50, 46, 48]⟩ .nil .nil (.cons ⟨#[105, 100]⟩ 3 ⟨#[49]⟩ .nil .nil (.cons ⟨#[109, 101, 116, 104, 111, 100]⟩ 4 ⟨#[97]⟩ .nil .nil (.cons ⟨#[112, 97, 114, 97, 109, 115]⟩ 5 ⟨#[]⟩ (.cons ⟨#[]⟩ 3 ⟨#[50]⟩ .nil .nil .nil) .nil .nil)))
theorem rp1 : prsAll rx1 = ((6, ⟨#[]⟩, .nil, rt1), 0, 0) := by kernel_rfl
def rx2 : ByteArray := ⟨#[123, 34, 109, 101, 116, 104, 111, 100, 34, 58, 34, 97, 34, 44, 34, 106, 115, 111, 110, 114, 112, 99, 34, 58, 34, 50, 46, 48, 34, 44, 34, 112, 97, 114, 97, 109, 115, 34, 58, 110, 117, 108, 108, 44, 34, 120, 34, 58, 49, 125]⟩
def rt2 : V.T := .cons ⟨#[109, 101, 116, 104, 111, 100]⟩ 4 ⟨#[97]⟩ .nil .nil (.cons ⟨#[106, 115, 111, 110, 114, 112, 99]⟩ 4 ⟨#[50, 46, 48]⟩ .nil .nil (.cons ⟨#[112, 97, 114, 97, 109, 115]⟩ 0 ⟨#[]⟩ .nil .nil (.cons ⟨#[120]⟩ 3 ⟨#[49]⟩ .nil .nil .nil)))
theorem rp2 : prsAll rx2 = ((6, ⟨#[]⟩, .nil, rt2), 0, 0) := by kernel_rfl
def rx3 : ByteArray := ⟨#[123, 34, 106, 115, 111, 110, 114, 112, 99, 34, 58, 34, 50, 46, 48, 34, 44, 34, 105, 100, 34, 58, 110, 117, 108, 108, 44, 34, 101, 114, 114, 111, 114, 34, 58, 123, 125, 125]⟩
def rt3 : V.T := .cons ⟨#[106, 115, 111, 110, 114, 112, 99]⟩ 4 ⟨#[50, 46, 48]⟩ .nil .nil (.cons ⟨#[105, 100]⟩ 0 ⟨#[]⟩ .nil .nil (.cons ⟨#[101, 114, 114, 111, 114]⟩ 6 ⟨#[]⟩ .nil .nil .nil))
theorem rp3 : prsAll rx3 = ((6, ⟨#[]⟩, .nil, rt3), 0, 0) := by kernel_rfl
def rx4 : ByteArray := ⟨#[123, 34, 106, 115, 111, 110, 114, 112, 99, 34, 58, 34, 49, 46, 48, 34, 44, 34, 109, 101, 116, 104, 111, 100, 34, 58, 34, 97, 34, 125]⟩
def rt4 : V.T := .cons ⟨#[106, 115, 111, 110, 114, 112, 99]⟩ 4 ⟨#[49, 46, 48]⟩ .nil .nil (.cons ⟨#[109, 101, 116, 104, 111, 100]⟩ 4 ⟨#[97]⟩ .nil .nil .nil)
theorem rp4 : prsAll rx4 = ((6, ⟨#[]⟩, .nil, rt4), 0, 0) := by kernel_rfl
def rxL : ByteArray := ⟨#[123, 34, 106, 115, 111, 110, 114, 112, 99, 34, 58, 34, 50, 46, 48, 34, 44, 34, 105, 100, 34, 58, 49, 44, 34, 101, 114, 114, 111, 114, 34, 58, 123, 34, 99, 111, 100, 101, 34, 58, 45, 51, 50, 54, 48, 49, 44, 34, 109, 101, 115, 115, 97, 103, 101, 34, 58, 34, 110, 111, 34, 125, 125]⟩
theorem rpL : prn 6 ⟨#[]⟩ .nil (failT 3 ⟨#[49]⟩ .nil .nil (-32601) ⟨#[110, 111]⟩) = (rxL, 0) := by kernel_rfl
theorem rs1 : (sixOf 6 rt1).holds = true := by decide +kernel
theorem rs2 : (sixOf 6 rt2).holds = true := by decide +kernel
theorem rs3 : (sixOf 6 rt3).holds = true := by decide +kernel
theorem rs4 : (sixOf 6 rt4).holds = false := by decide +kernel
theorem fix_a : U.fixS ⟨#[97]⟩ = ⟨#[97]⟩ := U.fixS_valid _ (by decide +kernel)
theorem fix_e : U.fixS ⟨#[]⟩ = ⟨#[]⟩ := U.fixS_valid _ (by decide +kernel)
theorem fix_no : U.fixS ⟨#[110, 111]⟩ = ⟨#[110, 111]⟩ := U.fixS_valid _ (by decide +kernel)
set_option maxHeartbeats 2000000 in
set_option maxRecDepth 100000 in
theorem read6_any (s : ByteArray) (T : V.T) (w : World) (hp : prsAll s = ((6, ⟨#[]⟩, .nil, T), 0, 0)) (hs : s.size ≤ 1000000000000) (hxi : (sixOf 6 T).i.2.1.size ≤ 140737488355328) (hm : (sixOf 6 T).m.2.1.size ≤ 1000000000000) (hz : (U.fixS (sixOf 6 T).m.2.1).size ≤ 140737488355328) (hT : Tabs w) (hE : ErrC w) :
    Calls Tryz.prog 78 #[.string s] w (ReadIs (sixOf 6 T).holds (sixOf 6 T).kind (sixOf 6 T).i (sixOf 6 T).callF (sixOf 6 T).callP w) := by
  have hB0 := (Below.refl w.heap.size w).alloc (Nat.le_refl _) (.cells #[.int .u8 0, .int .u8 0, .string ⟨#[]⟩, .slice none 0 0, .slice none 0 0, .string ⟨#[]⟩, .int .u8 0, .string ⟨#[]⟩, .slice none 0 0, .slice none 0 0] 39)
  have hb0 : ClBlk (w.alloc (.cells #[.int .u8 0, .int .u8 0, .string ⟨#[]⟩, .slice none 0 0, .slice none 0 0, .string ⟨#[]⟩, .int .u8 0, .string ⟨#[]⟩, .slice none 0 0, .slice none 0 0] 39)) w.heap.size 0 fd0 ⟨#[]⟩ fd0 := heap_alloc_new _ _
  have HP := Lib.hid (fun W (h : Below w.heap.size w W) => Parse_any s W hs (tabs_below hT h))
  rw [hp] at HP
  have HR := Lib.hid (fun W (h : Below w.heap.size w W) (v u : Value) (A : Nat → Prop) (hl : HS W A 0 v .nil) (hf : HS W A 1 u T) => read_any 6 ⟨#[]⟩ v u .nil T A W hl hf hxi hm hz (tabs_below hT h) (hE.on h))
  have H0 := Lib.hid (And.intro hB0 hb0)
  clear hp hs hxi hm hz hT hE hB0 hb0
  generalize sixOf 6 T = s6 at *
  go_enter Tryz.func78, Tryz.ntmps78
  go_wp2_with fail
  generalize w.alloc (.cells #[.int .u8 0, .int .u8 0, .string ⟨#[]⟩, .slice none 0 0, .slice none 0 0, .string ⟨#[]⟩, .int .u8 0, .string ⟨#[]⟩, .slice none 0 0, .slice none 0 0] 39) = W0 at *
  refine (HP.out _ H0.out.1).mono ?_
  rintro e w1 ⟨v, u, rfl, hl, hf, -, hB1⟩
  dsimp only at hl hf ⊢
  obtain ⟨p, c, rfl, -⟩ := hl.len
  obtain ⟨q, d, rfl, -⟩ := hf.len
  have hBa := (Below.refl w1.heap.size w1).alloc (Nat.le_refl _) (.cells #[.int .u8 6, .string ⟨#[]⟩, .slice p V.T.nil.len c, .slice q T.len d] 25)
  have H1 := Lib.hid (And.intro (H0.out.1.trans ((hB1.mono H0.out.1.size).trans (hBa.mono (Nat.le_trans H0.out.1.size hB1.size)))) (And.intro ((H0.out.2.same hB1).same hBa) (And.intro (hl.below hBa) (hf.below hBa))))
  clear hB1 hl hf hBa
  go_wp2_with fail
  generalize w1.alloc (.cells #[.int .u8 6, .string ⟨#[]⟩, .slice p V.T.nil.len c, .slice q T.len d] 25) = W1 at *
  refine (HR.out _ H1.out.1 _ _ _ H1.out.2.2.1 H1.out.2.2.2).mono ?_
  rintro e w2 hrd
  have hlt := H1.out.2.1.lt
  generalize s6.holds = ok at *
  cases ok
  · obtain ⟨rfl, hB2⟩ := readIs_no.1 hrd
    have HB2 := Lib.hid hB2
    have hb2 := H1.out.2.1.same hB2
    clear hB2 hrd
    go_wp2_with (refine wpList_store_row rfl 39 _ _ rfl w.heap.size #[.int .u8 0, .int .u8 0, .string ⟨#[]⟩, .slice none 0 0, .slice none 0 0, .string ⟨#[]⟩, .int .u8 0, .string ⟨#[]⟩, .slice none 0 0, .slice none 0 0] (by rfl) (by rfl) 39 _ hb2 info_call rfl (one_call 0 fd0 ⟨#[]⟩ fd0) ?_)
    have hrow := row_set (c := #[.int .u8 0, .int .u8 0, .string ⟨#[]⟩, .slice none 0 0, .slice none 0 0, .string ⟨#[]⟩, .int .u8 0, .string ⟨#[]⟩, .slice none 0 0, .slice none 0 0]) hb2
    refine bodyPost_ret (v := .tuple #[.agg #[.int .u8 0, .int .u8 0, .string ⟨#[]⟩, .slice none 0 0, .slice none 0 0, .string ⟨#[]⟩, .int .u8 0, .string ⟨#[]⟩, .slice none 0 0, .slice none 0 0], .int .i64 60]) (results_cell_tmp Tryz.results78 _ _ w.heap.size 39 _ (0, 0) _ (by rfl) hrow Tryz.underlying39 rfl info_call) rfl ?_
    exact readIs_no.2 ⟨rfl, below_setRow (H1.out.1.trans (HB2.out.mono H1.out.1.size)) (Nat.le_refl _) _⟩
  · obtain ⟨di, dp, rfl, hdi, hdp, oi, op, hB2⟩ := readIs_yes.1 hrd
    have HB2 := Lib.hid hB2
    clear hrd
    have HD := Lib.hid (And.intro hdi (And.intro hdp (And.intro oi op)))
    have hb2 := H1.out.2.1.same hB2
    clear hB2 hdi hdp oi op
    generalize s6.callF = cF at *
    go_wp2_with (refine wpList_store_row rfl 39 _ _ rfl w.heap.size #[.int .u8 s6.kind, .int .u8 di.k, .string di.x, .slice di.p di.n di.c, .slice di.q di.m di.e, .string cF, .int .u8 dp.k, .string dp.x, .slice dp.p dp.n dp.c, .slice dp.q dp.m dp.e] (by rfl) (by rfl) 39 _ hb2 info_call rfl (one_call s6.kind di cF dp) ?_)
    have hrow := row_set (c := #[.int .u8 s6.kind, .int .u8 di.k, .string di.x, .slice di.p di.n di.c, .slice di.q di.m di.e, .string cF, .int .u8 dp.k, .string dp.x, .slice dp.p dp.n dp.c, .slice dp.q dp.m dp.e]) hb2
    refine bodyPost_ret (v := .tuple #[.agg #[.int .u8 s6.kind, .int .u8 di.k, .string di.x, .slice di.p di.n di.c, .slice di.q di.m di.e, .string cF, .int .u8 dp.k, .string dp.x, .slice dp.p dp.n dp.c, .slice dp.q dp.m dp.e], .int .i64 0]) (results_cell_tmp Tryz.results78 _ _ w.heap.size 39 _ (0, 0) _ (by rfl) hrow Tryz.underlying39 rfl info_call) rfl ?_
    have hg : ¬ W1.heap.size ≤ w.heap.size := by omega
    exact readIs_yes.2 ⟨di, dp, rfl, HD.out.1, HD.out.2.1, (HD.out.2.2.1.set hg _).imp (fun b hb _ => Nat.le_trans H1.out.1.size hb) (fun _ _ _ => rfl), (HD.out.2.2.2.set hg _).imp (fun b hb _ => Nat.le_trans H1.out.1.size hb) (fun _ _ _ => rfl), below_setRow (H1.out.1.trans (HB2.out.mono H1.out.1.size)) (Nat.le_refl _) _⟩
end Go.Proofs.YtagafedkfkmkbaaGreatDoor

namespace Go.Proofs.YtagafedkfkmkbaaGreatDoor
open Go Go.RowKit Go.Lib

/-- all that is said of elements that lie in memory -/
def Fi : V.T → Nat → Prop
  | .nil, _ => True
  | .cons nm k x l f tl, d => (d = 0 → nm = ⟨#[]⟩) ∧ Fit nm k x ∧ Fi l 0 ∧ Fi f 1 ∧ Fi tl d
theorem HR.fi {w : World} {A : Nat → Prop} : ∀ (t : V.T) (d b o : Nat), HR w A d b o t → Fi t d
  | .nil, _, _, _, _ => trivial
  | .cons nm k x l f tl, d, b, o, h => by
    obtain ⟨h1, h2, h3, h4, h5, ⟨v, h6, h7⟩, ⟨u, h8, h9⟩, h10, h11⟩ := h
    refine ⟨h2, h10, ?_, ?_, HR.fi tl d b _ h11⟩
    · rcases h7 with ⟨_, h⟩ | ⟨h, _⟩ | ⟨b', o', c, _, _, _, h⟩
      · rw [V.T.len_nil h]; trivial
      · rw [V.T.len_nil h]; trivial
      · exact HR.fi l 0 b' o' h
    · rcases h9 with ⟨_, h⟩ | ⟨h, _⟩ | ⟨b', o', c, _, _, _, h⟩
      · rw [V.T.len_nil h]; trivial
      · rw [V.T.len_nil h]; trivial
      · exact HR.fi f 1 b' o' h
theorem HS.fi {w : World} {A : Nat → Prop} {d : Nat} {v : Value} {t : V.T} (h : HS w A d v t) : Fi t d := by
  rcases h with ⟨_, h⟩ | ⟨h, _⟩ | ⟨b', o', c, _, _, _, h⟩
  · rw [V.T.len_nil h]; trivial
  · rw [V.T.len_nil h]; trivial
  · exact HR.fi t d b' o' h
/-- bytes of texts and names -/
def szT : V.T → Nat
  | .nil => 0
  | .cons nm _ x l f tl => nm.size + x.size + szT l + szT f + szT tl
theorem szT_le : ∀ (t : V.T) (d : Nat), Fi t d → szT t ≤ t.size * 281474976710656
  | .nil, _, _ => Nat.zero_le _
  | .cons nm k x l f tl, d, h => by
    have h1 := szT_le l 0 h.2.2.1
    have h2 := szT_le f 1 h.2.2.2.1
    have h3 := szT_le tl d h.2.2.2.2
    have h4 := h.2.1.text
    have h5 := h.2.1.name
    show nm.size + x.size + szT l + szT f + szT tl ≤ (l.size + f.size + tl.size + 1) * 281474976710656
    omega
theorem szT_drop {t : V.T} {i d : Nat} {nm : ByteArray} {k : Nat} {x : ByteArray} {l f tl : V.T} (h : t.drop i = .cons nm k x l f tl) : szT (t.drop i) = nm.size + x.size + szT l + szT f + szT (t.drop (i + 1)) := by
  rw [V.T.drop_step h, h]; rfl
theorem Fi.drop {t : V.T} {i d : Nat} {nm : ByteArray} {k : Nat} {x : ByteArray} {l f tl : V.T} (h : Fi t d) (hd : t.drop i = .cons nm k x l f tl) : (d = 0 → nm = ⟨#[]⟩) ∧ Fit nm k x ∧ Fi l 0 ∧ Fi f 1 := by
  induction i generalizing t with
  | zero => rw [V.T.drop_zero] at hd; subst hd; exact ⟨h.1, h.2.1, h.2.2.1, h.2.2.2.1⟩
  | succ i ih =>
    cases t with
    | nil => cases hd
    | cons a b c d e tl2 => exact ih (t := tl2) h.2.2.2.2 hd
def IntIs (n : Nat) (w : World) (e : Ending) (w' : World) : Prop := e = .returned (.int .i64 (n : Nat)) ∧ Below w.heap.size w w'
/-- size serves values of fewer than N elements -/
def SzOk (N : Nat) : Prop := ∀ (k : Nat) (x : ByteArray) (va ua : Value) (la fa : V.T) (A : Nat → Prop) (w : World), la.size + fa.size < N → la.size + fa.size ≤ 4000 → x.size ≤ 140737488355328 → HS w A 0 va la → HS w A 1 ua fa →
    Calls Tryz.prog 137 #[.agg #[.int .u8 k, .string x, va, ua]] w (IntIs (x.size + szT la + szT fa) w)

set_option maxRecDepth 100000 in
set_option maxHeartbeats 2000000 in
theorem size_with (N : Nat) (ih : SzOk N) (k : Nat) (x : ByteArray) (va ua : Value) (la fa : V.T) (A : Nat → Prop) (w : World) (hn : la.size + fa.size < N + 1) (h4 : la.size + fa.size ≤ 4000) (hx : x.size ≤ 140737488355328) (hva : HS w A 0 va la) (hua : HS w A 1 ua fa) :
    Calls Tryz.prog 137 #[.agg #[.int .u8 k, .string x, va, ua]] w (IntIs (x.size + szT la + szT fa) w) := by
  have ha := szT_le la 0 hva.fi
  have hb := szT_le fa 1 hua.fi
  have HFI := Lib.hid (And.intro hva.fi hua.fi)
  obtain ⟨pa, ca, rfl, _, ba1, ba2⟩ := hva.len
  obtain ⟨qa, da, rfl, _, ba3, ba4⟩ := hua.len
  generalize ea : la.len = na at *
  generalize fa1 : fa.len = ma at *
  have HE := Lib.hid (And.intro ea fa1)
  have HN := Lib.hid (And.intro hn h4)
  have HA := Lib.hid (And.intro hva hua)
  have hbig : x.size + szT la + szT fa ≤ 2000000000000000000 := by omega
  have HBG := Lib.hid hbig
  generalize htot : x.size + szT la + szT fa = tot at *
  have HT := Lib.hid htot
  clear ea fa1 hn h4 hva hua ha hb hbig htot
  go_enter Tryz.func137, Tryz.ntmps137
  go_wp2_with fail
  have HX := Lib.hid (Box4.mk' (heap_alloc_new w (.cells #[.int .u8 k, .string x, .slice pa na ca, .slice qa ma da] 25)))
  have HW := Lib.hid ((Below.refl w.heap.size w).alloc (Nat.le_refl _) (.cells #[.int .u8 k, .string x, .slice pa na ca, .slice qa ma da] 25))
  have HZ := Lib.hid (World.size_alloc w (.cells #[.int .u8 k, .string x, .slice pa na ca, .slice qa ma da] 25))
  generalize w.alloc (.cells #[.int .u8 k, .string x, .slice pa na ca, .slice qa ma da] 25) = W0 at *
  go_loopw [3, 4] (fun s p wr => ∃ (r i : Nat), s = .int .i64 r ∧ p = .int .i64 i ∧ i ≤ na ∧ r ≤ 2000000000000000000 ∧ Hid (Below W0.heap.size W0 wr ∧ r + szT (la.drop i) = x.size + szT la)) (fun _ p _ => na - (RowKit.intOf p).toNat)
  case atStart => exact ⟨x.size, 0, rfl, rfl, Nat.zero_le _, by have := HBG.out; have := HT.out; omega, Lib.hid ⟨Below.refl _ _, by rw [V.T.drop_zero]⟩⟩
  case round =>
    obtain ⟨r, i, rfl, rfl, hi, hr0, HR⟩ := hrel
    obtain ⟨c1, c2, c3, c4⟩ := HX.out.below HR.out.1 (by rw [HZ.out]; exact Nat.lt_succ_self _)
    clear c1 c2
    by_cases hlt : i < na
    · obtain ⟨nm1, k1, x1, l1, f1, tl1, hd1⟩ := V.T.drop_some (t := la) (i := i) (by rw [HE.out.1]; exact hlt)
      obtain ⟨b1, o1, v1, u1, rfl, E1⟩ := ((HA.out.1.below HW.out).below HR.out.1).elem (by rw [HE.out.1]; exact hlt) hd1
      have e1 := E1.kind
      have e2 := E1.text
      have e3 := E1.list
      have e4 := E1.fields
      simp only [Nat.add_zero] at e1 e2 e3 e4
      have hsz := V.T.drop_size hd1
      have hfi := HFI.out.1.drop hd1
      have hst := szT_drop (d := 0) hd1
      have IH := ih k1 x1 v1 u1 l1 f1 A wr (by have := HN.out; omega) (by have := HN.out; omega) hfi.2.1.text E1.hl E1.hf
      have h0 : nm1.size = 0 := by rw [hfi.1 rfl]; rfl
      have HST := Lib.hid (show szT (la.drop i) = (x1.size + szT l1 + szT f1) + szT (la.drop (i + 1)) by rw [hst]; omega)
      generalize x1.size + szT l1 + szT f1 = m at *
      have hm : r + m ≤ 2000000000000000000 := by have := HR.out.2; have := HST.out; have := HBG.out; have := HT.out; omega
      have HL := Lib.hid hlt
      clear hd1 hsz hfi hst h0 E1 c4
      go_wp2_with fail
      refine IH.mono ?_
      rintro e w1 ⟨rfl, hB1⟩
      have H1 := Lib.hid (HR.out.1.trans (hB1.mono HR.out.1.size))
      clear hB1 IH c3 e1 e2 e3 e4
      go_wp2_with fail
      go_roundw
      case rel => exact ⟨r + m, i + 1, by push_cast; rfl, by go_num, HL.out, hm, Lib.hid ⟨H1.out, by have := HR.out.2; have := HST.out; omega⟩⟩
      case measure => have := HL.out; simp [RowKit.intOf]; omega
    · obtain rfl : i = na := by omega
      have HR0 := Lib.hid (show r = x.size + szT la by
        have h := HR.out.2
        have e1 := V.T.drop_len la
        rw [HE.out.1] at e1
        rw [e1] at h
        exact h)
      have HQ := Lib.hid HR.out.1
      clear HR hlt
      go_wp2_with fail
      obtain ⟨wo, rfl⟩ : ∃ wo : World, wo = wr := ⟨_, rfl⟩
      clear c3 c4
      go_loopw [3, 5] (fun s p wr2 => ∃ (r2 j : Nat), s = .int .i64 r2 ∧ p = .int .i64 j ∧ j ≤ ma ∧ r2 ≤ 2000000000000000000 ∧ Hid (Below W0.heap.size W0 wr2 ∧ r2 + szT (fa.drop j) = r + szT fa)) (fun _ p _ => ma - (RowKit.intOf p).toNat)
      case atStart => exact ⟨r, 0, rfl, rfl, Nat.zero_le _, hr0, Lib.hid ⟨HQ.out, by rw [V.T.drop_zero]⟩⟩
      case round =>
        obtain ⟨r2, j, rfl, rfl, hj, hr2, HR⟩ := hrel
        obtain ⟨c1, c2, c3, c4⟩ := HX.out.below HR.out.1 (by rw [HZ.out]; exact Nat.lt_succ_self _)
        clear c1 c2 c3
        by_cases hlt : j < ma
        · obtain ⟨nm1, k1, x1, l1, f1, tl1, hd1⟩ := V.T.drop_some (t := fa) (i := j) (by rw [HE.out.2]; exact hlt)
          obtain ⟨b1, o1, v1, u1, rfl, E1⟩ := ((HA.out.2.below HW.out).below HR.out.1).elem (by rw [HE.out.2]; exact hlt) hd1
          have e0 := E1.name rfl
          have e1 := E1.kind
          have e2 := E1.text
          have e3 := E1.list
          have e4 := E1.fields
          simp only [Nat.reduceAdd] at e0 e1 e2 e3 e4
          have hsz := V.T.drop_size hd1
          have hfi := HFI.out.2.drop hd1
          have hst := szT_drop (d := 1) hd1
          have IH := fun W (hB : Below wr.heap.size wr W) => ih k1 x1 v1 u1 l1 f1 A W (by have := HN.out; omega) (by have := HN.out; omega) hfi.2.1.text (E1.hl.below hB) (E1.hf.below hB)
          have HST := Lib.hid (show szT (fa.drop j) = nm1.size + (x1.size + szT l1 + szT f1) + szT (fa.drop (j + 1)) by rw [hst]; omega)
          generalize x1.size + szT l1 + szT f1 = m at *
          have hm : r2 + nm1.size + m ≤ 2000000000000000000 := by have := HR.out.2; have := HST.out; have := HBG.out; have := HT.out; have := HR0.out; omega
          have hm1 : r2 + nm1.size ≤ 2000000000000000000 := by omega
          have HL := Lib.hid hlt
          have keep : ∀ w', Below wr.heap.size wr w' → w'.cell? ⟨w.heap.size, 3, none⟩ = some (.slice (some ⟨b1, o1, none⟩) ma da) ∧ w'.cell? ⟨b1, o1 + j * 5, none⟩ = some (.string nm1) ∧ w'.cell? ⟨b1, o1 + j * 5 + 1, none⟩ = some (.int .u8 k1) ∧ w'.cell? ⟨b1, o1 + j * 5 + 1 + 1, none⟩ = some (.string x1) ∧ w'.cell? ⟨b1, o1 + j * 5 + 1 + 2, none⟩ = some v1 ∧ w'.cell? ⟨b1, o1 + j * 5 + 1 + 3, none⟩ = some u1 := fun w' hB =>
            ⟨bcellv hB c4, bcellv hB e0, bcellv hB e1, bcellv hB e2, bcellv hB e3, bcellv hB e4⟩
          have KEEP := Lib.hid keep
          have hns : nm1.size ≤ 140737488355328 := hfi.2.1.name
          have w1' : IntKind.i64.wrap ((r2 : Int) + (nm1.size : Int)) = (r2 : Int) + (nm1.size : Int) := IntWalk.i64_in _ (by omega)
          have w2' : IntKind.i64.wrap ((r2 : Int) + (nm1.size : Int) + (m : Int)) = (r2 : Int) + (nm1.size : Int) + (m : Int) := IntWalk.i64_in _ (by omega)
          clear keep hd1 hsz hfi hst E1
          go_wp2_with fail
          go_region_held3 (fun w' => w'.cell? ⟨w.heap.size, 3, none⟩ = some (.slice (some ⟨b1, o1, none⟩) ma da) ∧ w'.cell? ⟨b1, o1 + j * 5, none⟩ = some (.string nm1) ∧ w'.cell? ⟨b1, o1 + j * 5 + 1, none⟩ = some (.int .u8 k1) ∧ w'.cell? ⟨b1, o1 + j * 5 + 1 + 1, none⟩ = some (.string x1) ∧ w'.cell? ⟨b1, o1 + j * 5 + 1 + 2, none⟩ = some v1 ∧ w'.cell? ⟨b1, o1 + j * 5 + 1 + 3, none⟩ = some u1)
            (first | exact KEEP.out _ hB2 | exact KEEP.out _ (Below.refl _ _).drew | exact KEEP.out _ (Below.refl _ _))
            (first | (go_at_call 137; (with_reducible refine (IH _ (Below.refl _ _).drew).mono ?_); rintro e w1 ⟨rfl, hB1⟩; have hB2 := (Below.refl wr.heap.size wr).drew.trans hB1; clear hB1))
          all_goals
            have H1 := Lib.hid (HR.out.1.trans (hB2.mono HR.out.1.size))
            clear hB2 IH c4 e0 e1 e2 e3 e4
            go_wp2_with fail
            go_roundw
            case rel => exact ⟨r2 + nm1.size + m, j + 1, by push_cast; first | rfl | (rw [w2']), by go_num, HL.out, hm, Lib.hid ⟨H1.out, by have := HR.out.2; have := HST.out; omega⟩⟩
            case measure => have := HL.out; simp [RowKit.intOf]; omega
        · obtain rfl : j = ma := by omega
          have HR1 := Lib.hid (show r2 = tot by
            have h := HR.out.2
            have e1 := V.T.drop_len fa
            rw [HE.out.2] at e1
            rw [e1] at h
            have h0 : szT .nil = 0 := rfl
            have := HR0.out
            have := HT.out
            omega)
          have HB := Lib.hid (HW.out.trans (HR.out.1.mono (by rw [HZ.out]; exact Nat.le_succ _)))
          clear HR
          go_wp2_with fail
          go_ret
          exact ⟨by rw [HR1.out]; rfl, HB.out⟩
theorem sz_ok : ∀ N, SzOk N
  | 0 => fun _ _ _ _ _ _ _ _ h => absurd h (Nat.not_lt_zero _)
  | N + 1 => fun k x va ua la fa A w hn h4 hx hva hua => size_with N (sz_ok N) k x va ua la fa A w hn h4 hx hva hua

set_option maxRecDepth 100000 in
set_option maxHeartbeats 2000000 in
theorem long_with (N : Nat) (ih : SzOk N) (k : Nat) (x : ByteArray) (va ua : Value) (la fa : V.T) (A : Nat → Prop) (w : World) (hn : la.size + fa.size < N + 1) (h4 : la.size + fa.size ≤ 4000) (hx : x.size ≤ 140737488355328) (hva : HS w A 0 va la) (hua : HS w A 1 ua fa) :
    Calls Tryz.prog 67 #[.agg #[.int .u8 k, .string x, va, ua]] w (Bools (decide (20000 < x.size + szT la + szT fa)) w) := by
  have ha := szT_le la 0 hva.fi
  have hb := szT_le fa 1 hua.fi
  have HFI := Lib.hid (And.intro hva.fi hua.fi)
  obtain ⟨pa, ca, rfl, _, ba1, ba2⟩ := hva.len
  obtain ⟨qa, da, rfl, _, ba3, ba4⟩ := hua.len
  generalize ea : la.len = na at *
  generalize fa1 : fa.len = ma at *
  have HE := Lib.hid (And.intro ea fa1)
  have HN := Lib.hid (And.intro hn h4)
  have HA := Lib.hid (And.intro hva hua)
  have hbig : x.size + szT la + szT fa ≤ 2000000000000000000 := by omega
  have HBG := Lib.hid hbig
  generalize htot : x.size + szT la + szT fa = tot at *
  have HT := Lib.hid htot
  clear ea fa1 hn h4 hva hua ha hb hbig htot
  go_enter Tryz.func67, Tryz.ntmps67
  go_wp2_with fail
  have HX := Lib.hid (Box4.mk' (heap_alloc_new w (.cells #[.int .u8 k, .string x, .slice pa na ca, .slice qa ma da] 25)))
  have HW := Lib.hid ((Below.refl w.heap.size w).alloc (Nat.le_refl _) (.cells #[.int .u8 k, .string x, .slice pa na ca, .slice qa ma da] 25))
  have HZ := Lib.hid (World.size_alloc w (.cells #[.int .u8 k, .string x, .slice pa na ca, .slice qa ma da] 25))
  generalize w.alloc (.cells #[.int .u8 k, .string x, .slice pa na ca, .slice qa ma da] 25) = W0 at *
  go_loopw [3, 4] (fun s p wr => ∃ (r i : Nat), s = .int .i64 r ∧ p = .int .i64 i ∧ i ≤ na ∧ r ≤ 2000000000000000000 ∧ Hid (Below W0.heap.size W0 wr ∧ r + szT (la.drop i) = x.size + szT la)) (fun _ p _ => na - (RowKit.intOf p).toNat)
  case atStart => exact ⟨x.size, 0, rfl, rfl, Nat.zero_le _, by have := HBG.out; have := HT.out; omega, Lib.hid ⟨Below.refl _ _, by rw [V.T.drop_zero]⟩⟩
  case round =>
    obtain ⟨r, i, rfl, rfl, hi, hr0, HR⟩ := hrel
    obtain ⟨c1, c2, c3, c4⟩ := HX.out.below HR.out.1 (by rw [HZ.out]; exact Nat.lt_succ_self _)
    clear c1 c2
    by_cases hlt : i < na
    · obtain ⟨nm1, k1, x1, l1, f1, tl1, hd1⟩ := V.T.drop_some (t := la) (i := i) (by rw [HE.out.1]; exact hlt)
      obtain ⟨b1, o1, v1, u1, rfl, E1⟩ := ((HA.out.1.below HW.out).below HR.out.1).elem (by rw [HE.out.1]; exact hlt) hd1
      have e1 := E1.kind
      have e2 := E1.text
      have e3 := E1.list
      have e4 := E1.fields
      simp only [Nat.add_zero] at e1 e2 e3 e4
      have hsz := V.T.drop_size hd1
      have hfi := HFI.out.1.drop hd1
      have hst := szT_drop (d := 0) hd1
      have IH := ih k1 x1 v1 u1 l1 f1 A wr (by have := HN.out; omega) (by have := HN.out; omega) hfi.2.1.text E1.hl E1.hf
      have h0 : nm1.size = 0 := by rw [hfi.1 rfl]; rfl
      have HST := Lib.hid (show szT (la.drop i) = (x1.size + szT l1 + szT f1) + szT (la.drop (i + 1)) by rw [hst]; omega)
      generalize x1.size + szT l1 + szT f1 = m at *
      have hm : r + m ≤ 2000000000000000000 := by have := HR.out.2; have := HST.out; have := HBG.out; have := HT.out; omega
      have HL := Lib.hid hlt
      clear hd1 hsz hfi hst h0 E1 c4
      go_wp2_with fail
      refine IH.mono ?_
      rintro e w1 ⟨rfl, hB1⟩
      have H1 := Lib.hid (HR.out.1.trans (hB1.mono HR.out.1.size))
      clear hB1 IH c3 e1 e2 e3 e4
      go_wp2_with fail
      go_roundw
      case rel => exact ⟨r + m, i + 1, by push_cast; rfl, by go_num, HL.out, hm, Lib.hid ⟨H1.out, by have := HR.out.2; have := HST.out; omega⟩⟩
      case measure => have := HL.out; simp [RowKit.intOf]; omega
    · obtain rfl : i = na := by omega
      have HR0 := Lib.hid (show r = x.size + szT la by
        have h := HR.out.2
        have e1 := V.T.drop_len la
        rw [HE.out.1] at e1
        rw [e1] at h
        exact h)
      have HQ := Lib.hid HR.out.1
      clear HR hlt
      go_wp2_with fail
      obtain ⟨wo, rfl⟩ : ∃ wo : World, wo = wr := ⟨_, rfl⟩
      clear c3 c4
      go_loopw [3, 5] (fun s p wr2 => ∃ (r2 j : Nat), s = .int .i64 r2 ∧ p = .int .i64 j ∧ j ≤ ma ∧ r2 ≤ 2000000000000000000 ∧ Hid (Below W0.heap.size W0 wr2 ∧ r2 + szT (fa.drop j) = r + szT fa)) (fun _ p _ => ma - (RowKit.intOf p).toNat)
      case atStart => exact ⟨r, 0, rfl, rfl, Nat.zero_le _, hr0, Lib.hid ⟨HQ.out, by rw [V.T.drop_zero]⟩⟩
      case round =>
        obtain ⟨r2, j, rfl, rfl, hj, hr2, HR⟩ := hrel
        obtain ⟨c1, c2, c3, c4⟩ := HX.out.below HR.out.1 (by rw [HZ.out]; exact Nat.lt_succ_self _)
        clear c1 c2 c3
        by_cases hlt : j < ma
        · obtain ⟨nm1, k1, x1, l1, f1, tl1, hd1⟩ := V.T.drop_some (t := fa) (i := j) (by rw [HE.out.2]; exact hlt)
          obtain ⟨b1, o1, v1, u1, rfl, E1⟩ := ((HA.out.2.below HW.out).below HR.out.1).elem (by rw [HE.out.2]; exact hlt) hd1
          have e0 := E1.name rfl
          have e1 := E1.kind
          have e2 := E1.text
          have e3 := E1.list
          have e4 := E1.fields
          simp only [Nat.reduceAdd] at e0 e1 e2 e3 e4
          have hsz := V.T.drop_size hd1
          have hfi := HFI.out.2.drop hd1
          have hst := szT_drop (d := 1) hd1
          have IH := fun W (hB : Below wr.heap.size wr W) => ih k1 x1 v1 u1 l1 f1 A W (by have := HN.out; omega) (by have := HN.out; omega) hfi.2.1.text (E1.hl.below hB) (E1.hf.below hB)
          have HST := Lib.hid (show szT (fa.drop j) = nm1.size + (x1.size + szT l1 + szT f1) + szT (fa.drop (j + 1)) by rw [hst]; omega)
          generalize x1.size + szT l1 + szT f1 = m at *
          have hm : r2 + nm1.size + m ≤ 2000000000000000000 := by have := HR.out.2; have := HST.out; have := HBG.out; have := HT.out; have := HR0.out; omega
          have hm1 : r2 + nm1.size ≤ 2000000000000000000 := by omega
          have HL := Lib.hid hlt
          have keep : ∀ w', Below wr.heap.size wr w' → w'.cell? ⟨w.heap.size, 3, none⟩ = some (.slice (some ⟨b1, o1, none⟩) ma da) ∧ w'.cell? ⟨b1, o1 + j * 5, none⟩ = some (.string nm1) ∧ w'.cell? ⟨b1, o1 + j * 5 + 1, none⟩ = some (.int .u8 k1) ∧ w'.cell? ⟨b1, o1 + j * 5 + 1 + 1, none⟩ = some (.string x1) ∧ w'.cell? ⟨b1, o1 + j * 5 + 1 + 2, none⟩ = some v1 ∧ w'.cell? ⟨b1, o1 + j * 5 + 1 + 3, none⟩ = some u1 := fun w' hB =>
            ⟨bcellv hB c4, bcellv hB e0, bcellv hB e1, bcellv hB e2, bcellv hB e3, bcellv hB e4⟩
          have KEEP := Lib.hid keep
          have hns : nm1.size ≤ 140737488355328 := hfi.2.1.name
          have w1' : IntKind.i64.wrap ((r2 : Int) + (nm1.size : Int)) = (r2 : Int) + (nm1.size : Int) := IntWalk.i64_in _ (by omega)
          have w2' : IntKind.i64.wrap ((r2 : Int) + (nm1.size : Int) + (m : Int)) = (r2 : Int) + (nm1.size : Int) + (m : Int) := IntWalk.i64_in _ (by omega)
          clear keep hd1 hsz hfi hst E1
          go_wp2_with fail
          go_region_held3 (fun w' => w'.cell? ⟨w.heap.size, 3, none⟩ = some (.slice (some ⟨b1, o1, none⟩) ma da) ∧ w'.cell? ⟨b1, o1 + j * 5, none⟩ = some (.string nm1) ∧ w'.cell? ⟨b1, o1 + j * 5 + 1, none⟩ = some (.int .u8 k1) ∧ w'.cell? ⟨b1, o1 + j * 5 + 1 + 1, none⟩ = some (.string x1) ∧ w'.cell? ⟨b1, o1 + j * 5 + 1 + 2, none⟩ = some v1 ∧ w'.cell? ⟨b1, o1 + j * 5 + 1 + 3, none⟩ = some u1)
            (first | exact KEEP.out _ hB2 | exact KEEP.out _ (Below.refl _ _).drew | exact KEEP.out _ (Below.refl _ _))
            (first | (go_at_call 137; (with_reducible refine (IH _ (Below.refl _ _).drew).mono ?_); rintro e w1 ⟨rfl, hB1⟩; have hB2 := (Below.refl wr.heap.size wr).drew.trans hB1; clear hB1))
          all_goals
            have H1 := Lib.hid (HR.out.1.trans (hB2.mono HR.out.1.size))
            clear hB2 IH c4 e0 e1 e2 e3 e4
            go_wp2_with fail
            go_roundw
            case rel => exact ⟨r2 + nm1.size + m, j + 1, by push_cast; first | rfl | (rw [w2']), by go_num, HL.out, hm, Lib.hid ⟨H1.out, by have := HR.out.2; have := HST.out; omega⟩⟩
            case measure => have := HL.out; simp [RowKit.intOf]; omega
        · obtain rfl : j = ma := by omega
          have HR1 := Lib.hid (show r2 = tot by
            have h := HR.out.2
            have e1 := V.T.drop_len fa
            rw [HE.out.2] at e1
            rw [e1] at h
            have h0 : szT .nil = 0 := rfl
            have := HR0.out
            have := HT.out
            omega)
          have HB := Lib.hid (HW.out.trans (HR.out.1.mono (by rw [HZ.out]; exact Nat.le_succ _)))
          clear HR
          go_wp2_with fail
          go_ret
          have e : decide ((20000 : Int) < (r2 : Int)) = decide (20000 < tot) := decide_eq_decide.2 (by have := HR1.out; omega)
          refine ⟨?_, HB.out⟩
          show Ending.returned (.bool (decide ((20000 : Int) < (r2 : Int)))) = _
          rw [e]
end Go.Proofs.YtagafedkfkmkbaaGreatDoor
