/- The reader of messages: made, fed, asked. Conditions: such lengths as memory bears; what a head tells is known. -/
import Derived.Test.YtmaclplhphfkiaaDoorFrRead
namespace Go.Proofs.YtmaclplhphfkiaaDoor
open Go Go.RowKit Go.Lib F

namespace F
theorem stp_len (st : St) (c : UInt8) : (stp (st, []) c).2.length ≤ 1 := by
  cases st with
  | head p =>
    unfold stp
    dsimp only
    split
    · split
      · split <;> simp
      · simp
    · split <;> simp
  | body n p =>
    unfold stp
    dsimp only
    split <;> simp
  | dead e => simp [stp]
theorem run_len (st : St) (l : Bs) : (run (st, []) l).2.length ≤ l.length := by
  induction l generalizing st with
  | nil => exact Nat.le_refl _
  | cons c l ih =>
    rw [run_cons, show stp (st, []) c = ((stp (st, []) c).1, (stp (st, []) c).2) from rfl, run_out]
    have h1 := stp_len st c
    have h2 := ih (stp (st, []) c).1
    simp only [List.length_append, List.length_cons]
    omega
theorem run_len2 (st : St) (out : List Bs) (l : Bs) : (run (st, out) l).2.length ≤ out.length + l.length := by
  rw [run_out]
  have := run_len st l
  simp only [List.length_append]
  omega
theorem run_split (x : Rs) (l : Bs) (j k : Nat) : run (run x (l.take j)) ((l.drop j).take k) = run x (l.take (j + k)) := by
  rw [← run_append, ← List.take_add]
end F
/-- the bytes are fed -/
def FeedOut (A : Nat → Prop) (R : Nat) (x : Rs) (w : World) (e : Ending) (w' : World) : Prop :=
  e = .returned (.int .i64 (x.1.err : Nat)) ∧ Alt A w w' ∧ RdAt w' (Grow A w) R x.1 x.2
/-- where the loop over what is left stands -/
def FdAt (A : Nat → Prop) (R : Nat) (l : Bs) (x : Rs) (j : Nat) (w wr : World) : Prop := Alt A w wr ∧ RdAt wr (Grow A w) R (run x (l.take j)).1 (run x (l.take j)).2

def slLen : Value → Nat
  | .slice _ n _ => n
  | _ => 0
/-- what the rest of a slice is -/
def RestIs (g off cap : Nat) (l : Bs) (j : Nat) (v : Value) : Prop := ∃ o2, (v = .slice none 0 0 ∧ j = l.length) ∨ (v = .slice (some ⟨g, o2, none⟩) (l.length - j) (cap - j) ∧ (j < l.length → o2 = off + j))
theorem rest_next {g off cap j k : Nat} {l : Bs} {v : Value} (hj : j < l.length) (hk : k ≤ (l.drop j).length) (hL : Left g (off + j) (cap - j) (l.drop j) k v) : RestIs g off cap l (j + k) v := by
  rw [List.length_drop] at hk
  rcases hL with ⟨rfl, h⟩ | ⟨o2, rfl, h⟩
  · rw [List.length_drop] at h
    exact ⟨0, .inl ⟨rfl, by omega⟩⟩
  · rw [List.length_drop] at h ⊢
    refine ⟨o2, .inr ⟨?_, fun h' => by have := h (by omega); omega⟩⟩
    congr 1 <;> omega
theorem slLen_rest {g off cap j : Nat} {l : Bs} {v : Value} (h : RestIs g off cap l j v) : slLen v = l.length - j := by
  obtain ⟨o2, ⟨rfl, rfl⟩ | ⟨rfl, _⟩⟩ := h
  · simp [slLen]
  · rfl
theorem fd_next {A : Nat → Prop} {R g off cap j : Nat} {l : Bs} {x : Rs} {w wr w1 : World} {e : Ending} (hj : j < l.length) (h : FdAt A R l x j w wr) (hr : ReadSome (Grow A w) R g (off + j) (cap - j) (l.drop j) (run x (l.take j)) wr e w1) :
    ∃ v' k, e = .returned v' ∧ 0 < k ∧ j + k ≤ l.length ∧ RestIs g off cap l (j + k) v' ∧ FdAt A R l x (j + k) w w1 := by
  obtain ⟨k, hk, hk0, v', he, hL, hA, hR⟩ := hr
  have hne : l.drop j ≠ [] := fun h => by have := congrArg List.length h; simp at this; omega
  have hk2 := hk
  rw [List.length_drop] at hk2
  refine ⟨v', k, he, hk0 hne, by omega, rest_next hj hk hL, h.1.trans hA, ?_⟩
  rw [run_split] at hR
  exact hR.imp fun b _ hb => by
    rcases hb with hb | hb
    · exact hb
    · exact .inr (Nat.le_trans h.1.size hb)
theorem readBody_some (R n g off cap : Nat) (p l : Bs) (out : List Bs) (A : Nat → Prop) (w : World) (hR : RdAt w A R (.body n p) out) (hpn : p.length < n) (hn : n ≤ 262144) (hl : l.length ≤ cap) (hcap : cap ≤ 9223372036854775807)
    (ho : out.length ≤ 1000000000000) (hA8 : At8 w g off l) :
    Calls Tryd.prog 95 #[.pointer (some ⟨R, 0, none⟩), .slice (some ⟨g, off, none⟩) l.length cap] w (ReadSome A R g off cap l (.body n p, out) w) := by
  refine (readBody_any R n g off cap p l out A w hR (by omega) hn hl hcap ho hA8).mono fun e w' h => ?_
  refine ⟨min (n - p.length) l.length, by omega, fun h => ?_, ?_⟩
  · have : 0 < l.length := List.length_pos_iff.2 h
    omega
  · have e2 : run (.body n p, out) (l.take (min (n - p.length) l.length)) = bodyTo n p out l := by
      rw [← bodyTo_run n l p out hpn, ← List.take_take, List.take_length]
    rw [e2]
    exact h
theorem ignore_some (R g off cap E : Nat) (l : Bs) (out : List Bs) (A : Nat → Prop) (w : World) (hR : RdAt w A R (.dead E) out) (v : Value) :
    Calls Tryd.prog 96 #[.pointer (some ⟨R, 0, none⟩), v] w (ReadSome A R g off cap l (.dead E, out) w) := by
  refine (ignore_any R v w).mono fun e w' h => ?_
  obtain ⟨he, rfl⟩ := h
  refine ⟨l.length, Nat.le_refl _, fun h => List.length_pos_iff.2 h, _, he, .inl ⟨rfl, rfl⟩, Alt.refl _ _, ?_⟩
  rw [run_dead]
  exact hR.imp fun b _ h => .inl h

set_option maxRecDepth 100000 in
set_option maxHeartbeats 2000000 in
theorem feed_any (hBS : BsOk) (R g off cap : Nat) (st : St) (l : Bs) (out : List Bs) (A : Nat → Prop) (w : World) (hR : RdAt w A R st out) (hst : st.ok) (hal : st.err = 0) (hl : l.length ≤ cap) (hcap : cap ≤ 9223372036854775807) (hl2 : l.length ≤ 1000000000)
    (ho : out.length ≤ 100000000000) (hA8 : At8 w g off l) (hg : l ≠ [] → ¬ A g) (hE : Env A w) :
    Calls Tryd.prog 21 #[.pointer (some ⟨R, 0, none⟩), .slice (some ⟨g, off, none⟩) l.length cap] w (FeedOut A R (run (st, out) l) w) := by
  obtain ⟨part, bodies, size, hb, hTp, hTb, hsz, hP⟩ := hR
  have hm := isMade_yes R _ _ _ _ _ w hb
  obtain ⟨-, -, -, -, -, c5⟩ := hb.cells
  rw [hal] at c5
  have H0 := Lib.hid (show FdAt A R l (st, out) 0 w w from ⟨Alt.refl _ _, RdAt.imp (A := A) (show RdAt w A R st out from ⟨part, bodies, size, hb, hTp, hTb, hsz, hP⟩) fun b _ h => .inl h⟩)
  have HE := Lib.hid hE
  clear hb hTp hTb hsz hP hE
  go_enter Tryd.func21, Tryd.ntmps21
  go_wp2_with fail
  refine hm.mono ?_
  rintro e w' ⟨rfl, rfl⟩
  clear hm
  go_wp2_with fail
  go_loopw [1] (fun v wr => ∃ j, j ≤ l.length ∧ Hid (FdAt A R l (st, out) j w wr) ∧ Hid (RestIs g off cap l j v)) (fun v _ => slLen v)
  case atStart => exact ⟨0, Nat.zero_le _, H0, Lib.hid ⟨off, .inr ⟨rfl, fun _ => rfl⟩⟩⟩
  case round =>
    obtain ⟨j, hj, HF, HRe⟩ := hrel
    by_cases hlt : j < l.length
    · have HS := Lib.hid (slLen_rest HRe.out)
      obtain ⟨o2, ⟨-, hbad⟩ | ⟨rfl, ho2⟩⟩ := HRe.out
      · omega
      have ho2 := ho2 hlt
      subst ho2
      have hlne : l ≠ [] := fun e => by subst e; simp at hlt
      have hdl : (l.drop j).length = l.length - j := List.length_drop
      have hA8r := (hA8.keep HF.out.1 hg).drop j
      have hgl := hA8.lt hlne
      have hgr : ¬ Grow A w g := fun h => by rcases h with h | h; exact hg hlne h; omega
      have hok := run_ok (st, out) (l.take j) hst
      have hlo := run_len2 st out (l.take j)
      have hlt2 : (l.take j).length ≤ 1000000000 := by rw [List.length_take]; omega
      have HEr := Lib.hid (HE.out.alt HF.out.1)
      have HN := Lib.hid (fun e w1 (h : ReadSome (Grow A w) R g (off + j) (cap - j) (l.drop j) (run (st, out) (l.take j)) wr e w1) => fd_next hlt HF.out h)
      obtain ⟨-, hRr⟩ := HF.out
      generalize run (st, out) (l.take j) = x at *
      obtain ⟨xs, xo⟩ := x
      have hnz : ((l.length - j : Nat) : Int) > 0 := by omega
      have hnz2 : 0 < l.length - j := by omega
      clear hst hal HRe H0 c5 hA8 hg
      cases xs with
      | head p =>
        have hc := readHead_any hBS R g (off + j) (cap - j) p (l.drop j) xo (Grow A w) wr hRr hok (by omega) (by omega) (by omega) (by simp only at hlo; omega) hA8r hgr HEr.out
        rw [hdl] at hc
        obtain ⟨_, _, _, hb, _, _, _, _⟩ := hRr
        obtain ⟨-, c1, -, -, -, -⟩ := hb.cells
        clear hb hlo hok hA8r
        simp only [fnOf] at c1
        go_wp2_with fail
        refine hc.mono ?_
        rintro e w1 hr
        obtain ⟨v', k, rfl, hk0, hk1, hre, hfd⟩ := HN.out _ _ hr
        have HR2 := Lib.hid hre
        have HF2 := Lib.hid hfd
        have HS2 := Lib.hid (slLen_rest hre)
        clear hr hre hfd hc c1
        go_wp2_with fail
        go_roundw
        case rel => exact ⟨j + k, hk1, HF2, HR2⟩
        case measure => rw [HS2.out]; show _ < l.length - j; omega
      | body n p =>
        have hc := readBody_some R n g (off + j) (cap - j) p (l.drop j) xo (Grow A w) wr hRr hok.1 hok.2 (by omega) (by omega) (by simp only at hlo; omega) hA8r
        rw [hdl] at hc
        obtain ⟨_, _, _, hb, _, _, _, _⟩ := hRr
        obtain ⟨-, c1, -, -, -, -⟩ := hb.cells
        clear hb hlo hok hA8r
        simp only [fnOf] at c1
        go_wp2_with fail
        refine hc.mono ?_
        rintro e w1 hr
        obtain ⟨v', k, rfl, hk0, hk1, hre, hfd⟩ := HN.out _ _ hr
        have HR2 := Lib.hid hre
        have HF2 := Lib.hid hfd
        have HS2 := Lib.hid (slLen_rest hre)
        clear hr hre hfd hc c1
        go_wp2_with fail
        go_roundw
        case rel => exact ⟨j + k, hk1, HF2, HR2⟩
        case measure => rw [HS2.out]; show _ < l.length - j; omega
      | dead E =>
        have hc := fun v => ignore_some R g (off + j) (cap - j) E (l.drop j) xo (Grow A w) wr hRr v
        obtain ⟨_, _, _, hb, _, _, _, _⟩ := hRr
        obtain ⟨-, c1, -, -, -, -⟩ := hb.cells
        clear hb hlo hok hA8r
        simp only [fnOf] at c1
        go_wp2_with fail
        refine (hc _).mono ?_
        rintro e w1 hr
        obtain ⟨v', k, rfl, hk0, hk1, hre, hfd⟩ := HN.out _ _ hr
        have HR2 := Lib.hid hre
        have HF2 := Lib.hid hfd
        have HS2 := Lib.hid (slLen_rest hre)
        clear hr hre hfd hc c1
        go_wp2_with fail
        go_roundw
        case rel => exact ⟨j + k, hk1, HF2, HR2⟩
        case measure => rw [HS2.out]; show _ < l.length - j; omega
    · obtain rfl : j = l.length := by omega
      obtain ⟨hA, hRr⟩ := HF.out
      rw [List.take_length] at hRr
      have HX := Lib.hid (And.intro hA hRr)
      obtain ⟨_, _, _, hb, _, _, _, _⟩ := hRr
      obtain ⟨-, -, -, -, -, d5⟩ := hb.cells
      have hz0 : l.length - l.length = 0 := Nat.sub_self _
      obtain ⟨o2, ⟨rfl, -⟩ | ⟨rfl, -⟩⟩ := HRe.out
      all_goals
        clear hb hA c5 hA8 HRe
        try rw [hz0]
        go_wp2_with fail
        go_ret
        exact ⟨rfl, HX.out⟩
end Go.Proofs.YtmaclplhphfkiaaDoor
