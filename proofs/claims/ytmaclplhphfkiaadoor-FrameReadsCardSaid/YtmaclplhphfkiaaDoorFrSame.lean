/- Two lists of texts held against one another; all messages of a reader; bytes fed whatever the reader is at. Conditions: such lengths as memory bears. -/
import Derived.Test.YtmaclplhphfkiaaDoorFrNext
import Derived.Test.YtmaclplhphfkiaaDoorFrSize
namespace Go.Proofs.YtmaclplhphfkiaaDoor
open Go Go.RowKit Go.Lib F

/-- a slice reads as these texts -/
def RdS (w : World) (v : Value) (xs : List Bs) : Prop := ∃ z cap, v = .slice z xs.length cap ∧ xs.length ≤ cap ∧ ∀ j x, xs[j]? = some x → ∃ g off, z = some ⟨g, off, none⟩ ∧ w.cell? ⟨g, off + j, none⟩ = some (.string (ba x))
theorem RdS.of_row {w : World} {base : Nat} {v : Value} {xs : List Bs} (h : w.ownsRow base 9 1 v xs.length (strs xs)) : RdS w v xs := by
  rcases h.2 with ⟨rfl, h0⟩ | ⟨g, cap, cur, rfl, _, hg, hn, hc, hcs, ht⟩
  · have : xs = [] := List.length_eq_zero_iff.1 h0
    subst this
    exact ⟨none, 0, rfl, Nat.le_refl _, fun j x hj => by simp at hj⟩
  · refine ⟨_, cap, rfl, hn, fun j x hj => ⟨g, 0, rfl, ?_⟩⟩
    have hl := (List.getElem?_eq_some_iff.1 hj).1
    rw [Nat.zero_add, World.ownsRow.cellAt h j (by omega)]
    unfold strs
    rw [List.getElem?_map, hj]; rfl
theorem RdS.alt {A : Nat → Prop} {w w' : World} {v : Value} {xs : List Bs} (h : RdS w v xs) (hA : Alt A w w') (hv : ∀ b, v.ownBlock = some b → ¬ A b) : RdS w' v xs := by
  obtain ⟨z, cap, rfl, hc, h⟩ := h
  refine ⟨z, cap, rfl, hc, fun j x hj => ?_⟩
  obtain ⟨g, off, rfl, hcell⟩ := h j x hj
  exact ⟨g, off, rfl, cell_block hcell (hA.block _ (World.block_lt_of_cell? w _ hcell) (hv g rfl))⟩
theorem RdS.drewN {w : World} {v : Value} {xs : List Bs} (h : RdS w v xs) (q : Nat) : RdS (w.drewN q) v xs := h
theorem ba_beq' (x y : Bs) : ((ba x).toList == (ba y).toList) = decide (x = y) := by
  rw [ByteArray.toList_eq, ByteArray.toList_eq]
  show (x == y) = _
  by_cases h : x = y
  · rw [h]; simp
  · rw [beq_eq_false_iff_ne.2 h, decide_eq_false h]
/-- the same, or not; nothing has changed -/
def SameOut (b : Bool) (w : World) (e : Ending) (w' : World) : Prop := e = .returned (.bool b) ∧ ∃ q, w' = w.drewN q
set_option maxRecDepth 100000 in
set_option maxHeartbeats 1000000 in
theorem same_any (u v : Value) (xs ys : List Bs) (w : World) (hx : RdS w u xs) (hy : RdS w v ys) (hl : xs.length ≤ 1000000000) :
    Calls Tryd.prog 29 #[u, v] w (SameOut (decide (xs = ys)) w) := by
  obtain ⟨z1, c1, rfl, hc1, hx⟩ := hx
  obtain ⟨z2, c2, rfl, hc2, hy⟩ := hy
  by_cases hlen : xs.length = ys.length
  · rw [← hlen] at hc2 ⊢
    go_enter Tryd.func29, Tryd.ntmps29
    go_wp2_with fail
    go_loopw [5] (fun i wr => ∃ k q : Nat, k ≤ xs.length ∧ i = .int .i64 k ∧ wr = w.drewN q ∧ Hid (xs.take k = ys.take k)) (fun i _ => xs.length - (RowKit.intOf i).toNat)
    case atStart => exact ⟨0, 0, Nat.zero_le _, rfl, rfl, Lib.hid rfl⟩
    case round =>
      obtain ⟨k, q, hk, rfl, rfl, HT⟩ := hrel
      by_cases hlt : k < xs.length
      · have hx1 := List.getElem?_eq_getElem hlt
        have hy1 := List.getElem?_eq_getElem (show k < ys.length by omega)
        obtain ⟨g1, o1, rfl, d1⟩ := hx k _ hx1
        obtain ⟨g2, o2, rfl, d2⟩ := hy k _ hy1
        have hb := ba_beq' (xs[k]'hlt) (ys[k]'(by omega))
        have d1' : (w.drewN q).cell? ⟨g1, o1 + k, none⟩ = _ := d1
        have d2' : (w.drewN q).cell? ⟨g2, o2 + k, none⟩ = _ := d2
        have HS := Lib.hid (And.intro hx1 hy1)
        by_cases heq : xs[k]'hlt = ys[k]'(by omega)
        · rw [decide_eq_true heq] at hb
          have HT2 := Lib.hid (show xs.take (k + 1) = ys.take (k + 1) by rw [List.take_add_one, List.take_add_one, HT.out, hx1, hy1, heq])
          clear hx1 hy1 heq
          generalize xs[k]'hlt = a at *
          generalize ys[k]'(by omega) = b at *
          go_wp2_with fail
          go_quiet (fail)
          go_wp2_with fail
          go_roundw
          case rel => exact ⟨k + 1, _, hlt, by go_num, rfl, HT2⟩
          case measure => simp [RowKit.intOf]; omega
        · rw [decide_eq_false heq] at hb
          have HN := Lib.hid (show decide (xs = ys) = false from decide_eq_false fun e => by subst e; exact heq rfl)
          clear hx1 hy1 heq
          generalize xs[k]'hlt = a at *
          generalize ys[k]'(by omega) = b at *
          go_wp2_with fail
          go_quiet (fail)
          go_wp2_with fail
          go_ret
          exact ⟨by rw [HN.out]; rfl, q + nq, by simp [World.drewN, Nat.add_assoc]⟩
      · have HT2 := Lib.hid (show decide (xs = ys) = true from decide_eq_true (by
          have h := HT.out
          rw [List.take_of_length_le (by omega), List.take_of_length_le (by omega)] at h; exact h))
        go_wp2_with fail
        go_ret
        exact ⟨by rw [HT2.out]; rfl, _, rfl⟩
  · have hne : decide (xs = ys) = false := decide_eq_false fun e => hlen (by rw [e])
    have h1 : ((xs.length : Int) != (ys.length : Int)) = true := by simp; omega
    go_enter Tryd.func29, Tryd.ntmps29
    go_wp2_with fail
    go_ret
    exact ⟨by rw [hne]; rfl, 0, rfl⟩
/-- bytes are fed, whatever the reader is at -/
def FedOut (A : Nat → Prop) (R : Nat) (x : Rs) (w : World) (e : Ending) (w' : World) : Prop :=
  (∃ v, e = .returned (.int .i64 v)) ∧ Alt A w w' ∧ RdAt w' (Grow A w) R x.1 x.2
theorem feed_gen (R g off cap : Nat) (st : St) (l : Bs) (out : List Bs) (A : Nat → Prop) (w : World) (hR : RdAt w A R st out) (hst : st.ok) (hl : l.length ≤ cap) (hcap : cap ≤ 9223372036854775807) (hl2 : l.length ≤ 1000000000)
    (ho : out.length ≤ 100000000000) (hA8 : At8 w g off l) (hg : l ≠ [] → ¬ A g) (hE : Env A w) :
    Calls Tryd.prog 21 #[.pointer (some ⟨R, 0, none⟩), .slice (some ⟨g, off, none⟩) l.length cap] w (FedOut A R (run (st, out) l) w) := by
  have alive : ∀ st : St, st.ok → RdAt w A R st out → st.err = 0 → Calls Tryd.prog 21 #[.pointer (some ⟨R, 0, none⟩), .slice (some ⟨g, off, none⟩) l.length cap] w (FedOut A R (run (st, out) l) w) := fun st h1 h2 h3 =>
    (feed_any bsOk R g off cap st l out A w h2 h1 h3 hl hcap hl2 ho hA8 hg hE).mono fun e w' h => ⟨⟨_, h.1⟩, h.2⟩
  cases st with
  | head p => exact alive _ hst hR rfl
  | body n p => exact alive _ hst hR rfl
  | dead E =>
    have hE0 : E ≠ 0 := by rcases hst with h | h <;> omega
    refine (feed_dead R E _ out A w hR hE0).mono fun e w' h => ?_
    obtain ⟨he, rfl⟩ := h
    refine ⟨⟨_, he⟩, Alt.refl _ _, ?_⟩
    rw [run_dead]
    exact hR.imp fun b _ h => .inl h
/-- all messages, in a list of one's own -/
def HeardOut (A : Nat → Prop) (R : Nat) (st : St) (out : List Bs) (w : World) (e : Ending) (w' : World) : Prop :=
  ∃ v, e = .returned v ∧ w'.ownsRow w.heap.size 9 1 v out.length (strs out) ∧ Alt A w w' ∧ RdAt w' A R st []
theorem row_alt {A : Nat → Prop} {w w' : World} {base : Nat} {e : TypeId} {v : Value} {k : Nat} {xs : List Value} (h : w.ownsRow base e 1 v k xs) (hA : Alt A w w') (hb : ∀ b, b < w.heap.size → A b → b < base) : w'.ownsRow base e 1 v k xs := by
  rcases h with ⟨hl, ⟨rfl, h0⟩ | ⟨g, cap, cur, rfl, hbg, hg, rest⟩⟩
  · exact ⟨hl, .inl ⟨rfl, h0⟩⟩
  · have hlt := (Array.getElem?_eq_some_iff.1 hg).1
    exact ⟨hl, .inr ⟨g, cap, cur, rfl, hbg, (hA.block g hlt (fun ha => by have := hb g hlt ha; omega)).trans hg, rest⟩⟩
/-- where the loop over the messages stands -/
def HrAt (A : Nat → Prop) (R : Nat) (st : St) (out : List Bs) (k : Nat) (v : Value) (w wr : World) : Prop :=
  wr.ownsRow w.heap.size 9 1 v k (strs (out.take k)) ∧ Alt A w wr ∧ RdAt wr (fun b => A b ∧ b < w.heap.size) R st (out.drop k)
set_option maxRecDepth 100000 in
set_option maxHeartbeats 1000000 in
theorem heard_any (R : Nat) (st : St) (out : List Bs) (A : Nat → Prop) (w : World) (hR : RdAt w A R st out) (ho : out.length ≤ 100000000) :
    Calls Tryd.prog 28 #[.pointer (some ⟨R, 0, none⟩)] w (HeardOut A R st out w) := by
  obtain ⟨iS, hiS, hzS0, hzS1, hzS2⟩ := info_parts fS
  have H0 := Lib.hid (show HrAt A R st out 0 (.slice none 0 0) w w from ⟨World.ownsRow_nil _ _ _ _, Alt.refl _ _, hR.imp fun b hb ha => ⟨ha, hb⟩⟩)
  go_enter Tryd.func28, Tryd.ntmps28
  go_wp2_with fail
  go_loopw [3] (fun p wr => ∃ k v, v = p ∧ k ≤ out.length ∧ Hid (HrAt A R st out k v w wr)) (fun v _ => out.length - slLen v)
  case atStart => exact ⟨0, _, rfl, Nat.zero_le _, H0⟩
  case round =>
    obtain ⟨k, v, rfl, hk, HK⟩ := hrel
    obtain ⟨hrow, hA, hRr⟩ := HK.out
    by_cases hlt : k < out.length
    · rw [List.drop_eq_getElem_cons hlt] at hRr
      have hn := next_some R st (out[k]) (out.drop (k + 1)) _ wr hRr (by rw [List.length_drop]; omega)
      have hlk : slLen v = k := by
        rcases hrow.2 with ⟨rfl, h0⟩ | ⟨g, cap, cur, rfl, _⟩
        · exact h0.symm
        · rfl
      have HT := Lib.hid (show out.take (k + 1) = out.take k ++ [out[k]] by rw [List.take_add_one, List.getElem?_eq_getElem hlt]; rfl)
      have HL := Lib.hid hlk
      clear hlk hRr H0 hR
      generalize out[k] = b at *
      have hsz := hA.size
      clear hA hrow
      go_wp2_with fail
      refine hn.mono ?_
      rintro e w1 ⟨rfl, hA1, hR1, hs1⟩
      have hrow1 := row_alt HK.out.1 hA1 (fun b hb ha => ha.2)
      have HB1 := Lib.hid (And.intro (HK.out.2.1.trans (hA1.imp (fun b _ hb => .inl hb.1))) hR1)
      have hnew := heap_alloc_new w1 (.cells #[.string (ba b)] 9)
      rw [hs1] at hnew
      have HN := Lib.hid hnew
      clear hnew hA1 hR1 hn
      go_wp2_with (at_builtin; refine wpList_append_own _ rfl _ _ 46 rfl w.heap.size 9 iS _ 1 16 Tryd.underlying46 hiS hzS0 hzS1 hzS2 rfl (by decide) v k (strs (out.take k)) rfl (hrow1.alloc _) ⟨wr.heap.size, 0, none⟩ 1 1 [.string (ba b)] rfl rfl ?n1 ?n2 ?n3 ?n4 ?n5 ?_)
      case n1 => intro j u hj; exact World.news_of_block (cs := #[.string (ba b)]) (t := 9) (fr := (0, 0)) HN.out j u hj
      case n2 => intro u hu; rw [List.mem_singleton.1 hu]; rfl
      case n3 => unfold maxLen; omega
      case n4 => omega
      case n5 => rw [World.size_alloc]; omega
      intro v' w2 hown2 hgrow2 _
      have hl2 : slLen v' = k + 1 := by
        obtain ⟨g', cap', rfl⟩ := ownsRow_succ hown2
        rfl
      have HF := Lib.hid (show HrAt A R st out (k + 1) v' w w2 from by
        refine ⟨?_, ?_, ?_⟩
        · rw [HT.out, strs_append]; exact hown2
        · exact HB1.out.1.trans ((Alt.alloc _ _ _).trans (Alt.grown hgrow2 (fun c hc _ => .inl (.inr (hrow1.lt c hc).1))))
        · exact (HB1.out.2.other (B := fun b => w.heap.size ≤ b) ((Alt.alloc _ _ _).then (Alt.grown hgrow2 (fun c hc _ => (hrow1.lt c hc).1))) (fun c _ hc => by have := hc.2; omega)))
      clear hrow1 hown2 hgrow2 HN
      go_wp2_with fail
      go_roundw
      case rel => exact ⟨k + 1, _, rfl, hlt, HF⟩
      case measure => rw [hl2, HL.out]; omega
    · obtain rfl : k = out.length := by omega
      rw [List.drop_length] at hRr
      have hn := next_none R st _ wr hRr
      have HF := Lib.hid (show HeardOut A R st out w (.returned v) wr from ⟨v, rfl, by rw [List.take_length] at hrow; exact hrow, hA, hRr.imp fun b _ h => h.1⟩)
      clear hrow hA hRr HK H0 hR
      go_wp2_with fail
      refine hn.mono ?_
      rintro e w1 ⟨rfl, rfl⟩
      go_wp2_with fail
      go_ret
      exact HF.out
end Go.Proofs.YtmaclplhphfkiaaDoor
