/- Of relex: sure. Conditions: a text that is not too long. -/
import Derived.Test.YtglanajglhneeaaMX35
namespace Go.Proofs
open Go Go.RowKit Go.Lib
namespace Ytglanajglhneeaa
/-- a text's tokens, read -/
theorem rdT_toks {s : ByteArray} {w w' : World} {v : Value} (hs : s.size ≤ 1000000000000) (hown : w'.ownsRow w.heap.size 24 3 v (D.toks s).length (tksCells (D.toks s))) : RdT w' v ((D.toks s).map D.Tk.i) :=
  rdT_own hown (by have := D.toks_len s; omega) (fun t ht => by have := D.tkF_mem s s.size 0 t ht; omega)
/-- a slice in blocks from a number on -/
def FreshS (n : Nat) (v : Value) : Prop := ∀ b, v.ownBlock = some b → n ≤ b
theorem ownsRow_fresh {w : World} {b : Nat} {e : TypeId} {size n : Nat} {v : Value} {xs : List Value} (h : w.ownsRow b e size v n xs) : FreshS b v := fun k hk => (h.lt k hk).1
theorem freshS_cut {n k c k' c' : Nat} {z : Option Addr} (h : FreshS n (.slice z k c)) : FreshS n (.slice z k' c') := fun b hb => h b (by cases z <;> exact hb)
theorem RdT.keep {W W' : World} {lo : Nat} {v : Value} {ts : List TkI} (h : RdT W v ts) (hF : FreshS lo v) (hk : ∀ b, lo ≤ b → b < W.heap.size → W'.heap[b]? = W.heap[b]?) (hsz : W.heap.size ≤ W'.heap.size) : RdT W' v ts := by
  obtain ⟨z, cap, rfl, h1, h2, h3, h4, h5⟩ := h
  refine ⟨z, cap, rfl, h1, h2, h3, h4, fun j t hj => ?_⟩
  obtain ⟨b, o, rfl, hb, c0, c1, c2⟩ := h5 j t hj
  have e := hk b (hF b rfl) hb
  have e2 : ∀ i, W'.cell? ⟨b, i, none⟩ = W.cell? ⟨b, i, none⟩ := fun i => by unfold World.cell?; simp only [e]
  exact ⟨b, o, rfl, Nat.lt_of_lt_of_le hb hsz, (e2 _).trans c0, (e2 _).trans c1, (e2 _).trans c2⟩
def SureIs (r : ByteArray) (z : Nat) (w : World) (e : Ending) (w' : World) : Prop := ∃ v n, e = .returned v ∧ n ≤ (D.toks r).length ∧ RdT w' v (((D.toks r).take n).map D.Tk.i) ∧ (r.size ≤ z → n = (D.toks r).length) ∧ FreshS w.heap.size v ∧ Below w.heap.size w w'
set_option maxHeartbeats 2000000 in
set_option maxRecDepth 100000 in
theorem sure_any (r : ByteArray) (z : Nat) (hr : r.size ≤ 20000) (hz : z ≤ 1000000) (w : World) : Calls Try.prog 61 #[.string r, .int .i64 z] w (SureIs r z w) := by
  by_cases hle : r.size ≤ z
  · have j1 : (r.size : Int) ≤ (z : Int) := by omega
    have HA := Lib.hid (fun W => all_any r W (by omega))
    have HL := Lib.hid hle
    clear hle
    go_enter Try.func61, Try.ntmps61
    go_wp2_with fail
    refine (HA.out _).mono ?_
    rintro e w1 ⟨v, rfl, hown, _, hB⟩
    have H1 := Lib.hid (And.intro (rdT_toks (by omega) hown) (And.intro (ownsRow_fresh hown) hB))
    clear hown hB
    go_wp2_with fail
    go_ret
    exact ⟨_, _, rfl, Nat.le_refl _, by rw [List.take_length]; exact H1.out.1, fun _ => rfl, H1.out.2.1, H1.out.2.2⟩
  · have j1 : ¬ (r.size : Int) ≤ (z : Int) := by omega
    have j2 : z ≤ r.size := by omega
    have hzz : (r.extract 0 z).size = z := by rw [ByteArray.size_extract]; omega
    have HA := Lib.hid (fun W => all_any (r.extract 0 z) W (by omega))
    have HF := Lib.hid (D.toks_fine (r.extract 0 z) (by omega))
    have HS := Lib.hid (fun n (h : D.Wi (D.toks (r.extract 0 z)) z n) => D.sure_of j2 h)
    have HL := Lib.hid hle
    have HZ := Lib.hid hzz
    clear hle hzz
    go_enter Try.func61, Try.ntmps61
    go_wp2_with fail
    refine (HA.out _).mono ?_
    rintro e w1 ⟨v, rfl, hown, _, hB⟩
    have hrd := rdT_toks (by have := HZ.out; omega) hown
    have HW := Lib.hid (fun W (hW : Below w1.heap.size w1 W) => within_any v (D.toks (r.extract 0 z)) z hz W (hrd.below hW) HF.out)
    have H1 := Lib.hid (And.intro hrd hB)
    have HFr := Lib.hid (ownsRow_fresh hown)
    obtain ⟨zz, cap, rfl, hlc, hcap, hlen, _, _⟩ := hrd
    rw [List.length_map] at *
    clear hown hB
    generalize D.toks (r.extract 0 z) = ts at *
    go_wp2_with fail
    refine (HW.out _ (Below.refl _ _)).mono ?_
    rintro e w2 ⟨n, hn, rfl, hB2⟩
    have hs := HS.out n hn
    have hn1 := hn.1
    have H2 := Lib.hid (And.intro hs (And.intro (H1.out.1.below hB2) (H1.out.2.trans (hB2.mono H1.out.2.size))))
    have k0 : (0 : Int) ≤ (n : Int) := Int.natCast_nonneg n
    have k1 : (n : Int) ≤ (cap : Int) := by omega
    have k2 : n ≤ cap := by omega
    clear hn hs hB2
    go_wp2_with fail
    go_ret
    refine ⟨_, n, rfl, H2.out.1.2, ?_, fun h => absurd h HL.out, freshS_cut HFr.out, H2.out.2.2⟩
    rw [← H2.out.1.1, List.map_take]
    exact H2.out.2.1.takes n (by omega)
end Ytglanajglhneeaa
end Go.Proofs
