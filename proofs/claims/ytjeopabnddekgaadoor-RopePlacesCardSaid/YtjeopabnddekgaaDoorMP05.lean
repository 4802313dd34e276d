/- A rope's lines and places: what each call answers. Conditions: a text of at most 16384 bytes; the library's tables. -/
import Derived.Test.YtjeopabnddekgaaDoorMP04
import Derived.Test.YtjeopabnddekgaaDoorME39
namespace Go.Proofs.YtjeopabnddekgaaDoor
open Go Go.RowKit Go.Lib

theorem pl_line {x : ByteArray} {k : Nat} (hk : k < L.mny x) : ofs x (k : Nat) 0 = L.fr x k ∧ posL x (L.fr x k) = k ∧ posC x (L.fr x k) = 0 ∧ U.bga x (L.fr x k : Nat) = L.fr x k := by
  have e : ((k : Nat) : Int).toNat = k := by omega
  have h0 : ofs x (k : Nat) 0 = L.fr x k := by
    unfold ofs
    rw [e, if_pos hk, cut_zero']
    rfl
  obtain ⟨h1, h2, h3, h4⟩ := ofs_line x (k : Nat) 0 (by rw [e]; exact hk)
  rw [h0, e] at h3
  rw [h0] at h4
  exact ⟨h0, h3, by omega, bga_at (L.at_fr _ hk).1 (L.fr_le hk)⟩
theorem pl_next {x : ByteArray} {k : Nat} (hk : k + 1 < L.mny x) : L.fr x k < L.fr x (k + 1) := by
  have h1 := (L.fr_up hk).1
  have h2 := L.to_ge (s := x) (j := k) (by omega)
  omega
structure PlC (v : Value) (x : ByteArray) (K : Nat) (W : World) : Prop where
  brk : Calls Tryd.prog 26 #[v] W (IntR K W)
  len : Calls Tryd.prog 25 #[v] W (IntR x.size W)
  st : ∀ k, k ≤ K → Calls Tryd.prog 18 #[v, .int .i64 (k : Nat)] W (StartR (L.fr x k, true) W)
  stE : Calls Tryd.prog 18 #[v, .int .i64 ((K : Nat) + 1)] W (StartR (0, false) W)
  off : ∀ k, k ≤ K → Calls Tryd.prog 20 #[v, .agg #[.int .i64 (k : Nat), .int .i64 0]] W (IntR (L.fr x k) W)
  pos : ∀ k, k ≤ K → Calls Tryd.prog 22 #[v, .int .i64 (L.fr x k : Nat)] W (fun e w' => e = .returned (.agg #[.int .i64 (k : Nat), .int .i64 0]) ∧ Below W.heap.size W w')
  offP : ∀ l c, I64 l → I64 c → Calls Tryd.prog 20 #[v, .agg #[.int .i64 l, .int .i64 c]] W (IntR (ofs x l c) W)
  posP : ∀ l c, Calls Tryd.prog 22 #[v, .int .i64 (ofs x l c : Nat)] W (fun e w' => e = .returned (.agg #[.int .i64 (posL x (ofs x l c) : Nat), .int .i64 (posC x (ofs x l c) : Nat)]) ∧ Below W.heap.size W w')
  offQ : ∀ l c, Calls Tryd.prog 20 #[v, .agg #[.int .i64 (posL x (ofs x l c) : Nat), .int .i64 (posC x (ofs x l c) : Nat)]] W (IntR (ofs x l c) W)
theorem posC_le (x : ByteArray) (b : Nat) : posC x b ≤ x.size := by
  unfold posC
  have h := R.cn_le (x.extract (L.fr x (L.ln x b)) (min b (L.to x (L.ln x b))))
  have h2 : (x.extract (L.fr x (L.ln x b)) (min b (L.to x (L.ln x b)))).size ≤ x.size := by rw [ByteArray.size_extract]; omega
  rw [cnu9] at h
  omega
theorem pl_calls {v : Value} {t : R.T} {W : World} (h : RopeAt W v t) (hs : t.tx.size ≤ 16384) (hT : Tabs W) {K : Nat} (hK : L.mny t.tx = K + 1) : PlC v t.tx K W := by
  have hfit : t.Fit := by obtain ⟨b, rv, rfl, hb, hn, ht⟩ := h; exact ht
  have hv := hfit.valid
  have hmny := L.mny_le t.tx
  have hof : ∀ l c, I64 l → I64 c → Calls Tryd.prog 20 #[v, .agg #[.int .i64 l, .int .i64 c]] W (IntR (ofs t.tx l c) W) := fun l c hl hc => by
    have k1 := offset_any l c v t W h (by omega) hl hc
    rw [Ed.offX_is t hfit, offX_ofs hv] at k1
    exact k1
  have hps : ∀ b, U.At t.tx b → b ≤ t.tx.size → Calls Tryd.prog 22 #[v, .int .i64 (b : Nat)] W (Pos9Is t.tx b W) := fun b hb hl => by
    have k1 := pos9_any (b : Nat) v t W h (by omega) ⟨by omega, by omega⟩ hT
    rw [bga_at hb hl] at k1
    exact k1
  refine ⟨?_, len_any v t W h, ?_, ?_, ?_, ?_, hof, ?_, ?_⟩
  · have k1 := breaks_any v t W h
    rw [show (R.cn t.tx).k = K from by show L.mny t.tx - 1 = K; omega] at k1
    exact k1
  · intro k hk
    have k1 := start_any (k : Nat) v t W h (by omega) ⟨by omega, by omega⟩
    rw [R.start_spec t hfit, if_pos ⟨by omega, by omega⟩, show ((k : Nat) : Int).toNat = k by omega] at k1
    exact k1
  · have k1 := start_any ((K : Nat) + 1) v t W h (by omega) ⟨by omega, by omega⟩
    rw [R.start_spec t hfit, if_neg (by omega)] at k1
    exact k1
  · intro k hk
    have k1 := hof (k : Nat) 0 ⟨by omega, by omega⟩ ⟨by omega, by omega⟩
    rw [(pl_line (x := t.tx) (k := k) (by omega)).1] at k1
    exact k1
  · intro k hk
    have hk' : k < L.mny t.tx := by omega
    have k1 := hps (L.fr t.tx k) (L.at_fr _ hk').1 (L.fr_le hk')
    unfold Pos9Is at k1
    rw [(pl_line hk').2.1, (pl_line hk').2.2.1] at k1
    exact k1
  · intro l c
    exact hps _ (ofs_at t.tx l c).1 (ofs_at t.tx l c).2
  · intro l c
    have h1 : posL t.tx (ofs t.tx l c) < L.mny t.tx := L.ln_lt _ _
    have h2 := posC_le t.tx (ofs t.tx l c)
    have k1 := hof (posL t.tx (ofs t.tx l c) : Nat) (posC t.tx (ofs t.tx l c) : Nat) ⟨by omega, by omega⟩ ⟨by omega, by omega⟩
    rw [ofs_ofs] at k1
    exact k1
theorem PlC.all {v : Value} {t : R.T} {w : World} (h : RopeAt w v t) (hs : t.tx.size ≤ 16384) (hT : Tabs w) {K : Nat} (hK : L.mny t.tx = K + 1) (W : World) (hB : Below w.heap.size w W) : PlC v t.tx K W := pl_calls (h.below hB) hs (tabs_below hT hB) hK
end Go.Proofs.YtjeopabnddekgaaDoor
