/- An object with a field more, the document's way. Conditions: at most 1000 fields; such as Go can hold. -/
import Derived.Test.YtdgmbmoaeoakpaaDoorMC20
import Derived.Deep.RegionLawGrows
namespace Go.Proofs.YtdgmbmoaeoakpaaDoor
open Go Go.RowKit Go.Lib

/-- a field behind a row of them -/
def appT : V.T → ByteArray → Nat → ByteArray → V.T → V.T → V.T
  | .nil, nm, k, x, l, f => .cons nm k x l f .nil
  | .cons a b c d e tl, nm, k, x, l, f => .cons a b c d e (appT tl nm k x l f)
theorem treeOf_app : ∀ (es : List Fe) (e : Fe), treeOf (es ++ [e]) = appT (treeOf es) e.nm e.k e.x e.l e.f
  | [], _ => rfl
  | d :: r, e => by show V.T.cons _ _ _ _ _ (treeOf (r ++ [e])) = V.T.cons _ _ _ _ _ (appT (treeOf r) _ _ _ _ _); rw [treeOf_app r e]
/-- a row of fields, field by field -/
theorem hr_fes {w : World} {A : Nat → Prop} {b : Nat} : ∀ (f : V.T) (o : Nat), HR w A 1 b o f → ∃ es : List Fe, treeOf es = f ∧ (∀ e ∈ es, e.Ok w A) ∧ ∀ j u, (cellsOf es)[j]? = some u → w.cell? ⟨b, o + j, none⟩ = some u
  | .nil, _, _ => ⟨[], rfl, (fun e he => by cases he), fun j u hu => by simp [cellsOf] at hu⟩
  | .cons nm k x l f tl, o, h => by
    obtain ⟨_, _, h3, h4, h5, ⟨v, h6, h7⟩, ⟨u, h8, h9⟩, h10, h11⟩ := h
    obtain ⟨es, e1, e2, e3⟩ := hr_fes tl (o + 5) h11
    refine ⟨⟨nm, k, x, v, u, l, f⟩ :: es, by rw [← e1]; rfl, fun e he => ?_, fun j y hy => ?_⟩
    · rcases List.mem_cons.1 he with rfl | he
      · exact ⟨h7, h9, h10⟩
      · exact e2 e he
    · match j, hy with
      | 0, hy => cases hy; exact h3 rfl
      | 1, hy => cases hy; exact h4
      | 2, hy => cases hy; exact h5
      | 3, hy => cases hy; exact h6
      | 4, hy => cases hy; exact h8
      | j + 5, hy =>
        have := e3 j y hy
        rw [show o + (j + 5) = o + 5 + j by omega]
        exact this
theorem hs_fes {w : World} {A : Nat → Prop} {v : Value} {f : V.T} (h : HS w A 1 v f) : (f = .nil ∧ ∃ p c, v = .slice p 0 c) ∨ ∃ b o c es, v = .slice (some ⟨b, o, none⟩) es.length c ∧ es ≠ [] ∧ treeOf es = f ∧ (∀ e ∈ es, e.Ok w A) ∧ ∀ j u, (cellsOf es)[j]? = some u → w.cell? ⟨b, o + j, none⟩ = some u := by
  rcases h with ⟨h1, h2⟩ | ⟨h2, a, c, h1, _⟩ | ⟨b, o, c, h1, h2, h3, h4⟩
  · exact .inl ⟨V.T.len_nil h2, _, _, h1⟩
  · exact .inl ⟨V.T.len_nil h2, _, _, h1⟩
  · obtain ⟨es, e1, e2, e3⟩ := hr_fes f o h4
    have hl : f.len = es.length := by rw [← e1, treeOf_len]
    cases es with
    | nil => left; rw [hl] at h1; exact ⟨e1.symm, _, _, h1⟩
    | cons d r => right; exact ⟨b, o, c, d :: r, by rw [h1, hl], by simp, e1, e2, e3⟩
/-- blocks of a kind, none frozen -/
def FrS (S : Nat → Prop) (W : World) (b : Nat) : Prop := S b ∧ ∀ j, W.frozen? ⟨b, j, none⟩ = false
theorem FrS.imp {S S' : Nat → Prop} {w w' : World} {b : Nat} (h : FrS S w b) (hl : S' b) (hk : w'.heap[b]? = w.heap[b]?) : FrS S' w' b := ⟨hl, fun j => (World.frozen?_of_block (w := w) (w' := w') (a := ⟨b, j, none⟩) hk).trans (h.2 j)⟩
theorem HS.frS {w w' : World} {S : Nat → Prop} {d : Nat} {v : Value} {t : V.T} (h : HS w (FrS S w) d v t) (hB : Below w.heap.size w w') : HS w' (FrS S w') d v t :=
  h.imp (fun b hb hlt => hb.imp hb.1 (hB.block b hlt)) (fun b _ hlt => hB.block b hlt)
/-- a value in such blocks -/
def VS (S : Nat → Prop) (k : Nat) (x : ByteArray) (l f : V.T) (y : Value) (W : World) : Prop := ∃ p n c q m d, y = .agg #[.int .u8 k, .string x, .slice p n c, .slice q m d] ∧ HS W (FrS S W) 0 (.slice p n c) l ∧ HS W (FrS S W) 1 (.slice q m d) f
theorem VS.on {S : Nat → Prop} {k : Nat} {x : ByteArray} {l f : V.T} {y : Value} {W W' : World} (h : VS S k x l f y W) (hB : Below W.heap.size W W') : VS S k x l f y W' := by
  obtain ⟨p, n, c, q, m, d, e, h1, h2⟩ := h
  exact ⟨p, n, c, q, m, d, e, h1.frS hB, h2.frS hB⟩
theorem VS.mk {S : Nat → Prop} {k : Nat} {x : ByteArray} {l f : V.T} {v u : Value} {W : World} (hl : HS W (FrS S W) 0 v l) (hf : HS W (FrS S W) 1 u f) : VS S k x l f (.agg #[.int .u8 k, .string x, v, u]) W := by
  obtain ⟨p, c, rfl, -⟩ := hl.len
  obtain ⟨q, d, rfl, -⟩ := hf.len
  exact ⟨_, _, _, _, _, _, rfl, hl, hf⟩
theorem VS.mono {S S' : Nat → Prop} {k : Nat} {x : ByteArray} {l f : V.T} {y : Value} {W : World} (h : VS S k x l f y W) (hS : ∀ b, S b → b < W.heap.size → S' b) : VS S' k x l f y W := by
  obtain ⟨p, n, c, q, m, d, e, h1, h2⟩ := h
  exact ⟨p, n, c, q, m, d, e, h1.mono (fun b hb hlt => ⟨hS b hb.1 hlt, hb.2⟩), h2.mono (fun b hb hlt => ⟨hS b hb.1 hlt, hb.2⟩)⟩
def RetS (S : Nat → Prop) (k : Nat) (x : ByteArray) (l f : V.T) (w : World) (e : Ending) (w' : World) : Prop := ∃ y, e = .returned y ∧ VS S k x l f y w' ∧ Below w.heap.size w w'
theorem RetV.s {N k : Nat} {S : Nat → Prop} {x : ByteArray} {l f : V.T} {w w' : World} {e : Ending} (h : RetV N k x l f w e w') (hS : ∀ b, N ≤ b → S b) : RetS S k x l f w e w' := by
  obtain ⟨y, h1, ⟨p, n, c, q, m, d, e, h2, h3⟩, h4⟩ := h
  exact ⟨y, h1, ⟨p, n, c, q, m, d, e, h2.mono (fun b hb _ => ⟨hS b hb.1, hb.2⟩), h3.mono (fun b hb _ => ⟨hS b hb.1, hb.2⟩)⟩, h4⟩
/-- old memory that is the call's own -/
def AO (S : Nat → Prop) (M : Nat) (W : World) (b : Nat) : Prop := FrS S W b ∧ b < M
theorem AO.below {S : Nat → Prop} {M d : Nat} {v : Value} {t : V.T} {W W' : World} (h : HS W (AO S M W) d v t) (hB : Below M W W') : HS W' (AO S M W') d v t :=
  h.imp (fun b hb _ => ⟨hb.1.imp hb.1.1 (hB.block b hb.2), hb.2⟩) (fun b hb _ => hB.block b hb.2)
theorem Fe.Ok.ao {S : Nat → Prop} {M : Nat} {e : Fe} {W W' : World} (h : e.Ok W (AO S M W)) (hB : Below M W W') : e.Ok W' (AO S M W') := ⟨AO.below h.1 hB, AO.below h.2.1 hB, h.2.2⟩
/-- the fields copied, in memory of the call's own -/
def AF (S : Nat → Prop) (M n3 : Nat) (fa : V.T) (y : Value) (W : World) : Prop := (fa = .nil ∧ ∃ b, y = .slice (some ⟨b, 0, none⟩) 0 0) ∨ ∃ es, treeOf es = fa ∧ W.ownsRow n3 43 5 y es.length (cellsOf es) ∧ ∀ e ∈ es, e.Ok W (AO S M W)
theorem own_base {w : World} {b b' : Nat} {e : TypeId} {size n : Nat} {v : Value} {xs : List Value} (h : w.ownsRow b e size v n xs) (hb : b' ≤ b) : w.ownsRow b' e size v n xs := by
  refine ⟨h.1, ?_⟩
  rcases h.2 with h1 | ⟨g, cap, cur, h1, h2, h3⟩
  · exact .inl h1
  · exact .inr ⟨g, cap, cur, h1, Nat.le_trans hb h2, h3⟩
theorem AF.on {S : Nat → Prop} {M n3 : Nat} {fa : V.T} {y : Value} {W W' : World} (hM : M ≤ W.heap.size) (h : AF S M n3 fa y W) (hB : Below W.heap.size W W') : AF S M n3 fa y W' := by
  rcases h with h | ⟨es, h1, h2, h3⟩
  · exact .inl h
  · exact .inr ⟨es, h1, ownsRow_below h2 hB, fun e he => (h3 e he).ao (hB.mono hM)⟩
theorem slice_of_own {w : World} {b : Nat} {e : TypeId} {size n : Nat} {v : Value} {xs : List Value} (h : w.ownsRow b e size v (n + 1) xs) : ∃ g cap, v = .slice (some ⟨g, 0, none⟩) (n + 1) cap ∧ b ≤ g := by
  rcases h.2 with ⟨_, h1⟩ | ⟨g, cap, cur, h1, h2, _⟩
  · cases h1
  · exact ⟨g, cap, h1, h2⟩
/-- a field is appended to them -/
theorem af_append {S : Nat → Prop} {M n3 : Nat} {fa : V.T} {y : Value} {W : World} {ops : Array Oper} {o : Oper} {a : Act} {K : Act → World → Prop} {Q : Exit → Act → World → Prop} {E : Prop} (e : Fe) (hgd : o.guard = none) (s x : Operand) (ho : o.op = .call { callee := .builtin .append, args := #[s, x], argTypes := #[23, 23] })
    (hs : a.eval s = y) (h : AF S M n3 fa y W) (hlen : fa.len ≤ 1000) (hM : M ≤ n3) (hn3 : n3 ≤ W.heap.size) (b : Nat) (hx : a.eval x = .slice (some ⟨b, 0, none⟩) 1 1) (hnews : ∀ j u, (cellsOf [e])[j]? = some u → W.cell? ((⟨b, 0, none⟩ : Addr).add j) = some u) (h1 : ∀ u ∈ cellsOf [e], u.oneCell' = true)
    (hk : ∀ g cap w' es, treeOf es = fa → w'.ownsRow n3 43 5 (.slice (some ⟨g, 0, none⟩) (es.length + 1) cap) (es.length + 1) (cellsOf (es ++ [e])) → (∀ e ∈ es, e.Ok w' (AO S M w')) → Below n3 W w' → es.length ≤ 1000 → K (a.put o.dst (.slice (some ⟨g, 0, none⟩) (es.length + 1) cap)) w') :
    if Region.wanted o (yielded ops a.tmps) = true then Oper.wp Tryd.prog o a W K Q else E := by
  obtain ⟨i0, hi0, hz0, hz1, hz2⟩ := info_parts infoField
  rcases h with ⟨hf, b0, rfl⟩ | ⟨es, h2, h3, h4⟩
  · refine step_append_grows hgd s x 23 ho 43 i0 _ 5 88 Tryd.underlying23 hi0 hz0 hz1 hz2 rfl (by decide) (some ⟨b0, 0, none⟩) 0 0 [] hs (fun e => by cases e) rfl (fun _ _ j u hu => by simp at hu) ⟨b, 0, none⟩ 1 1 (cellsOf [e]) hx rfl hnews h1 (by decide) (by decide) (by decide) (fun v' w' hown hg => ?_)
    have hown' := own_base hown hn3
    obtain ⟨g, cap, rfl, -⟩ := slice_of_own hown'
    have hB : Below W.heap.size W w' := (Below.refl W.heap.size W).grown hg (Nat.le_refl _) (fun k hk => by cases hk)
    exact hk g cap w' [] hf.symm hown' (fun e he => by cases he) (hB.mono hn3) (by decide)
  · have hl : es.length ≤ 1000 := by rw [← h2, treeOf_len] at hlen; exact hlen
    refine step_append_lies W hgd s x 23 ho n3 43 i0 _ 5 88 Tryd.underlying23 hi0 hz0 hz1 hz2 rfl (by decide) y es.length (cellsOf es) hs h3 ⟨b, 0, none⟩ 1 1 (cellsOf [e]) hx rfl hnews h1 (by decide) (by unfold maxLen; omega) (by omega) hn3 _ rfl (fun g cap w' hown hg _ _ => ?_)
    have hB : Below n3 W w' := (Below.refl n3 W).grown hg hn3 (fun k hk => (h3.lt k hk).1)
    exact hk g cap w' es h2 (by rw [cellsOf_append]; exact hown) (fun e he => (h4 e he).ao (hB.mono hM)) hB hl
/-- the fields are copied -/
theorem af_copy {S : Nat → Prop} {M n3 : Nat} {fa : V.T} {W : World} {ops : Array Oper} {o : Oper} {a : Act} {K : Act → World → Prop} {Q : Exit → Act → World → Prop} {E : Prop} (hgd : o.guard = none) (s x : Operand) (ho : o.op = .call { callee := .builtin .append, args := #[s, x], argTypes := #[23, 23] })
    (b0 : Nat) (hs : a.eval s = .slice (some ⟨b0, 0, none⟩) 0 0) (b o' c : Nat) (es : List Fe) (hx : a.eval x = .slice (some ⟨b, o', none⟩) es.length c) (hne : es ≠ []) (ht : treeOf es = fa) (hok : ∀ e ∈ es, e.Ok W (AO S M W)) (hcl : ∀ j u, (cellsOf es)[j]? = some u → W.cell? ⟨b, o' + j, none⟩ = some u) (hlen : fa.len ≤ 1000) (hM : M ≤ n3) (hn3 : n3 ≤ W.heap.size)
    (hk : ∀ v' w', AF S M n3 fa v' w' → Below W.heap.size W w' → K (a.put o.dst v') w') :
    if Region.wanted o (yielded ops a.tmps) = true then Oper.wp Tryd.prog o a W K Q else E := by
  obtain ⟨i0, hi0, hz0, hz1, hz2⟩ := info_parts infoField
  have hl : es.length ≤ 1000 := by rw [← ht, treeOf_len] at hlen; exact hlen
  have hp : 0 < es.length := List.length_pos_iff.2 hne
  refine step_append_grows hgd s x 23 ho 43 i0 _ 5 88 Tryd.underlying23 hi0 hz0 hz1 hz2 rfl (by decide) (some ⟨b0, 0, none⟩) 0 0 [] hs (fun e => by cases e) rfl (fun _ _ j u hu => by simp at hu) ⟨b, o', none⟩ es.length c (cellsOf es) hx (cellsOf_len _) (fun j u hu => ?_) (cellsOf_one es hok) (by omega) (by unfold maxLen; omega) (by omega) (fun v' w' hown hg => ?_)
  · have hadd : (⟨b, o', none⟩ : Addr).add j = ⟨b, o' + j, none⟩ := by unfold Addr.add; split <;> simp_all
    rw [hadd]
    exact hcl j u hu
  · have hB : Below W.heap.size W w' := (Below.refl W.heap.size W).grown hg (Nat.le_refl _) (fun k hk => by cases hk)
    rw [Nat.zero_add, List.nil_append] at hown
    exact hk v' w' (.inr ⟨es, ht, own_base hown hn3, fun e he => (hok e he).ao (hB.mono (Nat.le_trans hM hn3))⟩) hB
end Go.Proofs.YtdgmbmoaeoakpaaDoor
