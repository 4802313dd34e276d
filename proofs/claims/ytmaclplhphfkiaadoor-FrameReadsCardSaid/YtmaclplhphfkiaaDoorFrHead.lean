/- The reader of messages: what it dies of, what it ignores, whether a head has ended, what a head's end makes of it. Conditions: such lengths as memory bears; what a head tells is known. -/
import Derived.Test.YtmaclplhphfkiaaDoorFrBody
import Derived.Test.YtmaclplhphfkiaaDoorFrLays
import Derived.Shelf.Bytes.SlSmallAll
import Derived.Lib.SlBytesConst
namespace Go.Proofs.YtmaclplhphfkiaaDoor
open Go Go.RowKit Go.Lib F

/-- the library's own variable, out of the way of some blocks -/
def Env (A : Nat → Prop) (w : World) : Prop := (∃ m, w.cell? ⟨10, 0, none⟩ = some (.int .i64 m)) ∧ ¬ A 10
theorem Env.alt {A : Nat → Prop} {w w' : World} (h : Env A w) (k : Alt A w w') : Env (Grow A w) w' := by
  obtain ⟨⟨m, hm⟩, hA⟩ := h
  have hlt := World.block_lt_of_cell? w _ hm
  exact ⟨⟨m, (World.cell?_of_block (k.block _ hlt hA)).trans hm⟩, fun h => by rcases h with h | h; exact hA h; exact absurd h (by simpa using hlt)⟩
theorem Env.keep {A : Nat → Prop} {w w' : World} (h : Env A w) (k : Alt A w w') : Env A w' := by
  obtain ⟨⟨m, hm⟩, hA⟩ := h
  have hlt := World.block_lt_of_cell? w _ hm
  exact ⟨⟨m, (World.cell?_of_block (k.block _ hlt hA)).trans hm⟩, hA⟩
def SizeIs (p : Bs) (w : World) (e : Ending) (w' : World) : Prop := e = .returned (.tuple #[.int .i64 ((bs p).1 : Nat), .int .i64 ((bs p).2 : Nat)]) ∧ Below w.heap.size w w'
/-- what a head tells is known -/
def BsOk : Prop := ∀ (p : Bs) (w : World), p.length ≤ 1024 → (∃ m, w.cell? ⟨10, 0, none⟩ = some (.int .i64 m)) → Calls Tryd.prog 94 #[.string (ba p)] w (SizeIs p w)
def BoolBelow (b : Bool) (w : World) (e : Ending) (w' : World) : Prop := e = .returned (.bool b) ∧ Below w.heap.size w w'
theorem bytesOf_p (p : Bs) : Lib.bytesOf (p.map fun u => (u.toNat : Int)) = p := by
  unfold Lib.bytesOf
  rw [List.map_map]
  conv => rhs; rw [← List.map_id p]
  apply List.map_congr_left
  intro u _
  simp
set_option maxRecDepth 100000 in
set_option maxHeartbeats 400000 in
theorem isEnded_any (p : Bs) (v : Value) (w : World) (hT : Tail w 5 v (c8 p)) (hl : p.length ≤ 1000000) :
    Calls Tryd.prog 63 #[v] w (BoolBelow (ended p) w) := by
  obtain ⟨z, cap, rfl, h1, h2, h3⟩ := hT.form
  rw [c8_len] at h1
  have hB := (Below.refl w.heap.size w).alloc (Nat.le_refl _) (.cells #[.int .u8 13, .int .u8 10, .int .u8 13, .int .u8 10] 5 (4, 5))
  have hT' := hT.below hB
  have hnew := heap_alloc_new w (.cells #[.int .u8 13, .int .u8 10, .int .u8 13, .int .u8 10] 5 (4, 5))
  have hcv := conv_part hT'
  have hsx := Any.bytes_HasSuffix_all Tryd.laysHasSuffix z (some ⟨w.heap.size, 0, none⟩) p.length cap 4 4 (p.map fun u => (u.toNat : Int)) [13, 10, 13, 10] (w.alloc (.cells #[.int .u8 13, .int .u8 10, .int .u8 13, .int .u8 10] 5 (4, 5))) (List.length_map _) rfl h1 (by omega)
    (fun h0 => by
      obtain ⟨g, off, rfl, -⟩ := h3 0 _ (c8_at (List.getElem?_eq_getElem h0))
      refine ⟨g, off, rfl, fun i hi => ?_⟩
      obtain ⟨g', off', e, hc⟩ := (hT'.form).choose_spec.choose_spec.2.2.2 i _ (c8_at (List.getElem?_eq_getElem hi))
      have ez := (hT'.form).choose_spec.choose_spec.1
      have e1 : some (⟨g, off, none⟩ : Addr) = (hT'.form).choose := by injection ez
      rw [← e1] at e
      obtain ⟨rfl, rfl⟩ : g = g' ∧ off = off' := by
        injection e with e; injection e with a b; exact ⟨a, b⟩
      rw [hc]
      congr 2
      rw [List.getD_eq_getElem?_getD, List.getElem?_map, List.getElem?_eq_getElem hi]
      rfl)
    (fun _ => ⟨_, 0, rfl, fun i hi => by
      rw [Nat.zero_add, cell_of_row _ _ i _ _ (4, 5) hnew]
      have : i = 0 ∨ i = 1 ∨ i = 2 ∨ i = 3 := by omega
      rcases this with rfl | rfl | rfl | rfl <;> rfl⟩)
  rw [bytesOf_p] at hsx
  change Calls Tryd.prog 93 _ _ _ at hsx
  have hen : ended p = (Lib.hasSuffix p (Lib.bytesOf [13, 10, 13, 10]) || p == [13, 10]) := rfl
  have heq : ((ba p).toList == [13, 10]) = (p == [13, 10]) := by rw [ByteArray.toList_eq]; rfl
  rw [hen]
  clear h3 hT hT' hnew
  generalize Lib.hasSuffix p (Lib.bytesOf [13, 10, 13, 10]) = b1 at *
  generalize hp : (p == [13, 10]) = b2 at *
  have HB := Lib.hid hB
  clear hB hp hen
  rw [c8_len] at hcv ⊢
  have kc := fun (w : World) (C : Array Value) (n c : Nat) => Lib.run_convert_bytes_const (P := Tryd.prog) w 44 5 C n c Tryd.underlying44 Tryd.underlying5
  cases b1
  all_goals
    go_enter Tryd.func63, Tryd.ntmps63
    go_wp2_with fail
    refine hsx.mono ?_
    rintro e w' ⟨rfl, rfl⟩
    go_wp2_with fail
    go_ret
    exact ⟨rfl, HB.out⟩
end Go.Proofs.YtmaclplhphfkiaaDoor
