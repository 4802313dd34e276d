/- The document's own reader of messages: where a head ends. Conditions: a string of at most 10^6 bytes. -/
import Derived.Test.YtmaclplhphfkiaaDoorFrSpl
import Derived.Test.YtmaclplhphfkiaaDoorFrSame
namespace Go.Proofs.YtmaclplhphfkiaaDoor
open Go Go.RowKit Go.Lib F

namespace F
theorem ext_mid (l : Bs) (i j : Nat) (h : j ≤ l.length) : (ba l).extract i j = ba ((l.drop i).take (j - i)) := by
  apply ByteArray.ext
  rw [ByteArray.data_extract]
  show l.toArray.extract i j = ((l.drop i).take (j - i)).toArray
  simp only [List.extract_toArray, List.extract_eq_take_drop]
/-- what the lines of a head tell -/
def lentold (ls : List Bs) : Nat × Nat := if ls.all okLine then told (sizes ls) else (0, 50)
theorem not_occ_l {b : Bs} {k : Nat} (hk : k + 2 ≤ b.length) (h : (b[k]'(by omega)).toNat ≠ 13) : ¬ occ b k := fun ho => by
  obtain ⟨h1, e⟩ := List.getElem?_eq_some_iff.1 ho.1
  rw [e] at h; exact h rfl
theorem not_occ_r {b : Bs} {k : Nat} (hk : k + 2 ≤ b.length) (h : (b[k + 1]'(by omega)).toNat ≠ 10) : ¬ occ b k := fun ho => by
  obtain ⟨h1, e⟩ := List.getElem?_eq_some_iff.1 ho.2
  rw [e] at h; exact h rfl
theorem occ_of {b : Bs} {k : Nat} (hk : k + 2 ≤ b.length) (h1 : (b[k]'(by omega)).toNat = 13) (h2 : (b[k + 1]'(by omega)).toNat = 10) : occ b k :=
  ⟨by rw [List.getElem?_eq_getElem (by omega)]; exact congrArg some (UInt8.toNat_inj.1 h1), by rw [List.getElem?_eq_getElem (by omega)]; exact congrArg some (UInt8.toNat_inj.1 h2)⟩
end F
/-- a head, as far as it has come -/
def HeadOut (b : Bs) (w : World) (e : Ending) (w' : World) : Prop :=
  Below w.heap.size w w' ∧
  ((∃ v ls size, e = .returned (.tuple #[v, .int .i64 (size : Nat), .int .i64 0]) ∧ w'.ownsRow w.heap.size 9 1 v ls.length (strs ls) ∧ 2 ≤ size ∧ size ≤ b.length ∧ ls.length ≤ 1024 ∧ (∀ x ∈ ls, x.length ≤ b.length) ∧ ∀ o, run (.head [], o) b = run (onward o (lentold ls)) (b.drop size)) ∨
   (e = .returned (.tuple #[.slice none 0 0, .int .i64 0, .int .i64 50]) ∧ ∀ o, run (.head [], o) b = (.dead 50, o)) ∨
   (e = .returned (.tuple #[.slice none 0 0, .int .i64 0, .int .i64 0]) ∧ ∀ o, run (.head [], o) b = (.head b, o)))
/-- where the loop over a head's bytes stands -/
def RhAt (b : Bs) (ls : List Bs) (fr k : Nat) (v : Value) (w wr : World) : Prop :=
  Scan b ls fr k ∧ ls.length ≤ k ∧ (∀ x ∈ ls, x.length ≤ b.length) ∧ wr.ownsRow w.heap.size 9 1 v ls.length (strs ls) ∧ Below w.heap.size w wr
set_option maxRecDepth 100000 in
set_option maxHeartbeats 2000000 in
theorem refHead_any (b : Bs) (w : World) (hb : b.length ≤ 1000000) : Calls Tryd.prog 44 #[.string (ba b)] w (HeadOut b w) := by
  obtain ⟨iS, hiS, hzS0, hzS1, hzS2⟩ := info_parts fS
  have hsz := ba_size b
  have H0 := Lib.hid (show RhAt b [] 0 0 (.slice none 0 0) w w from ⟨scan_0 b, Nat.zero_le _, fun x h => by simp at h, World.ownsRow_nil _ _ _ _, Below.refl _ _⟩)
  go_enter Tryd.func44, Tryd.ntmps44
  go_wp2_with fail
  go_loopw [5, 6, 7] (fun v f k wr => ∃ v' ls fr at', v' = v ∧ f = .int .i64 (fr : Nat) ∧ k = .int .i64 (at' : Nat) ∧ at' ≤ 1023 ∧ fr ≤ at' + 1 ∧ Hid (RhAt b ls fr at' v' w wr)) (fun _ _ k _ => 1024 - (RowKit.intOf k).toNat)
  case atStart => exact ⟨_, [], 0, 0, rfl, rfl, rfl, by decide, by decide, H0⟩
  case round =>
    obtain ⟨v, ls, fr, k, rfl, rfl, rfl, hk, hfr, HR⟩ := hrel
    by_cases hin : k + 1 < b.length ∧ k + 2 ≤ 1024
    · obtain ⟨hlt, h24⟩ := hin
      have hk2 : k + 2 ≤ b.length := by omega
      have hg1 := ba_get b k (by rw [hsz]; omega)
      have hg2 := ba_get b (k + 1) (by rw [hsz]; omega)
      have hi1 : (k : Int) + 1 < (b.length : Int) := by omega
      have hi2 : (k : Int) + 2 ≤ 1024 := by omega
      have HN1 := Lib.hid (fun h => not_occ_l (b := b) hk2 h)
      have HN2 := Lib.hid (fun h => not_occ_r (b := b) hk2 h)
      have HO := Lib.hid (fun h1 h2 => occ_of (b := b) hk2 h1 h2)
      obtain ⟨c1, hc1⟩ : ∃ c, b[k]'(by omega) = c := ⟨_, rfl⟩
      obtain ⟨c2, hc2⟩ : ∃ c, b[k + 1]'(by omega) = c := ⟨_, rfl⟩
      rw [hc1] at HN1 HO hg1
      rw [hc2] at HN2 HO hg2
      clear hc1 hc2
      by_cases h1 : c1.toNat = 13
      · by_cases h2 : c2.toNat = 10
        · have e1 : ((c1.toNat : Int) != 13) = false := by rw [h1]; rfl
          have e2 : ((c2.toNat : Int) != 10) = false := by rw [h2]; rfl
          have hocc := HO.out h1 h2
          clear h1 h2
          by_cases h3 : k < fr
          · have e3 : (k : Int) < (fr : Int) := by omega
            have HS := Lib.hid (show RhAt b ls fr (k + 1) v w wr from ⟨scan_skip HR.out.1 hk2 (.inr h3), by have := HR.out.2.1; omega, HR.out.2.2⟩)
            clear hocc
            go_wp2_with fail
            go_roundw
            case rel => exact ⟨_, ls, fr, k + 1, rfl, rfl, by go_num, by omega, by omega, HS⟩
            case measure => simp [RowKit.intOf]; omega
          · have e3 : ¬ (k : Int) < (fr : Int) := by omega
            by_cases h4 : k = fr
            · subst h4
              have hse := scan_ended HR.out.1 hk2 hocc
              have hrun := fun o => run_ended o b (k + 2) (by omega) hk2 (by omega) hse.1 (fun j h0 hj => HR.out.1.open' j h0 (by omega))
              rw [hse.2] at hrun
              have HF := Lib.hid (show HeadOut b w (.returned (.tuple #[v, .int .i64 ((k + 2 : Nat) : Int), .int .i64 0])) wr from ⟨HR.out.2.2.2.2, .inl ⟨v, ls, k + 2, rfl, HR.out.2.2.2.1, by omega, hk2, by have := HR.out.2.1; omega, HR.out.2.2.1, hrun⟩⟩)
              clear hocc hse hrun
              go_wp2_with fail
              go_ret3
              exact HF.out
            · have e4 : ((k : Int) == (fr : Int)) = false := by simp; omega
              have hfk : fr < k := by omega
              have HX := Lib.hid (scan_line HR.out.1 hk2 hocc hfk)
              have hex := ext_mid b fr k (by omega)
              have hle : ((b.drop fr).take (k - fr)).length ≤ b.length := by rw [List.length_take, List.length_drop]; omega
              have hll := HR.out.2.1
              obtain ⟨x, hx⟩ : ∃ x, (b.drop fr).take (k - fr) = x := ⟨_, rfl⟩
              rw [hx] at HX hex hle
              have HN := Lib.hid (heap_alloc_new wr (.cells #[.string (ba x)] 9))
              have hbs := HR.out.2.2.2.2.size
              clear hocc hx
              have hfi : (fr : Int) ≤ (k : Int) := by omega
              have hki : (k : Int) ≤ (b.length : Int) := by omega
              go_wp2_with (at_builtin; refine wpList_append_own _ rfl _ _ 46 rfl w.heap.size 9 iS _ 1 16 Tryd.underlying46 hiS hzS0 hzS1 hzS2 rfl (by decide) v ls.length (strs ls) rfl (HR.out.2.2.2.1.alloc _) ⟨wr.heap.size, 0, none⟩ 1 1 [.string (ba x)] rfl rfl (fun j u hj => World.news_of_block (cs := #[.string (ba x)]) (t := 9) (fr := (0, 0)) HN.out j u hj) (fun u hu => by rw [List.mem_singleton.1 hu]; rfl) (by unfold maxLen; omega) (by omega) (by rw [World.size_alloc]; omega) ?_)
              intro v' w2 hown2 hgrow2 _
              have HF := Lib.hid (show RhAt b (ls ++ [x]) (k + 2) (k + 1) v' w w2 from ⟨HX.out, by rw [List.length_append, List.length_singleton]; omega, fun y hy => by
                rcases List.mem_append.1 hy with hy | hy
                · exact HR.out.2.2.1 y hy
                · rw [List.mem_singleton.1 hy]; exact hle, by rw [List.length_append, List.length_singleton, strs_append]; exact hown2,
                ((HR.out.2.2.2.2.alloc hbs _).grown hgrow2 (by rw [World.size_alloc]; omega) (fun c hc => ((HR.out.2.2.2.1.alloc (.cells #[.string (ba x)] 9)).lt c hc).1))⟩)
              clear hown2 hgrow2 HN
              go_wp2_with fail
              go_roundw
              case rel => exact ⟨_, ls ++ [x], k + 2, k + 1, rfl, by go_num, by go_num, by omega, by omega, HF⟩
              case measure => simp [RowKit.intOf]; omega
        · have e1 : ((c1.toNat : Int) != 13) = false := by rw [h1]; rfl
          have e2 : ((c2.toNat : Int) != 10) = true := by simp; omega
          have HS := Lib.hid (show RhAt b ls fr (k + 1) v w wr from ⟨scan_skip HR.out.1 hk2 (.inl (HN2.out h2)), by have := HR.out.2.1; omega, HR.out.2.2⟩)
          clear h1 h2
          go_wp2_with fail
          go_roundw
          case rel => exact ⟨_, ls, fr, k + 1, rfl, rfl, by go_num, by omega, by omega, HS⟩
          case measure => simp [RowKit.intOf]; omega
      · have e1 : ((c1.toNat : Int) != 13) = true := by simp; omega
        have HS := Lib.hid (show RhAt b ls fr (k + 1) v w wr from ⟨scan_skip HR.out.1 hk2 (.inl (HN1.out h1)), by have := HR.out.2.1; omega, HR.out.2.2⟩)
        clear h1
        go_wp2_with fail
        go_roundw
        case rel => exact ⟨_, ls, fr, k + 1, rfl, rfl, by go_num, by omega, by omega, HS⟩
        case measure => simp [RowKit.intOf]; omega
    · have hopen := HR.out.1.open'
      by_cases hl : 1024 ≤ b.length
      · have hl2 : (b.length : Int) ≥ 1024 := by omega
        have HF := Lib.hid (show HeadOut b w (.returned (.tuple #[.slice none 0 0, .int .i64 0, .int .i64 50])) wr from ⟨HR.out.2.2.2.2, .inr (.inl ⟨rfl, fun o => run_long o b hl (fun j h0 hj => hopen j h0 (by omega))⟩)⟩)
        clear hopen
        by_cases h1 : k + 1 < b.length
        · have hi1 : (k : Int) + 1 < (b.length : Int) := by omega
          have hi2 : ¬ (k : Int) + 2 ≤ 1024 := by omega
          go_wp2_with fail
          go_ret3
          exact HF.out
        · have hi1 : ¬ (k : Int) + 1 < (b.length : Int) := by omega
          go_wp2_with fail
          go_ret3
          exact HF.out
      · have hl2 : ¬ (b.length : Int) ≥ 1024 := by omega
        have hi1 : ¬ (k : Int) + 1 < (b.length : Int) := by omega
        have HF := Lib.hid (show HeadOut b w (.returned (.tuple #[.slice none 0 0, .int .i64 0, .int .i64 0])) wr from ⟨HR.out.2.2.2.2, .inr (.inr ⟨rfl, fun o => run_short o b (by omega) (fun j h0 hj => hopen j h0 (by omega))⟩)⟩)
        clear hopen
        go_wp2_with fail
        go_ret3
        exact HF.out
end Go.Proofs.YtmaclplhphfkiaaDoor
