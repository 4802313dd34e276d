/- The document's own way to tell a head's number. Conditions: at most 1024 lines of at most 10^6 bytes. -/
import Derived.Test.YtmaclplhphfkiaaDoorFrRefB
namespace Go.Proofs.YtmaclplhphfkiaaDoor
open Go Go.RowKit Go.Lib F

namespace F
/-- what is known behind some lines -/
def LnAt (ls : List Bs) (i t n : Nat) : Prop := (ls.take i).all okLine = true ∧ n ≤ 262145 ∧ ((t = 0 ∧ n = 0 ∧ sizes (ls.take i) = []) ∨ (t = 1 ∧ ∃ v, sizes (ls.take i) = [v] ∧ isNum v = true ∧ n = num v))
theorem take_one' {α : Type} {ls : List α} {i : Nat} (h : i < ls.length) : ls.take (i + 1) = ls.take i ++ [ls[i]] := by
  rw [List.take_add_one, List.getElem?_eq_getElem h]; rfl
theorem lnAt_other {ls : List Bs} {i t n : Nat} (h : LnAt ls i t n) (hi : i < ls.length) (hok : okLine ls[i] = true) (hl : isLen (nm ls[i]) = false) : LnAt ls (i + 1) t n := by
  obtain ⟨h1, h2, h3⟩ := h
  have e : sizes (ls.take (i + 1)) = sizes (ls.take i) := by rw [take_one' hi, sizes_snoc, hl]; rfl
  refine ⟨by rw [take_one' hi, List.all_append, h1, List.all_cons, hok]; rfl, h2, ?_⟩
  rw [e]; exact h3
theorem lnAt_first {ls : List Bs} {i n : Nat} (h : LnAt ls i 0 n) (hi : i < ls.length) (hok : okLine ls[i] = true) (hl : isLen (nm ls[i]) = true) (hv : isNum (trim (vl ls[i])) = true) : LnAt ls (i + 1) 1 (num (trim (vl ls[i]))) := by
  obtain ⟨h1, h2, h3⟩ := h
  have hs : sizes (ls.take i) = [] := by rcases h3 with h3 | ⟨h3, _⟩; exact h3.2.2; omega
  have e : sizes (ls.take (i + 1)) = [trim (vl ls[i])] := by rw [take_one' hi, sizes_snoc, hl, hs]; rfl
  exact ⟨by rw [take_one' hi, List.all_append, h1, List.all_cons, hok]; rfl, num_le _, .inr ⟨rfl, _, e, hv, rfl⟩⟩
theorem sizes_mem {ls : List Bs} {i : Nat} (hi : i < ls.length) (hl : isLen (nm ls[i]) = true) : trim (vl ls[i]) ∈ sizes ls := by
  unfold sizes
  exact List.mem_map.2 ⟨ls[i], List.mem_filter.2 ⟨List.getElem_mem hi, hl⟩, rfl⟩
theorem sizes_two {ls : List Bs} {i n : Nat} {t : Nat} (h : LnAt ls i t n) (ht : t ≠ 0) (hi : i < ls.length) (hl : isLen (nm ls[i]) = true) : 2 ≤ (sizes ls).length := by
  obtain ⟨_, _, h3⟩ := h
  rcases h3 with h3 | ⟨_, v, hs, _⟩
  · exact absurd h3.1 ht
  · have e : ls = ls.take (i + 1) ++ ls.drop (i + 1) := (List.take_append_drop _ _).symm
    have e2 : sizes ls = sizes (ls.take (i + 1)) ++ sizes (ls.drop (i + 1)) := by
      conv => lhs; rw [e]
      unfold sizes; rw [List.filter_append, List.map_append]
    have e3 : sizes (ls.take (i + 1)) = [v, trim (vl ls[i])] := by rw [take_one' hi, sizes_snoc, hl, hs]; rfl
    rw [e2, e3]; simp
theorem lnAt_end {ls : List Bs} {t n : Nat} (h : LnAt ls ls.length t n) : (t = 0 ∧ lentold ls = (0, 50)) ∨ (t = 1 ∧ lentold ls = if n > 262144 then (0, 51) else (n, 0)) := by
  obtain ⟨h1, h2, h3⟩ := h
  rw [List.take_length] at h1 h3
  unfold lentold
  rw [if_pos h1]
  rcases h3 with ⟨ht, _, hs⟩ | ⟨ht, v, hs, hv, hn⟩
  · exact .inl ⟨ht, by rw [hs]; rfl⟩
  · refine .inr ⟨ht, ?_⟩
    rw [hs, hn]
    unfold told
    dsimp only
    rw [if_pos hv]
theorem ok_drop {x : Bs} {m : Nat} (h : m < x.length) (hv : okVal (x.drop (m + 1)) = true) (h1 : (x[m]).toNat ≠ 13) (h2 : (x[m]).toNat ≠ 10) : okVal (x.drop m) = true := by
  unfold okVal at hv ⊢
  rw [List.drop_eq_getElem_cons h, List.all_cons, hv]
  have a : x[m] ≠ 13 := fun e => h1 (by rw [e]; rfl)
  have b : x[m] ≠ 10 := fun e => h2 (by rw [e]; rfl)
  simp [a, b]
theorem bad_byte {x : Bs} {m : Nat} (h : m < x.length) (hb : (x[m]).toNat = 13 ∨ (x[m]).toNat = 10) : okLine x = false := by
  cases ho : okLine x
  · rfl
  · have := ok_bytes ho
    rw [not_ok h (by
      rcases hb with hb | hb
      · exact .inl (UInt8.toNat_inj.1 hb)
      · exact .inr (UInt8.toNat_inj.1 hb))] at this
    cases this
end F
def LenOut (ls : List Bs) (w : World) (e : Ending) (w' : World) : Prop := e = .returned (.tuple #[.int .i64 ((lentold ls).1 : Nat), .int .i64 ((lentold ls).2 : Nat)]) ∧ ∃ q, w' = w.drewN q
theorem lenOut_bad {ls : List Bs} {w : World} (q : Nat) (h : lentold ls = (0, 50)) : LenOut ls w (.returned (.tuple #[.int .i64 0, .int .i64 50])) (w.drewN q) := ⟨by rw [h]; rfl, q, rfl⟩
set_option maxRecDepth 100000 in
set_option maxHeartbeats 4000000 in
theorem refLength_any (v : Value) (ls : List Bs) (w : World) (hr : RdS w v ls) (hl : ls.length ≤ 1024) (hx : ∀ x ∈ ls, x.length ≤ 1000000) : Calls Tryd.prog 45 #[v] w (LenOut ls w) := by
  obtain ⟨z, cap, rfl, hcap, hr⟩ := hr
  have HR := Lib.hid hr
  have H0 := Lib.hid (show LnAt ls 0 0 0 from ⟨rfl, by decide, .inl ⟨rfl, rfl, rfl⟩⟩)
  clear hr
  go_enter Tryd.func45, Tryd.ntmps45
  go_wp2_with fail
  go_loopw [4, 5, 6] (fun n t i wr => ∃ i0 t0 n0 q : Nat, i0 ≤ ls.length ∧ i = .int .i64 i0 ∧ t = .int .i64 t0 ∧ n = .int .i64 n0 ∧ wr = w.drewN q ∧ n0 ≤ 262145 ∧ t0 ≤ 1 ∧ Hid (LnAt ls i0 t0 n0)) (fun _ _ i _ => ls.length - (RowKit.intOf i).toNat)
  case atStart => exact ⟨0, 0, 0, 0, Nat.zero_le _, rfl, rfl, rfl, rfl, by decide, by decide, H0⟩
  case round =>
    obtain ⟨i, t, n, q, hi, rfl, rfl, rfl, rfl, hn, ht, HL⟩ := hrel
    by_cases hlt : i < ls.length
    · obtain ⟨g, off, rfl, hcx⟩ := HR.out i _ (List.getElem?_eq_getElem hlt)
      have hxl := hx _ (List.getElem_mem hlt)
      have HBD := Lib.hid (fun (h : okLine ls[i] = false) => lentold_bad (List.getElem_mem hlt) h)
      have HOT := Lib.hid (fun h1 h2 => lnAt_other HL.out hlt h1 h2)
      have HFI := Lib.hid (fun (h0 : t = 0) h1 h2 h3 => lnAt_first (h0 ▸ HL.out) hlt h1 h2 h3)
      have HNV := Lib.hid (fun h1 h2 => lentold_val (sizes_mem hlt h1) h2)
      have HTW := Lib.hid (fun h1 h2 => lentold_two (sizes_two HL.out h1 hlt h2))
      have cx : (w.drewN q).cell? ⟨g, off + i, none⟩ = some (.string (ba (ls[i]'hlt))) := hcx
      have hbx := ba_size (ls[i]'hlt)
      generalize ls[i]'hlt = x at *
      have hix : (i : Int) < (ls.length : Int) := by omega
      clear hcx H0
      go_wp2_with fail
      go_loopw [7, 8] (fun c k wr => ∃ m : Nat, m ≤ x.length ∧ k = .int .i64 ((m : Int) - 1) ∧ c = .int .i64 (cf x m) ∧ w.drewN q = wr ∧ Hid (okVal (x.drop m) = true)) (fun _ k _ => (RowKit.intOf k + 1).toNat)
      case atStart => exact ⟨x.length, Nat.le_refl _, by first | rfl | go_num, by rw [cf_end], rfl, Lib.hid (by rw [List.drop_length]; rfl)⟩
      case round =>
        obtain ⟨m, hm, rfl, rfl, rfl, HV⟩ := hrel
        have hge := cf_ge x m
        cases m with
        | zero =>
          have hk0 : ((0 : Nat) : Int) - 1 = -1 := rfl
          rw [hk0]
          rw [List.drop_zero] at HV
          have HBC := Lib.hid (fun (h : cf x 0 < 1) => HBD.out (bad_cut h))
          by_cases hc1 : cf x 0 < 1
          · have HB := Lib.hid (lenOut_bad (w := w) q (HBC.out hc1))
            generalize cf x 0 = C at *
            go_wp2_with fail
            go_ret2
            exact HB.out
          · obtain ⟨i0, hi0⟩ : ∃ i0 : Nat, cf x 0 = (i0 : Int) := ⟨(cf x 0).toNat, by omega⟩
            obtain ⟨-, hil⟩ := cf_cut hi0
            have HI := Lib.hid hi0
            rw [hi0] at hc1 ⊢
            clear hge hi0 HBC
            go_wp2_with fail
            go_loopw [9] (fun k wr => ∃ m : Nat, m ≤ i0 ∧ k = .int .i64 m ∧ w.drewN q = wr ∧ Hid ((x.take m).all (fun c => decide (33 ≤ c.toNat) && decide (c.toNat ≤ 126)) = true)) (fun k _ => i0 - (RowKit.intOf k).toNat)
            case atStart => exact ⟨0, Nat.zero_le _, rfl, rfl, Lib.hid rfl⟩
            case round =>
              obtain ⟨m, hm, rfl, rfl, HA⟩ := hrel
              by_cases hmi : m < i0
              · have hml : m < x.length := by omega
                have hgx := ba_get x m (by rw [hbx]; exact hml)
                have HT := Lib.hid (take_one' hml)
                have HBN := Lib.hid (fun h => HBD.out (bad_name HI.out h))
                have hbad : ∀ c, x[m]'hml = c → ¬ (33 ≤ c.toNat ∧ c.toNat ≤ 126) → okName (x.take i0) = false := fun c hc hn => by
                  have hmem : c ∈ x.take i0 := by rw [← hc]; exact List.mem_take_iff_getElem.2 ⟨m, by omega, rfl⟩
                  cases ho : okName (x.take i0)
                  · rfl
                  · unfold okName at ho
                    rw [Bool.and_eq_true, List.all_eq_true] at ho
                    have := ho.2 c hmem
                    simp at this
                    exact absurd this hn
                obtain ⟨c, hc⟩ : ∃ c, x[m]'hml = c := ⟨_, rfl⟩
                have hbad := hbad c hc
                rw [hc] at hgx HT
                clear hc
                have hmI : (m : Int) < (i0 : Int) := by omega
                have hmx : (m : Int) < (x.length : Int) := by omega
                have hclt := c.toNat_lt
                by_cases h33 : c.toNat < 33
                · have e33 : (c.toNat : Int) < 33 := by omega
                  have HB := Lib.hid (lenOut_bad (w := w) q (HBN.out (hbad (by omega))))
                  clear hbad
                  go_wp2_with fail
                  go_ret2
                  exact HB.out
                · have e33 : ¬ (c.toNat : Int) < 33 := by omega
                  by_cases h126 : c.toNat > 126
                  · have e126 : (c.toNat : Int) > 126 := by omega
                    have HB := Lib.hid (lenOut_bad (w := w) q (HBN.out (hbad (by omega))))
                    clear hbad
                    go_wp2_with fail
                    go_ret2
                    exact HB.out
                  · have e126 : ¬ (c.toNat : Int) > 126 := by omega
                    have HA2 := Lib.hid (show (x.take (m + 1)).all (fun c => decide (33 ≤ c.toNat) && decide (c.toNat ≤ 126)) = true by
                      rw [HT.out, List.all_append, HA.out, List.all_cons, decide_eq_true (show 33 ≤ c.toNat by omega), decide_eq_true (show c.toNat ≤ 126 by omega)]; rfl)
                    clear hbad h33 h126
                    go_wp2_with fail
                    go_roundw
                    case rel => exact ⟨m + 1, by omega, by go_num, by first | rfl | trivial, HA2⟩
                    case measure => simp [RowKit.intOf]; omega
              · obtain rfl : m = i0 := by omega
                obtain ⟨hokl, hnm, hvl⟩ := ok_line HI.out (by omega) HV.out HA.out
                have hca := fun W => called_any (x.take m) W (by rw [List.length_take]; omega)
                rw [← hnm] at hca
                have hex := ext_take x m (by omega)
                rw [← hnm] at hex
                have HOK := Lib.hid (And.intro hokl hvl)
                have hmx2 : (m : Int) ≤ (x.length : Int) := by omega
                clear hokl hnm hvl HI HV HA
                cases hL : isLen (nm x)
                · have HN := Lib.hid (HOT.out HOK.out.1 hL)
                  rw [hL] at hca
                  clear hL
                  go_wp2_with fail
                  refine (hca _).mono ?_
                  rintro e w' ⟨rfl, q2, rfl⟩
                  go_wp2_with fail
                  go_roundw
                  case rel => exact ⟨i + 1, t, n, q + q2, hlt, by go_num, rfl, rfl, by simp [World.drewN, Nat.add_assoc], hn, ht, HN⟩
                  case measure => simp [RowKit.intOf]; omega
                · have HL2 := Lib.hid hL
                  rw [hL] at hca
                  clear hL
                  go_wp2_with fail
                  refine (hca _).mono ?_
                  rintro e w' ⟨rfl, q2, rfl⟩
                  obtain ⟨q3, hq3⟩ : ∃ q3, (w.drewN q).drewN q2 = w.drewN q3 := ⟨q + q2, World.drewN_drewN _ _ _⟩
                  rw [hq3]
                  have cx' : (w.drewN q3).cell? ⟨g, off + i, none⟩ = some (.string (ba x)) := cx
                  have cx0 : w.cell? ⟨g, off + i, none⟩ = some (.string (ba x)) := cx
                  clear hq3 cx hca
                  go_wp2_with fail
                  go_quiet (fail)
                  go_wp2_with fail
                  have HT2 := Lib.hid (HL2.out)
                  obtain ⟨q4, hq4⟩ : ∃ q4, (w.drewN q3).drewN nq = w.drewN q4 := ⟨_, World.drewN_drewN _ _ _⟩
                  rw [hq4]
                  clear hq4
                  have cx4 : (w.drewN q4).cell? ⟨g, off + i, none⟩ = some (.string (ba x)) := cx0
                  clear cx'
                  go_loopw [10] (fun f wr => ∃ f0 : Nat, m + 1 ≤ f0 ∧ f0 ≤ x.length ∧ f = .int .i64 f0 ∧ w.drewN q4 = wr ∧ Hid (∀ j c, m + 1 ≤ j → j < f0 → x[j]? = some c → bk c = true)) (fun f _ => x.length - (RowKit.intOf f).toNat)
                  case atStart => exact ⟨m + 1, Nat.le_refl _, by omega, by go_num, rfl, Lib.hid (fun j c h1 h2 _ => absurd h2 (by omega))⟩
                  case round =>
                    obtain ⟨f, hf1, hf2, rfl, rfl, HB1⟩ := hrel
                    by_cases hfl : f < x.length
                    · have hgx := ba_get x f (by rw [hbx]; exact hfl)
                      have hbk := bk_iff (x[f]'hfl)
                      have hxf := List.getElem?_eq_getElem hfl
                      obtain ⟨c, hc⟩ : ∃ c, x[f]'hfl = c := ⟨_, rfl⟩
                      rw [hc] at hgx hbk hxf
                      clear hc
                      have hfI : (f : Int) < (x.length : Int) := by omega
                      have hclt := c.toNat_lt
                      have HXF := Lib.hid hxf
                      have HBL := Lib.hid (fun (h : bk c = true) => show ∀ j d, m + 1 ≤ j → j < f + 1 → x[j]? = some d → bk d = true from fun j d h1 h2 h3 => by
                        by_cases hjf : j < f
                        · exact HB1.out j d h1 hjf h3
                        · obtain rfl : j = f := by omega
                          rw [HXF.out] at h3; cases h3; exact h)
                      clear hxf
                      by_cases h32 : c.toNat = 32
                      · have e32 : ((c.toNat : Int) == 32) = true := by rw [h32]; rfl
                        have HB2 := Lib.hid (HBL.out (by rw [hbk, h32]; rfl))
                        clear h32 hbk
                        go_wp2_with fail
                        go_roundw
                        case rel => exact ⟨f + 1, by omega, by omega, by go_num, by first | rfl | trivial, HB2⟩
                        case measure => simp [RowKit.intOf]; omega
                      · have e32 : ((c.toNat : Int) == 32) = false := by simp; omega
                        by_cases h9 : c.toNat = 9
                        · have e9 : ((c.toNat : Int) == 9) = true := by rw [h9]; rfl
                          have HB2 := Lib.hid (HBL.out (by rw [hbk, h9]; rfl))
                          clear h32 hbk h9
                          go_wp2_with fail
                          go_roundw
                          case rel => exact ⟨f + 1, by omega, by omega, by go_num, by first | rfl | trivial, HB2⟩
                          case measure => simp [RowKit.intOf]; omega
                        · have e9 : ((c.toNat : Int) == 9) = false := by simp; omega
                          have HCF := Lib.hid (show bk c = false by rw [hbk, decide_eq_false h32, decide_eq_false h9]; rfl)
                          clear h32 h9 hbk HBL
                          go_wp2_with fail
                          go_loopw [11] (fun u wr => ∃ s : Nat, f ≤ s ∧ s < x.length ∧ u = .int .i64 ((s : Int) + 1) ∧ w.drewN q4 = wr ∧ Hid (∀ j d, s + 1 ≤ j → x[j]? = some d → bk d = true)) (fun u _ => (RowKit.intOf u).toNat)
                          case atStart => exact ⟨x.length - 1, by omega, by omega, by go_num, rfl, Lib.hid (fun j d h1 h2 => by have := (List.getElem?_eq_some_iff.1 h2).1; omega)⟩
                          case round =>
                            obtain ⟨s, hs1, hs2, rfl, rfl, HD⟩ := hrel
                            have hgs := ba_get x s (by rw [hbx]; exact hs2)
                            have hbs := bk_iff (x[s]'hs2)
                            have hxs := List.getElem?_eq_getElem hs2
                            obtain ⟨d, hd⟩ : ∃ d, x[s]'hs2 = d := ⟨_, rfl⟩
                            rw [hd] at hgs hbs hxs
                            clear hd
                            have HXS := Lib.hid hxs
                            clear hxs
                            have hsI : (f : Int) < (s : Int) + 1 := by omega
                            have hs3 : (s : Int) < (x.length : Int) := by omega
                            have hdlt := d.toNat_lt
                            have HBL2 := Lib.hid (fun (h : bk d = true) => show f ≠ s ∧ ∀ j e, s - 1 + 1 ≤ j → x[j]? = some e → bk e = true from by
                              refine ⟨fun e => ?_, fun j e h1 h2 => ?_⟩
                              · subst e
                                have h3 := HXF.out
                                rw [HXS.out] at h3
                                cases h3
                                have h4 := HCF.out
                                rw [h] at h4
                                cases h4
                              · by_cases hjs : j = s
                                · subst hjs
                                  rw [HXS.out] at h2
                                  cases h2
                                  exact h
                                · exact HD.out j e (by omega) h2)
                            by_cases h32 : d.toNat = 32
                            · have e32d : ((d.toNat : Int) == 32) = true := by rw [h32]; rfl
                              obtain ⟨hfs, hB⟩ := HBL2.out (by rw [hbs, h32]; rfl)
                              have HB2 := Lib.hid hB
                              clear h32 hbs HBL2 hB
                              go_wp2_with fail
                              go_roundw
                              case rel => exact ⟨s - 1, by omega, by omega, by first | rfl | (congr 1; omega) | go_num, by first | rfl | trivial, HB2⟩
                              case measure => first | (simp [RowKit.intOf]; done) | (simp [RowKit.intOf]; omega)
                            · have e32d : ((d.toNat : Int) == 32) = false := by simp; omega
                              by_cases h9 : d.toNat = 9
                              · have e9d : ((d.toNat : Int) == 9) = true := by rw [h9]; rfl
                                obtain ⟨hfs, hB⟩ := HBL2.out (by rw [hbs, h9]; rfl)
                                have HB2 := Lib.hid hB
                                clear h32 hbs HBL2 hB h9
                                go_wp2_with fail
                                go_roundw
                                case rel => exact ⟨s - 1, by omega, by omega, by first | rfl | (congr 1; omega) | go_num, by first | rfl | trivial, HB2⟩
                                case measure => first | (simp [RowKit.intOf]; done) | (simp [RowKit.intOf]; omega)
                              · have e9d : ((d.toNat : Int) == 9) = false := by simp; omega
                                have HDF := Lib.hid (show bk d = false by rw [hbs, decide_eq_false h32, decide_eq_false h9]; rfl)
                                clear h32 h9 hbs HBL2
                                have hts : (((x.drop f).take (s + 1 - f))).length = s + 1 - f := by rw [List.length_take, List.length_drop]; omega
                                have HTR := Lib.hid (show trim (vl x) = (x.drop f).take (s + 1 - f) by
                                  rw [HOK.out.2]
                                  exact trim_mid hf1 (by omega) (by omega) HB1.out HD.out (fun _ c' hc' => by rw [HXF.out] at hc'; cases hc'; exact HCF.out) (fun _ c' hc' => by rw [Nat.add_sub_cancel, HXS.out] at hc'; cases hc'; exact HDF.out))
                                have hfs : ((f : Int) == (s : Int) + 1) = false := by simp; omega
                                by_cases ht1 : t = 0
                                · have htI : ¬ (t : Int) + 1 > 1 := by omega
                                  have hn0 : n = 0 := by
                                    obtain ⟨_, _, h3⟩ := HL.out
                                    rcases h3 with h3 | h3
                                    · exact h3.2.1
                                    · exact absurd h3.1 (by omega)
                                  subst hn0
                                  clear HD hsI
                                  go_wp2_with fail
                                  go_loopw [4, 12] (fun nn kk wr => ∃ k : Nat, f ≤ k ∧ k ≤ s + 1 ∧ kk = .int .i64 k ∧ nn = .int .i64 (num ((x.drop f).take (k - f)) : Nat) ∧ w.drewN q4 = wr ∧ Hid ((((x.drop f).take (k - f))).all (fun c => decide (48 ≤ c.toNat) && decide (c.toNat ≤ 57)) = true)) (fun _ kk _ => s + 1 - (RowKit.intOf kk).toNat)
                                  case atStart => exact ⟨f, Nat.le_refl _, by omega, rfl, by rw [Nat.sub_self, List.take_zero]; rfl, rfl, Lib.hid (by rw [Nat.sub_self, List.take_zero]; rfl)⟩
                                  case round =>
                                    obtain ⟨k, hk1, hk2, rfl, rfl, rfl, HAL⟩ := hrel
                                    have hnl := num_le ((x.drop f).take (k - f))
                                    by_cases hks : k < s + 1
                                    · have hkx : k < x.length := by omega
                                      have hgk := ba_get x k (by rw [hbx]; exact hkx)
                                      have hsn : (x.drop f).take (k + 1 - f) = (x.drop f).take (k - f) ++ [x[k]'hkx] := by
                                        rw [show k + 1 - f = (k - f) + 1 by omega, List.take_add_one, List.getElem?_drop, show f + (k - f) = k by omega, List.getElem?_eq_getElem hkx]; rfl
                                      have hmem : x[k]'hkx ∈ (x.drop f).take (s + 1 - f) := List.mem_take_iff_getElem.2 ⟨k - f, by rw [List.length_drop]; omega, by rw [List.getElem_drop]; congr 1; omega⟩
                                      obtain ⟨y, hy⟩ : ∃ y, x[k]'hkx = y := ⟨_, rfl⟩
                                      rw [hy] at hgk hsn hmem
                                      clear hy
                                      have hkI : (k : Int) < (s : Int) + 1 := by omega
                                      have hkx2 : (k : Int) < (x.length : Int) := by omega
                                      have hylt := y.toNat_lt
                                      have HBN := Lib.hid (fun (h : ¬ (48 ≤ y.toNat ∧ y.toNat ≤ 57)) => show LenOut ls w (.returned (.tuple #[.int .i64 0, .int .i64 50])) (w.drewN q4) from lenOut_bad q4 (HNV.out HL2.out (by
                                        rw [HTR.out]
                                        cases hN : isNum ((x.drop f).take (s + 1 - f))
                                        · rfl
                                        · unfold isNum at hN
                                          rw [Bool.and_eq_true, List.all_eq_true] at hN
                                          have := hN.2 y hmem
                                          simp at this
                                          exact absurd this h)))
                                      clear hmem
                                      by_cases h48 : y.toNat < 48
                                      · have e48 : (y.toNat : Int) < 48 := by omega
                                        have HB := Lib.hid (HBN.out (by omega))
                                        clear hsn
                                        generalize num ((x.drop f).take (k - f)) = N at *
                                        go_wp2_with fail
                                        go_ret2
                                        exact HB.out
                                      · have e48 : ¬ (y.toNat : Int) < 48 := by omega
                                        by_cases h57 : y.toNat > 57
                                        · have e57 : (y.toNat : Int) > 57 := by omega
                                          have HB := Lib.hid (HBN.out (by omega))
                                          clear hsn
                                          generalize num ((x.drop f).take (k - f)) = N at *
                                          go_wp2_with fail
                                          go_ret2
                                          exact HB.out
                                        · have e57 : ¬ (y.toNat : Int) > 57 := by omega
                                          have HA2 := Lib.hid (show ((x.drop f).take (k + 1 - f)).all (fun c => decide (48 ≤ c.toNat) && decide (c.toNat ≤ 57)) = true by
                                            rw [hsn, List.all_append, HAL.out, List.all_cons, decide_eq_true (show 48 ≤ y.toNat by omega), decide_eq_true (show y.toNat ≤ 57 by omega)]; rfl)
                                          have HNN := Lib.hid (show num ((x.drop f).take (k + 1 - f)) = min (10 * num ((x.drop f).take (k - f)) + (y.toNat - 48)) 262145 by rw [hsn]; exact num_snoc _ _)
                                          clear hsn HBN
                                          obtain ⟨N2, hN2⟩ : ∃ N2, num ((x.drop f).take (k + 1 - f)) = N2 := ⟨_, rfl⟩
                                          rw [hN2] at HNN
                                          have HN2 := Lib.hid hN2
                                          clear hN2
                                          generalize num ((x.drop f).take (k - f)) = N at *
                                          by_cases hbig : N * 10 + y.toNat - 48 > 262144
                                          · have hbI : (N : Int) * 10 + (y.toNat : Int) - 48 > 262144 := by omega
                                            go_wp2_with fail
                                            go_roundw
                                            case rel => exact ⟨k + 1, by omega, by omega, by go_num, by rw [HN2.out, show N2 = 262145 by have := HNN.out; omega]; rfl, by first | rfl | trivial, HA2⟩
                                            case measure => simp [RowKit.intOf]; omega
                                          · have hbI : ¬ (N : Int) * 10 + (y.toNat : Int) - 48 > 262144 := by omega
                                            go_wp2_with fail
                                            go_roundw
                                            case rel => exact ⟨k + 1, by omega, by omega, by go_num, by rw [HN2.out]; have := HNN.out; congr 1; omega, by first | rfl | trivial, HA2⟩
                                            case measure => simp [RowKit.intOf]; omega
                                    · obtain rfl : k = s + 1 := by omega
                                      have hkI : ¬ ((s + 1 : Nat) : Int) < (s : Int) + 1 := by omega
                                      have HFN := Lib.hid (HFI.out ht1 HOK.out.1 HL2.out (by
                                        rw [HTR.out]
                                        unfold isNum
                                        rw [HAL.out, Bool.and_true]
                                        cases hh : (x.drop f).take (s + 1 - f) with
                                        | nil => rw [hh] at hts; simp at hts; omega
                                        | cons _ _ => rfl))
                                      rw [HTR.out] at HFN
                                      generalize num ((x.drop f).take (s + 1 - f)) = N at *
                                      go_wp2_with fail
                                      go_roundw
                                      case rel => exact ⟨i + 1, 1, N, q4, hlt, by go_num, by first | rfl | go_num, rfl, by first | rfl | trivial, hnl, by decide, HFN⟩
                                      case measure => simp [RowKit.intOf]; omega
                                · have htI : (t : Int) + 1 > 1 := by omega
                                  have HB := Lib.hid (lenOut_bad (w := w) q4 (HTW.out ht1 HL2.out))
                                  clear HD hsI
                                  go_wp2_with fail
                                  go_ret2
                                  exact HB.out
                    · obtain rfl : f = x.length := by omega
                      have hfI : ¬ (x.length : Int) < (x.length : Int) := by omega
                      have hbad : isNum (trim (vl x)) = false := by
                        rw [HOK.out.2, trim_mid (l := x) (i := m + 1) (f := x.length) (t := x.length) hf1 (Nat.le_refl _) (Nat.le_refl _) HB1.out (fun j c h1 h2 => by have := (List.getElem?_eq_some_iff.1 h2).1; omega) (fun h => absurd h (by omega)) (fun h => absurd h (by omega)), Nat.sub_self, List.take_zero]
                        rfl
                      have HB := Lib.hid (lenOut_bad (w := w) q4 (HNV.out HL2.out hbad))
                      clear hbad
                      go_wp2_with fail
                      go_loopw [11] (fun u wr => u = .int .i64 (x.length : Nat) ∧ w.drewN q4 = wr) (fun _ _ => 0)
                      case atStart => exact ⟨rfl, rfl⟩
                      case round =>
                        obtain ⟨rfl, rfl⟩ := hrel
                        go_wp2_with fail
                        go_ret2
                        exact HB.out
        | succ m =>
          have hml : m < x.length := hm
          have hst := cf_step hml
          have hgx := ba_get x m (by rw [hbx]; exact hml)
          have HOD := Lib.hid (fun h1 h2 => ok_drop hml HV.out h1 h2)
          have HBB := Lib.hid (fun h => HBD.out (bad_byte hml h))
          obtain ⟨c, hc⟩ : ∃ c, x[m]'hml = c := ⟨_, rfl⟩
          rw [hc] at hst hgx HOD HBB
          clear hc
          have hk1 : ((m + 1 : Nat) : Int) - 1 = (m : Int) := by omega
          rw [hk1]
          have hmi : (m : Int) ≥ 0 := by omega
          have hmx : (m : Int) < (x.length : Int) := by omega
          have hclt := c.toNat_lt
          by_cases h58 : c.toNat = 58
          · rw [if_pos h58] at hst
            have HC := Lib.hid hst
            have HV2 := Lib.hid (HOD.out (by omega) (by omega))
            have e58 : ((c.toNat : Int) == 58) = true := by rw [h58]; rfl
            have e13 : ((c.toNat : Int) == 13) = false := by rw [h58]; rfl
            have e10 : ((c.toNat : Int) == 10) = false := by rw [h58]; rfl
            clear h58 hst hge
            generalize cf x (m + 1) = C at *
            go_wp2_with fail
            go_roundw
            case rel => exact ⟨m, by omega, by go_num, by rw [HC.out], by first | rfl | trivial, HV2⟩
            case measure => simp [RowKit.intOf]
          · rw [if_neg h58] at hst
            have HC := Lib.hid hst
            have e58 : ((c.toNat : Int) == 58) = false := by simp; omega
            clear hst
            by_cases h13 : c.toNat = 13
            · have HB := Lib.hid (lenOut_bad (w := w) q (HBB.out (.inl h13)))
              have e13 : ((c.toNat : Int) == 13) = true := by rw [h13]; rfl
              clear h13 h58
              generalize cf x (m + 1) = C at *
              go_wp2_with fail
              go_ret2
              exact HB.out
            · have e13 : ((c.toNat : Int) == 13) = false := by simp; omega
              by_cases h10 : c.toNat = 10
              · have HB := Lib.hid (lenOut_bad (w := w) q (HBB.out (.inr h10)))
                have e10 : ((c.toNat : Int) == 10) = true := by rw [h10]; rfl
                clear h13 h58 h10
                generalize cf x (m + 1) = C at *
                go_wp2_with fail
                go_ret2
                exact HB.out
              · have e10 : ((c.toNat : Int) == 10) = false := by simp; omega
                have HV2 := Lib.hid (HOD.out h13 h10)
                clear h13 h10 h58
                generalize cf x (m + 1) = C at *
                go_wp2_with fail
                go_roundw
                case rel => exact ⟨m, by omega, by go_num, by rw [HC.out], by first | rfl | trivial, HV2⟩
                case measure => simp [RowKit.intOf]
    · obtain rfl : i = ls.length := by omega
      have hix : ¬ (ls.length : Int) < (ls.length : Int) := by omega
      rcases lnAt_end HL.out with ⟨rfl, he⟩ | ⟨rfl, he⟩
      · have HB := Lib.hid (lenOut_bad (w := w) q he)
        clear he
        go_wp2_with fail
        go_ret2
        exact HB.out
      · by_cases hbig : n > 262144
        · rw [if_pos hbig] at he
          have hbI : (n : Int) > 262144 := by omega
          have HB := Lib.hid (show LenOut ls w (.returned (.tuple #[.int .i64 0, .int .i64 51])) (w.drewN q) from ⟨by rw [he]; rfl, q, rfl⟩)
          clear he
          go_wp2_with fail
          go_ret2
          exact HB.out
        · rw [if_neg hbig] at he
          have hbI : ¬ (n : Int) > 262144 := by omega
          have HB := Lib.hid (show LenOut ls w (.returned (.tuple #[.int .i64 (n : Nat), .int .i64 0])) (w.drewN q) from ⟨by rw [he]; rfl, q, rfl⟩)
          clear he
          go_wp2_with fail
          go_ret2
          exact HB.out
end Go.Proofs.YtmaclplhphfkiaaDoor
