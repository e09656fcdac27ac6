/- All signed orders, in the model; and the other numbers. No condition. -/
import Derived.Test.YtjgaglfinpeeoacAsg
import Derived.Test.YtjgaglfinpeeoacRowC
namespace Go.Proofs.Ytjgaglfinpeeoac
open Go.RowKit

theorem wsg_cut (xs : List Int) (s : Nat) {n : Nat} (h : xs.length = n) : wsg xs s = (List.range n).map (wsF xs s) := by rw [wsg, h]

set_option maxHeartbeats 1000000 in
theorem asgI_no (n : Int) (w : World) (h : n < 0 ∨ 3 < n) : Calls Try.prog 12 #[.int .i64 n] w (MadeL w []) := by
  go_enter Try.func12, Try.ntmps12
  rcases h with h | h
  · go_wp2
    go_ret
    exact ⟨_, rfl, (OwnL.nil (Nat.le_refl _)).now, Below.refl _ _⟩
  · have h0 : ¬ n < 0 := by omega
    go_wp2
    go_ret
    exact ⟨_, rfl, (OwnL.nil (Nat.le_refl _)).now, Below.refl _ _⟩

set_option maxHeartbeats 4000000 in
theorem asgS0_any (n : Nat) (w : World) (hn : n ≤ 3) : Calls Try.prog 42 #[.int .i64 n] w (MadeL w (allG n)) := by
  have hsm := allG_small hn
  obtain ⟨hf6, hp8, hfp⟩ := hsm
  have Hf6 := hid hf6
  have Hp8 := hid hp8
  have Hfp := hid hfp
  clear hf6 hp8 hfp
  obtain ⟨P, HP⟩ : ∃ P : Nat, Hid (P = 2 ^ n) := ⟨_, rfl⟩
  have hP8 : P ≤ 8 := by rw [HP.out]; exact Hp8.out
  go_enter Try.func42, Try.ntmps42
  go_wp2_with fail
  refine (allS0_any n _ (by omega)).mono ?_
  rintro e w2 ⟨ua, rfl, oa, b2⟩
  have oa2 := oa
  obtain ⟨ada, cpa, rfl, -⟩ := oa.sl
  rw [allK_len] at oa2 ⊢
  have b2' : Below w.heap.size w w2 := ((Below.refl w.heap.size w).alloc (Nat.le_refl _) _).trans (b2.mono (by simp))
  have hL2 : w.heap.size + 1 ≤ w2.heap.size := by have := b2.size; simp at this; exact this
  have hO0 : OwnLp (winQ (w.heap.size + 1) w2.heap.size) w2 w.heap.size w2.heap.size (.slice (some ⟨w.heap.size, 0, none⟩) 0 0) ((allG n).take (0 * P)) := by
    rw [Nat.zero_mul, List.take_zero]
    exact ((ownLp_lit (w := w) (B := w.heap.size) (q := winQ (w.heap.size + 1) w2.heap.size) (Nat.le_refl _) (by unfold winQ; omega)).later b2).now
  have HO0 := hid hO0
  simp only [World.size_alloc] at oa2
  have Hoa := hid oa2
  clear hO0 oa oa2
  go_wp2
  go_loopw [3, 5] (fun v i wr => ∃ (k N : Nat) (ao' : Option Addr) (cap' : Nat), k ≤ facN n ∧ v = .slice ao' N cap' ∧ i = .int .i64 k ∧ Below w.heap.size w wr ∧ w2.heap.size ≤ wr.heap.size ∧ Hid (OwnLp (winQ (w.heap.size + 1) w2.heap.size) wr w.heap.size wr.heap.size (.slice ao' N cap') ((allG n).take (k * P))) ∧ Hid (∀ j, w.heap.size + 1 ≤ j → j < w2.heap.size → wr.heap[j]? = w2.heap[j]?))
    (fun _ i _ => facN n - (intOf i).toNat)
  case atStart => exact ⟨0, _, _, _, Nat.zero_le _, rfl, rfl, b2', Nat.le_refl _, HO0, hid (fun j _ _ => rfl)⟩
  case round =>
    obtain ⟨i, N, ao', cap', hik, rfl, rfl, hbr, hsw, HO, HW⟩ := hrel
    by_cases hlt : i < facN n
    · obtain ⟨g, ai, ci, rfl, hgB, hgC, hgw, hcell, hown, hblk⟩ := Hoa.out.item (allK_len n) hlt
      have hek : ell (allK n) i = ordK n i := by rw [ell_lt (by rw [allK_len]; exact hlt)]; simp [allK]
      rw [hek, ordK_len] at hcell hown hblk
      have Hcell := hid hcell
      have Hown := hid hown
      have Hblk := hid hblk
      have hii : (i : Int) < (facN n : Int) := by omega
      have hi6 : (i : Int) ≤ 6 := by have := Hf6.out; omega
      clear hek hown hblk hcell
      go_wp2
      obtain ⟨wo, hwo⟩ : ∃ wo : World, wo = wr := ⟨_, rfl⟩
      subst hwo
      go_loopw [6, 7] (fun v j wr => ∃ (k p : Nat), k ≤ n ∧ v = .int .i64 p ∧ j = .int .i64 k ∧ Below w.heap.size w wr ∧ w2.heap.size ≤ wr.heap.size ∧ Hid (OwnLp (winQ (w.heap.size + 1) w2.heap.size) wr w.heap.size wr.heap.size (.slice ao' N cap') ((allG n).take (i * P))) ∧ Hid (∀ j, w.heap.size + 1 ≤ j → j < w2.heap.size → wr.heap[j]? = w2.heap[j]?) ∧ Hid (p = 2 ^ k) ∧ p ≤ 8)
        (fun _ j _ => n - (intOf j).toNat)
      case atStart => exact ⟨0, 1, Nat.zero_le _, rfl, rfl, hbr, hsw, HO, HW, hid rfl, by omega⟩
      case round =>
        obtain ⟨k, p, hk, rfl, rfl, hbr, hsw, HO, HW, Hp, hp8⟩ := hrel
        by_cases hkn : k < n
        · have hki : (k : Int) < n := by omega
          have Hp2 : Hid (2 * p = 2 ^ (k + 1)) := hid (by rw [Hp.out, Nat.pow_succ]; omega)
          have hp82 : 2 * p ≤ 8 := by
            rw [Hp2.out]
            have := Nat.pow_le_pow_right (n := 2) (by omega) (show k + 1 ≤ n by omega)
            exact Nat.le_trans this Hp8.out
          go_wp2
          go_roundw
          case rel => exact ⟨k + 1, 2 * p, by omega, by push_cast; rfl, by go_num, hbr, hsw, HO, HW, Hp2, hp82⟩
          case measure => simp [intOf]; omega
        · obtain rfl : k = n := by omega
          have hpP : p = P := by rw [Hp.out, HP.out]
          subst hpP
          go_wp2
          obtain ⟨wo, hwo⟩ : ∃ wo : World, wo = wr := ⟨_, rfl⟩
          subst hwo
          go_loopw [3, 8] (fun v j wr => ∃ (s N : Nat) (ao' : Option Addr) (cap' : Nat), s ≤ p ∧ v = .slice ao' N cap' ∧ j = .int .i64 s ∧ Below w.heap.size w wr ∧ w2.heap.size ≤ wr.heap.size ∧ Hid (OwnLp (winQ (w.heap.size + 1) w2.heap.size) wr w.heap.size wr.heap.size (.slice ao' N cap') ((allG k).take (i * p + s))) ∧ Hid (∀ j, w.heap.size + 1 ≤ j → j < w2.heap.size → wr.heap[j]? = w2.heap[j]?))
            (fun _ j _ => p - (intOf j).toNat)
          case atStart => exact ⟨0, _, _, _, Nat.zero_le _, rfl, rfl, hbr, hsw, HO, HW⟩
          case round =>
            obtain ⟨s, N, ao', cap', hs, rfl, rfl, hbr, hsw, HO, HW⟩ := hrel
            by_cases hst : s < p
            · have hsi : (s : Int) < (p : Int) := by omega
              have Ht : Hid ((allG k).take (i * p + (s + 1)) = (allG k).take (i * p + s) ++ [wsg (ordK k i) s]) := hid (by rw [HP.out]; exact take_allG hlt (by rw [← HP.out]; exact hst))
              have hl0 : ((allG k).take (i * p + s)).length ≤ 2000000 := by have := Hfp.out; rw [List.length_take, allG_len]; omega
              have hcg : wr.cell? ⟨g, i, none⟩ = some (.slice ai k ci) := (cell_same (HW.out g hgB hgC)).trans Hcell.out
              have hog : Own wr (w.heap.size + 1) (.slice ai k ci) (ordK k i) := own_chg Hown.out (fun t ht _ => HW.out t (Hown.out.blocks t ht).1 (Hblk.out t ht))
              have hgr : g < wr.heap.size := by omega
              have hsl := hog.read
              have Hcg := hid hcg
              have Hsl := hid hsl
              have hv := hid (ordK_valid (n := k) (by omega) i)
              clear hcg hog hsl
              go_wp2
              obtain ⟨wB, hwB⟩ : ∃ wB : World, wB = wr := ⟨_, rfl⟩
              subst hwB
              go_loopw [9, 10, 11] (fun v l j wr => ∃ (t m : Nat) (ao4 : Option Addr) (cap4 : Nat), t ≤ k ∧ v = .slice ao4 t cap4 ∧ l = .int .i64 m ∧ j = .int .i64 t ∧ Below wB.heap.size wB wr ∧ Own wr wB.heap.size (.slice ao4 t cap4) ((List.range t).map (wsF (ordK k i) s)) ∧ Hid (m = s / 2 ^ t) ∧ m ≤ 8)
                (fun _ _ j _ => k - (intOf j).toNat)
              case atStart => exact ⟨0, s, _, _, Nat.zero_le _, rfl, rfl, rfl, (Below.refl _ _).alloc (Nat.le_refl _) _, own_lit wB, hid (by simp), by omega⟩
              case round =>
                obtain ⟨t, m, ao4, cap4, ht, rfl, rfl, rfl, hb4, ho4, Hm, hm8⟩ := hrel
                by_cases htk : t < k
                · have hcg2 := (hb4.cell (p := ⟨g, i, none⟩) hgr).trans Hcg.out
                  obtain ⟨b, off, rfl, hblt, hc⟩ := (Hsl.out.later hb4).row (by omega)
                  have hcell := hc t htk
                  have hx1 := hv.out.lo t (by rw [ordK_len]; exact htk)
                  have hx2 := hv.out.hi t (by rw [ordK_len]; exact htk)
                  rw [ordK_len] at hx2
                  have hx3 : el (ordK k i) t ≤ 2 := by omega
                  have hti : (t : Int) < k := by omega
                  have hl4 : ((List.range t).map (wsF (ordK k i) s)).length ≤ 2000000 := by rw [map_range_len]; omega
                  have hsz4 := hb4.size
                  have Hm2 : Hid (m / 2 = s / 2 ^ (t + 1)) := hid (by rw [Hm.out, Nat.div_div_eq_div_mul, Nat.pow_succ])
                  clear hc hx2
                  by_cases hd : m % 2 = 1
                  · have hbt : ((m : Int) % 2 == 1) = true := by simp; omega
                    have hbt2 : ((m : Int).tmod 2 == 1) = true := by rw [Int.tmod_eq_emod_of_nonneg (by omega)]; exact hbt
                    have HF : Hid (wsF (ordK k i) s t = -(el (ordK k i) t + 1)) := hid (by rw [wsF, ← Hm.out, if_pos hd])
                    clear hd
                    go_wp2_with (at_builtin; refine app_int _ _ rfl _ _ rfl wB.heap.size _ _ rfl ho4 rfl hl4 hsz4 ?_)
                    intro u' w' ho' hg'
                    have hb' := below_app hb4 ho4 hg'
                    have ho2' : Own w' wB.heap.size u' ((List.range (t + 1)).map (wsF (ordK k i) s)) := by
                      rw [map_range_succ (wsF (ordK k i) s), HF.out]
                      exact ho'
                    clear ho'
                    obtain ⟨ao6, cap6, rfl, hs'⟩ := ho2'.sl
                    rw [map_range_len] at *
                    go_wp2
                    go_roundw
                    case rel => exact ⟨t + 1, m / 2, _, _, by omega, rfl, by simp, by go_num, hb', ho2', Hm2, by omega⟩
                    case measure => simp [intOf]; omega
                  · have hbt : ((m : Int) % 2 == 1) = false := by simp; omega
                    have hbt2 : ((m : Int).tmod 2 == 1) = false := by rw [Int.tmod_eq_emod_of_nonneg (by omega)]; exact hbt
                    have HF : Hid (wsF (ordK k i) s t = el (ordK k i) t + 1) := hid (by rw [wsF, ← Hm.out, if_neg hd])
                    clear hd
                    go_wp2_with (at_builtin; refine app_int _ _ rfl _ _ rfl wB.heap.size _ _ rfl ho4 rfl hl4 hsz4 ?_)
                    intro u' w' ho' hg'
                    have hb' := below_app hb4 ho4 hg'
                    have ho2' : Own w' wB.heap.size u' ((List.range (t + 1)).map (wsF (ordK k i) s)) := by
                      rw [map_range_succ (wsF (ordK k i) s), HF.out]
                      exact ho'
                    clear ho'
                    obtain ⟨ao6, cap6, rfl, hs'⟩ := ho2'.sl
                    rw [map_range_len] at *
                    go_wp2
                    go_roundw
                    case rel => exact ⟨t + 1, m / 2, _, _, by omega, rfl, by simp, by go_num, hb', ho2', Hm2, by omega⟩
                    case measure => simp [intOf]; omega
                · obtain rfl : t = k := by omega
                  have o4 : Own wr wB.heap.size (.slice ao4 t cap4) (wsg (ordK t i) s) := by rw [wsg_cut (ordK t i) s (ordK_len t i)]; exact ho4
                  have HO4 : Hid (OwnLp (winQ (w.heap.size + 1) w2.heap.size) wr w.heap.size wB.heap.size (.slice ao' N cap') ((allG t).take (i * p + s))) := hid (HO.out.later hb4)
                  have hs4 := hb4.size
                  have hb5 := hbr.trans (hb4.mono hbr.size)
                  have Hblk2 := hid HO4.out.blk
                  clear ho4
                  go_wp2_with (at_builtin; refine app_lstp (winQ (w.heap.size + 1) w2.heap.size) wB.heap.size wr _ (wsg (ordK t i) s) rfl _ _ rfl w.heap.size wB.heap.size _ _ HO4.out (Nat.le_refl _) hs4 (fun j hj => by unfold winQ at hj; omega) o4 rfl rfl hl0 ?_)
                  intro u' w5 ho5 hb6 hg5
                  rw [← Ht.out] at ho5
                  obtain ⟨ao5, cp5, rfl, -⟩ := ho5.any.sl
                  obtain ⟨L5, hL5⟩ : ∃ L, L = ((allG t).take (i * p + (s + 1))).length := ⟨_, rfl⟩
                  rw [← hL5] at ho5 ⊢
                  have HO5 := hid ho5
                  have hb7 := hb5.trans hb6
                  have hs5 : w2.heap.size ≤ w5.heap.size := by have := hg5.size; omega
                  have HW5 : Hid (∀ j, w.heap.size + 1 ≤ j → j < w2.heap.size → w5.heap[j]? = w2.heap[j]?) := hid (fun j h1 h2 => by
                    rw [hg5.block j (by omega) (fun e => (Hblk2.out j e.symm).1 ⟨h1, h2⟩), hb4.block j (by omega)]
                    exact HW.out j h1 h2)
                  clear hL5 ho5 o4 hb6 hg5 HO4 hs4 hb5
                  go_wp2
                  go_roundw
                  case rel => exact ⟨s + 1, L5, ao5, cp5, by omega, rfl, by go_num, hb7, hs5, HO5, HW5⟩
                  case measure => simp [intOf]; omega
            · obtain rfl : s = p := by omega
              have HO6 : Hid (OwnLp (winQ (w.heap.size + 1) w2.heap.size) wr w.heap.size wr.heap.size (.slice ao' N cap') ((allG k).take ((i + 1) * s))) := hid (by rw [Nat.succ_mul]; exact HO.out)
              go_wp2
              go_roundw
              case rel => exact ⟨i + 1, N, ao', cap', by omega, rfl, by go_num, hbr, hsw, HO6, HW⟩
              case measure => simp [intOf]; omega
    · obtain rfl : i = facN n := by omega
      go_wp2
      go_ret
      refine ⟨_, rfl, ?_, hbr⟩
      have := HO.out.any
      rw [HP.out] at this
      rwa [List.take_of_length_le (by rw [allG_len]; exact Nat.le_refl _)] at this

theorem asgS_yes (n : Nat) (w : World) (hn : n ≤ 3) : Calls Try.prog 14 #[.int .i64 n] w (MadeL w (allG n)) := by
  go_enter Try.func14, Try.ntmps14
  go_wp2_with fail
  refine (inRange_any _ _ _ _).mono ?_
  rintro e w' ⟨rfl, hww⟩
  subst hww
  rw [show decide ((0 : Int) ≤ n ∧ (n : Int) ≤ 3) = true by simp; omega]
  go_wp2_with fail
  refine (asgS0_any n w hn).mono ?_
  rintro e w2 ⟨u2, rfl, o2, b2⟩
  go_wp2
  go_ret
  exact ⟨_, rfl, o2, b2⟩
theorem asgS_no (n : Int) (w : World) (h : n < 0 ∨ 3 < n) : Calls Try.prog 14 #[.int .i64 n] w (MadeL w []) := by
  go_enter Try.func14, Try.ntmps14
  go_wp2_with fail
  refine (inRange_any _ _ _ _).mono ?_
  rintro e w' ⟨rfl, hww⟩
  subst hww
  rw [show decide ((0 : Int) ≤ n ∧ n ≤ 3) = false from decide_eq_false (by omega)]
  go_wp2
  go_ret
  exact ⟨_, rfl, (OwnL.nil (Nat.le_refl _)).now, Below.refl _ _⟩

end Go.Proofs.Ytjgaglfinpeeoac
