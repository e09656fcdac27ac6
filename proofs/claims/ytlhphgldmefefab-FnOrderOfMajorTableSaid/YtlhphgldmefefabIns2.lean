/- Orders of what values add, and values taken out, in the model. Condition: the lists' cells can be read. -/
import Derived.Test.YtlhphgldmefefabIns
namespace Go.Proofs.Ytlhphgldmefefab
open Go.RowKit

set_option maxHeartbeats 4000000 in
theorem omS_any (ao : Option Addr) (n cap : Nat) (xs : List Int) (w : World) (h : Sl w ao n cap xs) :
    Calls Try.prog 37 #[.slice ao n cap] w (Made2 w (onVR xs (omT xs)) (decide (VR xs))) := by
  have hbig := h.big
  have hlen := hid h.len
  by_cases hv : VR xs
  · have h7 : n ≤ 7 := by have := hv.len; rw [hlen.out] at this; exact this
    have Hv := hid hv
    clear hv
    go_enter Try.func37, Try.ntmps37
    go_wp2_with fail
    refine (vrS_any _ _ _ xs _ h).mono ?_
    rintro e w1 ⟨rfl, hb1⟩
    rw [decide_eq_true Hv.out]
    go_wp2
    go_loopw [4, 5] (fun v i wr => ∃ (k : Nat) (ao' : Option Addr) (cap' : Nat), k ≤ n ∧ v = .slice ao' k cap' ∧ i = .int .i64 k ∧ Below w.heap.size w wr ∧ Own wr w.heap.size (.slice ao' k cap') (omP xs k))
      (fun v _ _ => n - lenOf v)
    case atStart => exact ⟨0, _, _, Nat.zero_le _, rfl, rfl, hb1.alloc hb1.size _, own_lit_at hb1.size⟩
    case round =>
      obtain ⟨k, ao', cap', hk, rfl, rfl, hbr, ho⟩ := hrel
      by_cases hlt : k < n
      · obtain ⟨b, off, rfl, hblt, hc⟩ := h.row (by omega)
        have hcc := hid hc
        have hi1 : (k : Int) < n := by omega
        have hr := Hv.out.upto (k := k + 1) (by rw [hlen.out]; omega)
        have hpv := omP_valid k (by omega) (fun j hj => hr j (by omega))
        have Hp := hid hpv
        have hlo : (omP xs k).length = k := hpv.2
        obtain ⟨ki, hki1, hki2, hki3⟩ := dfs_first hpv.1 (by omega) (a := el xs k) (by rw [hpv.2]; exact hr k (by omega))
        rw [hpv.2] at hki1
        have Hki2 := hid hki2
        have Hki3 := hid hki3
        have hsz := hbr.size
        clear hc hr hpv hki2 hki3
        go_wp2
        go_loopw [4, 6] (fun v i wr => ∃ (j : Nat), j ≤ ki ∧ v = .slice ao' k cap' ∧ i = .int .i64 j ∧ Below w.heap.size w wr ∧ Own wr w.heap.size (.slice ao' k cap') (omP xs k))
          (fun _ i _ => ki + 1 - (intOf i).toNat)
        case atStart => exact ⟨0, Nat.zero_le _, rfl, rfl, hbr, ho⟩
        case round =>
          obtain ⟨j, hj, rfl, rfl, hbi, hoi⟩ := hrel
          have hj1 : (j : Int) ≤ k := by omega
          have hszi := hbi.size
          go_wp2_with fail
          refine (insertAt_any _ _ _ (omP xs k) (k : Int) j _ hoi.read hoi.nilcap (by omega) (by omega)).mono ?_
          rintro e wa ⟨ua, rfl, oa, ba⟩
          have eI : (omP xs k).take j ++ [(k : Int)] ++ (omP xs k).drop j = insT (omP xs k) j := by rw [insT, ins, Hp.out.2]
          rw [eI] at oa
          have la : (insT (omP xs k) j).length = k + 1 := by rw [insT_len _ (by omega), Hp.out.2]
          obtain ⟨K1, hK1⟩ : ∃ K1, K1 = k + 1 := ⟨_, rfl⟩
          rw [← hK1] at la
          obtain ⟨ada, cpa, rfl, sa⟩ := oa.sl
          rw [la] at sa oa ⊢
          have Hla := hid la
          have hK7 : K1 ≤ 7 := by omega
          have tb := hbi.trans (ba.mono hszi)
          have hob := hoi.below (Nat.le_refl _) ba
          have ma := major_bd (xs := insT (omP xs k) j) (by rw [Hla.out]; omega)
          have ma0 := ma.1
          have ma1 := ma.2
          have mc := major_bd (xs := omP xs k) (by rw [hlo]; omega)
          have mc0 := mc.1
          have mc1 := mc.2
          have hcell := (tb.cell (p := ⟨b, off + k, none⟩) hblt).trans (hcc.out k hlt)
          clear eI ma mc la hK1
          have hwr : IntKind.i64.wrap (major (insT (omP xs k) j) - major (omP xs k)) = dfs (omP xs k) j := IntWalk.i64_in _ ⟨by omega, by omega⟩
          obtain ⟨D, hD⟩ : ∃ D, D = dfs (omP xs k) j := ⟨_, rfl⟩
          obtain ⟨M, hM⟩ : ∃ M, M = major (insT (omP xs k) j) := ⟨_, rfl⟩
          obtain ⟨M2, hM2⟩ : ∃ M, M = major (omP xs k) := ⟨_, rfl⟩
          rw [← hD, ← hM, ← hM2] at hwr
          rw [← hM] at ma0 ma1
          rw [← hM2] at mc0 mc1
          have HD := hid hD
          clear hD
          have hcon := fun (u : Nat) (v : World) (hs : Sl v ada K1 cpa (insT (omP xs k) j)) => major_any ada K1 cpa (insT (omP xs k) j) v hs (by omega)
          have hcon2 := fun (v : World) (hs : Sl v ao' k cap' (omP xs k)) => major_any ao' k cap' (omP xs k) v hs (by omega)
          rw [← hM] at hcon
          rw [← hM2] at hcon2
          have Hcon := hid hcon
          have Hcon2 := hid hcon2
          clear hcon hcon2 hM hM2
          by_cases he : D = el xs k
          · have ht : (D == el xs k) = true := by simpa using he
            have He := hid he
            clear he
            have saD : Sl wa.drew ada K1 cpa (insT (omP xs k) j) := sa.drew
            have hobD : Own wa.drew w.heap.size (.slice ao' k cap') (omP xs k) := hob.drew
            have tbD : Below w.heap.size w wa.drew := tb.drew
            have oaD : Own wa.drew w.heap.size (.slice ada K1 cpa) (insT (omP xs k) j) := (oa.mono hszi).drew
            have hcellD : wa.drew.cell? ⟨b, off + k, none⟩ = some (.int .i64 (el xs k)) := hcell
            clear sa hob tb hcell
            go_wp2_with fail
            go_region_with (first
              | (go_at_call 70; refine (Hcon2.out _ slc).mono ?_; rintro e wc ⟨rfl, bc⟩; have hcellc := (bc.cell (p := ⟨b, off + k, none⟩) (Nat.lt_of_lt_of_le hblt tbb.size)).trans hcellb; have oac := oab.below (Nat.le_refl _) bc; have hocc := hoc.below (Nat.le_refl _) bc; have tbc := tbb.trans (bc.mono tbb.size))
              | (go_at_call 70; refine (Hcon.out 0 _ saD).mono ?_; rintro e wb ⟨rfl, bb⟩; have hcellb := (bb.cell (p := ⟨b, off + k, none⟩) (Nat.lt_of_lt_of_le hblt tbD.size)).trans hcellD; have hoc := hobD.below (Nat.le_refl _) bb; have tbb := tbD.trans (bb.mono tbD.size); have slc := hoc.read; have oab := oaD.below (Nat.le_refl _) bb))
            all_goals (
              have ej : j = ki := by
                rcases Nat.lt_or_ge j ki with hq | hq
                · exact absurd (HD.out.symm.trans He.out) (Hki3.out j hq)
                · omega
              have eo : insT (omP xs k) j = omP xs (k + 1) := by
                subst ej
                rw [omP]
                exact (omS_at (by rw [Hp.out.2]; omega) (fun i hi => Hki3.out i hi) (HD.out.symm.trans He.out)).symm
              have eK : K1 = k + 1 := by have := Hla.out; rw [insT_len _ (by omega), Hp.out.2] at this; omega
              subst eK
              rw [eo] at oac
              have Oac := hid oac
              clear ej eo oac hocc hcellc slc oab hoc tbb hcellb oaD saD hobD oa
              go_wp2
              go_roundw
              case rel => exact ⟨k + 1, _, _, by omega, rfl, by go_num, tbc, Oac.out⟩
              case measure => simp [lenOf]; omega)
          · have ht : (D == el xs k) = false := by simpa using he
            have He := hid he
            clear he
            have saD : Sl wa.drew ada K1 cpa (insT (omP xs k) j) := sa.drew
            have hobD : Own wa.drew w.heap.size (.slice ao' k cap') (omP xs k) := hob.drew
            have tbD : Below w.heap.size w wa.drew := tb.drew
            have oaD : Own wa.drew w.heap.size (.slice ada K1 cpa) (insT (omP xs k) j) := (oa.mono hszi).drew
            have hcellD : wa.drew.cell? ⟨b, off + k, none⟩ = some (.int .i64 (el xs k)) := hcell
            clear sa hob tb hcell
            go_wp2_with fail
            go_region_with (first
              | (go_at_call 70; refine (Hcon2.out _ slc).mono ?_; rintro e wc ⟨rfl, bc⟩; have hcellc := (bc.cell (p := ⟨b, off + k, none⟩) (Nat.lt_of_lt_of_le hblt tbb.size)).trans hcellb; have oac := oab.below (Nat.le_refl _) bc; have hocc := hoc.below (Nat.le_refl _) bc; have tbc := tbb.trans (bc.mono tbb.size))
              | (go_at_call 70; refine (Hcon.out 0 _ saD).mono ?_; rintro e wb ⟨rfl, bb⟩; have hcellb := (bb.cell (p := ⟨b, off + k, none⟩) (Nat.lt_of_lt_of_le hblt tbD.size)).trans hcellD; have hoc := hobD.below (Nat.le_refl _) bb; have tbb := tbD.trans (bb.mono tbD.size); have slc := hoc.read; have oab := oaD.below (Nat.le_refl _) bb))
            all_goals (
              have ej : j < ki := by
                rcases Nat.lt_or_ge j ki with hq | hq
                · exact hq
                · exact absurd (HD.out.trans (by rw [show j = ki by omega]; exact Hki2.out)) He.out
              have Hocc := hid hocc
              clear oac hocc hcellc slc oab hoc tbb hcellb oaD saD hobD oa
              go_wp2
              go_roundw
              case rel => exact ⟨j + 1, by omega, rfl, by go_num, tbc, Hocc.out⟩
              case measure => simp [intOf]; omega)
      · obtain rfl : k = n := by omega
        go_wp2
        go_ret2
        have oF : Own wr w.heap.size (.slice ao' k cap') (onVR xs (omT xs)) := by
          rw [onVR_yes Hv.out, omT, hlen.out]; exact ho
        exact made2_yes Hv.out oF hbr
  · have Hv := hid hv
    clear hv
    go_enter Try.func37, Try.ntmps37
    go_wp2_with fail
    refine (vrS_any _ _ _ xs _ h).mono ?_
    rintro e w1 ⟨rfl, hb1⟩
    rw [decide_eq_false Hv.out]
    go_wp2
    go_ret2
    exact made2_no Hv.out (onVR_no Hv.out) hb1

end Go.Proofs.Ytlhphgldmefefab
