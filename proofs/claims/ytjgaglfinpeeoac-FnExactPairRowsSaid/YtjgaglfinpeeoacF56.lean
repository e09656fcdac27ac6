/- The walks of the laws of PairRows. Condition of the laws' own: at most 2^20 bytes. -/
import Derived.Test.YtjgaglfinpeeoacPrt
import Derived.Test.YtjgaglfinpeeoacTrn
import Derived.Test.YtjgaglfinpeeoacDrP
import Derived.Test.YtjgaglfinpeeoacLawL
import Derived.Test.YtjgaglfinpeeoacLawRow
import Derived.Test.YtjgaglfinpeeoacRowS
namespace Go.Proofs.Ytjgaglfinpeeoac
open Go.RowKit

theorem mxN_all : (List.range 9).all (fun k => (List.range 6).all fun m => decide (mxN k m ≤ 20)) = true := by decide +kernel
theorem mxN_20 {k m : Nat} (h9 : k < 9) (hm : m ≤ 5) : mxN k m ≤ 20 :=
  of_decide_eq_true (List.all_eq_true.1 (List.all_eq_true.1 mxN_all k (List.mem_range.2 h9)) m (List.mem_range.2 (by omega)))
theorem pair_all : (List.range 6).all (fun m => decide (prow 5 1 m = prow 6 2 m) && decide (turnR (mxN 0 m) (mxN 1 m) (prow 0 1 m) = prow 0 1 m) && decide (turnR (mxN 3 m) (mxN 4 m) (prow 3 4 m) = prow 3 4 m)) = true := by decide +kernel
theorem pair_facts {m : Nat} (h : m ≤ 5) : prow 5 1 m = prow 6 2 m ∧ turnR (mxN 0 m) (mxN 1 m) (prow 0 1 m) = prow 0 1 m ∧ turnR (mxN 3 m) (mxN 4 m) (prow 3 4 m) = prow 3 4 m := by
  have t := List.all_eq_true.1 pair_all m (List.mem_range.2 (by omega))
  simp only [Bool.and_eq_true, decide_eq_true_eq] at t
  exact ⟨t.1.1, t.1.2, t.2⟩
theorem prow_rows {a b m x : Nat} (hx : x < mxN a m) : (ell (prow a b m) x).length = mxN b m := by rw [prow, ell_rowsP hx, rowP_len]
theorem prow_bd {a b m x : Nat} (hm : m ≤ 5) (hx : x < mxN a m) : Bd (ell (prow a b m) x) 10000 := by
  intro j
  by_cases hj : j < (ell (prow a b m) x).length
  case neg =>
    have : el (ell (prow a b m) x) j = 0 := by simp [el, List.getD, List.getElem?_eq_none (Nat.not_lt.1 hj)]
    omega
  rw [prow_rows hx] at hj
  rw [prow, ell_rowsP hx, el_rowP hj]
  have := pcnt_le (pz a b m) x j
  rw [pz_len] at this
  have := (facN_pos m (by omega)).2
  omega
theorem madeL2_to {P : Program} {f : FuncId} {a : Array Value} {w : World} {v v' : List (List Int)} {b : Bool} (h : Calls P f a w (MadeL2 w v b)) (e : v = v') : Calls P f a w (MadeL2 w v' b) := e ▸ h

set_option maxRecDepth 20000 in
set_option maxHeartbeats 8000000 in
theorem fnPairRows (bo : Option Addr) (n cap : Nat) (cs : List Int) (w : World) (h : Slb w bo n cap cs) :
    Calls Try.prog 7 #[.slice bo n cap] w (Says w (.bool true)) := by
  have hbig := h.big
  by_cases hn : n ≤ 1048576
  · go_enter Try.func7, Try.ntmps7
    go_wp2_with fail
    refine (drawPairRows_any _ _ _ _ _ h).mono ?_
    rintro e w1 ⟨s, t, v, rfl, hv0, hv1, t1⟩
    by_cases hok : ixOf s < 9 ∧ ixOf t < 9 ∧ 0 ≤ v ∧ v ≤ 5
    · obtain ⟨m, rfl⟩ := Int.eq_ofNat_of_zero_le hok.2.2.1
      have hm : m ≤ 5 := by omega
      obtain ⟨a, ha⟩ : ∃ a, a = ixOf s := ⟨_, rfl⟩
      obtain ⟨b, hb⟩ : ∃ b, b = ixOf t := ⟨_, rfl⟩
      have ha9 : a < 9 := by rw [ha]; exact hok.1
      have hb9 : b < 9 := by rw [hb]; exact hok.2.1
      have hfp := facN_pos m (by omega)
      have HI := hid (fun w => priI_yes s t a b m w ha hb ha9 hb9 hm)
      have HI2 := hid (fun w => priI_yes t s b a m w hb ha hb9 ha9 hm)
      have HS := hid (fun w => prtS_yes s t a b m w ha hb ha9 hb9 hm)
      have HR := hid (fun w => rowI_yes s a m w ha ha9 hm)
      have HN := hid (prow_len a b m)
      have HN2 := hid (prow_len b a m)
      have HM := hid (fun x (hx : x < mxN a m) => prow_rows (b := b) hx)
      have Hbd := hid (fun x (hx : x < mxN a m) => prow_bd (b := b) hm hx)
      have Htot := hid (fun x (hx : x < mxN a m) => row_total (b := b) hb9 hm hx)
      have Hll := hid (tal_numK_len a m)
      have Htn := hid (turn_prow a b m)
      have hN0 := mxN_pos a m (by omega)
      have hN20 := mxN_20 ha9 hm
      have hM20 := mxN_20 hb9 hm
      generalize prow a b m = R at *
      generalize prow b a m = R2 at *
      generalize tal (numK a m) = l at *
      generalize mxN a m = N at *
      generalize mxN b m = M at *
      clear hok hv0 hv1 ha hb ha9 hb9 hfp hm
      go_wp2_with fail
      refine (HI.out _).mono ?_
      rintro e w2 ⟨u2, rfl, o2, b2⟩
      have t2 := t1.trans (b2.mono t1.size)
      obtain ⟨ada, cpa, rfl, sa_2⟩ := o2.sl
      rw [HN.out] at sa_2 ⊢
      clear o2
      go_wp2_with fail
      refine (HS.out _).mono ?_
      rintro e w3 ⟨u3, rfl, o3, b3⟩
      have t3 := t2.trans (b3.mono t2.size)
      have sa_3 := sa_2.later b3
      obtain ⟨adb, cpb, rfl, sb_3⟩ := o3.sl
      rw [HN.out] at sb_3 ⊢
      clear o3
      go_wp2_with fail
      refine (says_tob (equalLists_any _ _ _ R _ _ _ R _ sa_3 sb_3) (decide_eq_true rfl)).mono ?_
      rintro e w4 ⟨rfl, b4⟩
      have t4 := t3.trans (b4.mono t3.size)
      have sa_4 := sa_3.later b4
      go_wp2_with fail
      refine (HI2.out _).mono ?_
      rintro e w5 ⟨u5, rfl, o5, b5⟩
      have t5 := t4.trans (b5.mono t4.size)
      have sa_5 := sa_4.later b5
      obtain ⟨adc, cpc, rfl, sc_5⟩ := o5.sl
      rw [HN2.out] at sc_5 ⊢
      clear o5
      go_wp2_with fail
      refine (HR.out _).mono ?_
      rintro e w6 ⟨u6, rfl, o6, b6⟩
      have t6 := t5.trans (b6.mono t5.size)
      have sa_6 := sa_5.later b6
      have sc_6 := sc_5.later b6
      obtain ⟨add, cpd, rfl, sd_6⟩ := o6.sl
      rw [Hll.out] at sd_6 ⊢
      clear o6
      go_wp2
      go_loopw [14] (fun i wr => ∃ k : Nat, k ≤ N ∧ i = .int .i64 k ∧ Below w6.heap.size w6 wr) (fun i _ => N - (intOf i).toNat)
      case atStart => exact ⟨0, Nat.zero_le _, rfl, Below.refl _ _⟩
      case round =>
        obtain ⟨k, hk, rfl, hbr⟩ := hrel
        have sa := sa_6.later hbr
        have sc := sc_6.later hbr
        have sd := sd_6.later hbr
        have tr := t6.trans (hbr.mono t6.size)
        by_cases hlt : k < N
        · have hki : (k : Int) < N := by omega
          obtain ⟨b1, off1, e1, hb1, hc1⟩ := sa.row (by omega)
          obtain ⟨b2, off2, e2, hb2, hc2⟩ := sd.row (by omega)
          subst e1
          subst e2
          obtain ⟨ai, ci, hcell, hsi⟩ := hc1 k hlt
          rw [HM.out k hlt] at hcell hsi
          have hcd := hc2 k hlt
          have Hq : Hid (∀ q, Calls Try.prog 35 #[.slice ai M ci] (wr.drewN q) fun e w' => e = .returned (.int .i64 (el l k)) ∧ w' = wr.drewN q) := hid (fun q => by
            rw [← Htot.out k hlt]
            exact totalQ_any _ _ _ (ell R k) _ (hsi.drewN q) (by omega) (hid (Hbd.out k hlt)))
          clear hc1 hc2
          go_wp2_with fail
          go_quiet ((go_at_call 35; exact Calls.quiet_of_same (Hq.out _)))
          go_wp2
          go_roundw
          case rel => exact ⟨k + 1, by omega, by go_num, drewN_below hbr _⟩
          case measure => simp [intOf]; omega
        · obtain rfl : N = k := by omega
          clear hbr sa_6 sc_6 sd_6 t6
          go_wp2_with fail
          refine (madeL_to (turned_any _ _ _ R _ sa M (by omega) (by omega) (by omega) HM) Htn.out).mono ?_
          rintro e w7 ⟨u7, rfl, o7, b7⟩
          have t7 := tr.trans (b7.mono tr.size)
          have sc_7 := sc.later b7
          obtain ⟨ade, cpe, rfl, se_7⟩ := o7.sl
          rw [HN2.out] at se_7 ⊢
          clear o7
          go_wp2_with fail
          refine (says_tob (equalLists_any _ _ _ R2 _ _ _ R2 _ sc_7 se_7) (decide_eq_true rfl)).mono ?_
          rintro e w8 ⟨rfl, b8⟩
          have t8 := t7.trans (b8.mono t7.size)
          go_wp2
          go_ret
          exact ⟨rfl, t8⟩
    · go_wp2_with fail
      refine (priI_no s t v _ hok).mono ?_
      rintro e w2 ⟨u2, rfl, o2, b2⟩
      have t2 := t1.trans (b2.mono t1.size)
      obtain ⟨ada, cpa, rfl, sa_2⟩ := o2.sl
      clear o2
      go_wp2_with fail
      refine (prtS_no s t v _ hok).mono ?_
      rintro e w3 ⟨u3, rfl, o3, b3⟩
      have t3 := t2.trans (b3.mono t2.size)
      have sa_3 := sa_2.later b3
      obtain ⟨adb, cpb, rfl, sb_3⟩ := o3.sl
      clear o3
      go_wp2_with fail
      refine (says_tob (equalLists_any _ _ _ [] _ _ _ [] _ sa_3 sb_3) (decide_eq_true rfl)).mono ?_
      rintro e w4 ⟨rfl, b4⟩
      have t4 := t3.trans (b4.mono t3.size)
      have sa_4 := sa_3.later b4
      have sb_4 := sb_3.later b4
      go_wp2_with fail
      refine (says_tob (equalLists_any _ _ _ [] _ _ _ [] _ sa_4 sb_4) (decide_eq_true rfl)).mono ?_
      rintro e w5 ⟨rfl, b5⟩
      have t5 := t4.trans (b5.mono t4.size)
      go_wp2
      go_ret
      exact ⟨rfl, t5⟩
  · go_enter Try.func7, Try.ntmps7
    go_wp2
    go_ret
    exact ⟨rfl, Below.refl _ _⟩


set_option maxRecDepth 20000 in
set_option maxHeartbeats 8000000 in
theorem fnPairRowsDenert (bo : Option Addr) (n cap : Nat) (cs : List Int) (w : World) (h : Slb w bo n cap cs) :
    Calls Try.prog 9 #[.slice bo n cap] w (Says w (.bool true)) := by
  have hbig := h.big
  by_cases hn : n ≤ 1048576
  · go_enter Try.func9, Try.ntmps9
    go_wp2_with fail
    refine (drawPairRows_any _ _ _ _ _ h).mono ?_
    rintro e w1 ⟨s, t, v, rfl, hv0, hv1, t1⟩
    have i1 : 5 = ixOf ⟨#[100, 101, 115, 99, 101, 110, 116, 115]⟩ := by kernel_rfl
    have i2 : 1 = ixOf ⟨#[109, 97, 106, 111, 114]⟩ := by kernel_rfl
    have i3 : 6 = ixOf ⟨#[97, 98, 111, 118, 101]⟩ := by kernel_rfl
    have i4 : 2 = ixOf ⟨#[100, 101, 110, 101, 114, 116]⟩ := by kernel_rfl
    by_cases hok : 0 ≤ v ∧ v ≤ 5
    · obtain ⟨m, rfl⟩ := Int.eq_ofNat_of_zero_le hok.1
      have hm : m ≤ 5 := by omega
      have hfp := facN_pos m (by omega)
      have hf := pair_facts hm
      have HI := hid (fun w => priI_yes ⟨#[100, 101, 115, 99, 101, 110, 116, 115]⟩ ⟨#[109, 97, 106, 111, 114]⟩ 5 1 m w i1 i2 (by omega) (by omega) hm)
      have HI2 := hid (fun w => priI_yes ⟨#[97, 98, 111, 118, 101]⟩ ⟨#[100, 101, 110, 101, 114, 116]⟩ 6 2 m w i3 i4 (by omega) (by omega) hm)
      have HS := hid (fun w => prtS_yes ⟨#[100, 101, 115, 99, 101, 110, 116, 115]⟩ ⟨#[109, 97, 106, 111, 114]⟩ 5 1 m w i1 i2 (by omega) (by omega) hm)
      rw [← hf.1] at HI2
      generalize prow 5 1 m = R at *
      clear hok hv0 hv1 hf hfp hm i1 i2 i3 i4
      go_wp2_with fail
      refine (HI.out _).mono ?_
      rintro e w2 ⟨u2, rfl, o2, b2⟩
      have t2 := t1.trans (b2.mono t1.size)
      obtain ⟨ada, cpa, rfl, sa_2⟩ := o2.sl
      clear o2
      go_wp2_with fail
      refine (HI2.out _).mono ?_
      rintro e w3 ⟨u3, rfl, o3, b3⟩
      have t3 := t2.trans (b3.mono t2.size)
      have sa_3 := sa_2.later b3
      obtain ⟨adb, cpb, rfl, sb_3⟩ := o3.sl
      clear o3
      go_wp2_with fail
      refine (HS.out _).mono ?_
      rintro e w4 ⟨u4, rfl, o4, b4⟩
      have t4 := t3.trans (b4.mono t3.size)
      have sa_4 := sa_3.later b4
      have sb_4 := sb_3.later b4
      obtain ⟨adc, cpc, rfl, sc_4⟩ := o4.sl
      clear o4
      go_wp2_with fail
      refine (says_tob (equalLists_any _ _ _ R _ _ _ R _ sa_4 sc_4) (decide_eq_true rfl)).mono ?_
      rintro e w5 ⟨rfl, b5⟩
      have t5 := t4.trans (b5.mono t4.size)
      have sa_5 := sa_4.later b5
      have sb_5 := sb_4.later b5
      go_wp2_with fail
      refine (says_tob (equalLists_any _ _ _ R _ _ _ R _ sa_5 sb_5) (decide_eq_true rfl)).mono ?_
      rintro e w6 ⟨rfl, b6⟩
      have t6 := t5.trans (b6.mono t5.size)
      go_wp2
      go_ret
      exact ⟨rfl, t6⟩
    · have hno1 : ¬ (ixOf ⟨#[100, 101, 115, 99, 101, 110, 116, 115]⟩ < 9 ∧ ixOf ⟨#[109, 97, 106, 111, 114]⟩ < 9 ∧ 0 ≤ v ∧ v ≤ 5) := fun q => hok q.2.2
      have hno2 : ¬ (ixOf ⟨#[97, 98, 111, 118, 101]⟩ < 9 ∧ ixOf ⟨#[100, 101, 110, 101, 114, 116]⟩ < 9 ∧ 0 ≤ v ∧ v ≤ 5) := fun q => hok q.2.2
      clear i1 i2 i3 i4
      go_wp2_with fail
      refine (priI_no _ _ v _ hno1).mono ?_
      rintro e w2 ⟨u2, rfl, o2, b2⟩
      have t2 := t1.trans (b2.mono t1.size)
      obtain ⟨ada, cpa, rfl, sa_2⟩ := o2.sl
      clear o2
      go_wp2_with fail
      refine (priI_no _ _ v _ hno2).mono ?_
      rintro e w3 ⟨u3, rfl, o3, b3⟩
      have t3 := t2.trans (b3.mono t2.size)
      have sa_3 := sa_2.later b3
      obtain ⟨adb, cpb, rfl, sb_3⟩ := o3.sl
      clear o3
      go_wp2_with fail
      refine (prtS_no _ _ v _ hno1).mono ?_
      rintro e w4 ⟨u4, rfl, o4, b4⟩
      have t4 := t3.trans (b4.mono t3.size)
      have sa_4 := sa_3.later b4
      have sb_4 := sb_3.later b4
      obtain ⟨adc, cpc, rfl, sc_4⟩ := o4.sl
      clear o4
      go_wp2_with fail
      refine (says_tob (equalLists_any _ _ _ [] _ _ _ [] _ sa_4 sc_4) (decide_eq_true rfl)).mono ?_
      rintro e w5 ⟨rfl, b5⟩
      have t5 := t4.trans (b5.mono t4.size)
      have sa_5 := sa_4.later b5
      have sb_5 := sb_4.later b5
      go_wp2_with fail
      refine (says_tob (equalLists_any _ _ _ [] _ _ _ [] _ sa_5 sb_5) (decide_eq_true rfl)).mono ?_
      rintro e w6 ⟨rfl, b6⟩
      have t6 := t5.trans (b6.mono t5.size)
      go_wp2
      go_ret
      exact ⟨rfl, t6⟩
  · go_enter Try.func9, Try.ntmps9
    go_wp2
    go_ret
    exact ⟨rfl, Below.refl _ _⟩

set_option maxRecDepth 20000 in
set_option maxHeartbeats 8000000 in
theorem fnPairRowsTurned (bo : Option Addr) (n cap : Nat) (cs : List Int) (w : World) (h : Slb w bo n cap cs) :
    Calls Try.prog 10 #[.slice bo n cap] w (Says w (.bool true)) := by
  have hbig := h.big
  by_cases hn : n ≤ 1048576
  · go_enter Try.func10, Try.ntmps10
    go_wp2_with fail
    refine (drawPairRows_any _ _ _ _ _ h).mono ?_
    rintro e w1 ⟨s, t, v, rfl, hv0, hv1, t1⟩
    have i1 : 0 = ixOf ⟨#[105, 110, 118, 101, 114, 115, 105, 111, 110, 115]⟩ := by kernel_rfl
    have i2 : 1 = ixOf ⟨#[109, 97, 106, 111, 114]⟩ := by kernel_rfl
    have i3 : 3 = ixOf ⟨#[99, 114, 111, 115, 115, 105, 110, 103, 115]⟩ := by kernel_rfl
    have i4 : 4 = ixOf ⟨#[110, 101, 115, 116, 105, 110, 103, 115]⟩ := by kernel_rfl
    by_cases hok : 0 ≤ v ∧ v ≤ 5
    · obtain ⟨m, rfl⟩ := Int.eq_ofNat_of_zero_le hok.1
      have hm : m ≤ 5 := by omega
      have hfp := facN_pos m (by omega)
      have hf := pair_facts hm
      have HI := hid (fun w => priI_yes ⟨#[105, 110, 118, 101, 114, 115, 105, 111, 110, 115]⟩ ⟨#[109, 97, 106, 111, 114]⟩ 0 1 m w i1 i2 (by omega) (by omega) hm)
      have HI2 := hid (fun w => priI_yes ⟨#[99, 114, 111, 115, 115, 105, 110, 103, 115]⟩ ⟨#[110, 101, 115, 116, 105, 110, 103, 115]⟩ 3 4 m w i3 i4 (by omega) (by omega) hm)
      have HS := hid (fun w => prtS_yes ⟨#[105, 110, 118, 101, 114, 115, 105, 111, 110, 115]⟩ ⟨#[109, 97, 106, 111, 114]⟩ 0 1 m w i1 i2 (by omega) (by omega) hm)
      have HN := hid (prow_len 0 1 m)
      have HN2 := hid (prow_len 3 4 m)
      have HM := hid (fun x (hx : x < mxN 0 m) => prow_rows (b := 1) hx)
      have HM2 := hid (fun x (hx : x < mxN 3 m) => prow_rows (b := 4) hx)
      have Ht1 := hid hf.2.1
      have Ht2 := hid hf.2.2
      have hN0 := mxN_pos 0 m (by omega)
      have hN20 := mxN_20 (k := 0) (by omega) hm
      have hM20 := mxN_20 (k := 1) (by omega) hm
      have hP0 := mxN_pos 3 m (by omega)
      have hP20 := mxN_20 (k := 3) (by omega) hm
      have hQ20 := mxN_20 (k := 4) (by omega) hm
      generalize prow 0 1 m = R at *
      generalize prow 3 4 m = R2 at *
      generalize mxN 0 m = N at *
      generalize mxN 1 m = M at *
      generalize mxN 3 m = N2 at *
      generalize mxN 4 m = M2 at *
      clear hok hv0 hv1 hf hfp hm i1 i2 i3 i4
      go_wp2_with fail
      refine (HI.out _).mono ?_
      rintro e w2 ⟨u2, rfl, o2, b2⟩
      have t2 := t1.trans (b2.mono t1.size)
      obtain ⟨ada, cpa, rfl, sa_2⟩ := o2.sl
      rw [HN.out] at sa_2 ⊢
      clear o2
      go_wp2_with fail
      refine (HI2.out _).mono ?_
      rintro e w3 ⟨u3, rfl, o3, b3⟩
      have t3 := t2.trans (b3.mono t2.size)
      have sa_3 := sa_2.later b3
      obtain ⟨adb, cpb, rfl, sb_3⟩ := o3.sl
      rw [HN2.out] at sb_3 ⊢
      clear o3
      go_wp2_with fail
      refine (HS.out _).mono ?_
      rintro e w4 ⟨u4, rfl, o4, b4⟩
      have t4 := t3.trans (b4.mono t3.size)
      have sa_4 := sa_3.later b4
      have sb_4 := sb_3.later b4
      obtain ⟨adc, cpc, rfl, sc_4⟩ := o4.sl
      rw [HN.out] at sc_4 ⊢
      clear o4
      go_wp2_with fail
      refine (says_tob (equalLists_any _ _ _ R _ _ _ R _ sa_4 sc_4) (decide_eq_true rfl)).mono ?_
      rintro e w5 ⟨rfl, b5⟩
      have t5 := t4.trans (b5.mono t4.size)
      have sa_5 := sa_4.later b5
      have sb_5 := sb_4.later b5
      go_wp2_with fail
      refine (madeL_to (turned_any _ _ _ R _ sa_5 M (by omega) (by omega) (by omega) HM) Ht1.out).mono ?_
      rintro e w6 ⟨u6, rfl, o6, b6⟩
      have t6 := t5.trans (b6.mono t5.size)
      have sa_6 := sa_5.later b6
      have sb_6 := sb_5.later b6
      obtain ⟨add, cpd, rfl, sd_6⟩ := o6.sl
      rw [HN.out] at sd_6 ⊢
      clear o6
      go_wp2_with fail
      refine (says_tob (equalLists_any _ _ _ R _ _ _ R _ sd_6 sa_6) (decide_eq_true rfl)).mono ?_
      rintro e w7 ⟨rfl, b7⟩
      have t7 := t6.trans (b7.mono t6.size)
      have sb_7 := sb_6.later b7
      go_wp2_with fail
      refine (madeL_to (turned_any _ _ _ R2 _ sb_7 M2 (by omega) (by omega) (by omega) HM2) Ht2.out).mono ?_
      rintro e w8 ⟨u8, rfl, o8, b8⟩
      have t8 := t7.trans (b8.mono t7.size)
      have sb_8 := sb_7.later b8
      obtain ⟨ade, cpe, rfl, se_8⟩ := o8.sl
      rw [HN2.out] at se_8 ⊢
      clear o8
      go_wp2_with fail
      refine (says_tob (equalLists_any _ _ _ R2 _ _ _ R2 _ se_8 sb_8) (decide_eq_true rfl)).mono ?_
      rintro e w9 ⟨rfl, b9⟩
      have t9 := t8.trans (b9.mono t8.size)
      go_wp2
      go_ret
      exact ⟨rfl, t9⟩
    · have hno1 : ¬ (ixOf ⟨#[105, 110, 118, 101, 114, 115, 105, 111, 110, 115]⟩ < 9 ∧ ixOf ⟨#[109, 97, 106, 111, 114]⟩ < 9 ∧ 0 ≤ v ∧ v ≤ 5) := fun q => hok q.2.2
      have hno2 : ¬ (ixOf ⟨#[99, 114, 111, 115, 115, 105, 110, 103, 115]⟩ < 9 ∧ ixOf ⟨#[110, 101, 115, 116, 105, 110, 103, 115]⟩ < 9 ∧ 0 ≤ v ∧ v ≤ 5) := fun q => hok q.2.2
      clear i1 i2 i3 i4
      go_wp2_with fail
      refine (priI_no _ _ v _ hno1).mono ?_
      rintro e w2 ⟨u2, rfl, o2, b2⟩
      have t2 := t1.trans (b2.mono t1.size)
      obtain ⟨ada, cpa, rfl, sa_2⟩ := o2.sl
      clear o2
      go_wp2_with fail
      refine (priI_no _ _ v _ hno2).mono ?_
      rintro e w3 ⟨u3, rfl, o3, b3⟩
      have t3 := t2.trans (b3.mono t2.size)
      have sa_3 := sa_2.later b3
      obtain ⟨adb, cpb, rfl, sb_3⟩ := o3.sl
      clear o3
      go_wp2_with fail
      refine (prtS_no _ _ v _ hno1).mono ?_
      rintro e w4 ⟨u4, rfl, o4, b4⟩
      have t4 := t3.trans (b4.mono t3.size)
      have sa_4 := sa_3.later b4
      have sb_4 := sb_3.later b4
      obtain ⟨adc, cpc, rfl, sc_4⟩ := o4.sl
      clear o4
      go_wp2_with fail
      refine (says_tob (equalLists_any _ _ _ [] _ _ _ [] _ sa_4 sc_4) (decide_eq_true rfl)).mono ?_
      rintro e w5 ⟨rfl, b5⟩
      have t5 := t4.trans (b5.mono t4.size)
      have sa_5 := sa_4.later b5
      have sb_5 := sb_4.later b5
      go_wp2_with fail
      refine (turned_nil _ _ _).mono ?_
      rintro e w6 ⟨u6, rfl, o6, b6⟩
      have t6 := t5.trans (b6.mono t5.size)
      have sa_6 := sa_5.later b6
      have sb_6 := sb_5.later b6
      obtain ⟨add, cpd, rfl, sd_6⟩ := o6.sl
      clear o6
      go_wp2_with fail
      refine (says_tob (equalLists_any _ _ _ [] _ _ _ [] _ sd_6 sa_6) (decide_eq_true rfl)).mono ?_
      rintro e w7 ⟨rfl, b7⟩
      have t7 := t6.trans (b7.mono t6.size)
      have sb_7 := sb_6.later b7
      go_wp2_with fail
      refine (turned_nil _ _ _).mono ?_
      rintro e w8 ⟨u8, rfl, o8, b8⟩
      have t8 := t7.trans (b8.mono t7.size)
      have sb_8 := sb_7.later b8
      obtain ⟨ade, cpe, rfl, se_8⟩ := o8.sl
      clear o8
      go_wp2_with fail
      refine (says_tob (equalLists_any _ _ _ [] _ _ _ [] _ se_8 sb_8) (decide_eq_true rfl)).mono ?_
      rintro e w9 ⟨rfl, b9⟩
      have t9 := t8.trans (b9.mono t8.size)
      go_wp2
      go_ret
      exact ⟨rfl, t9⟩
  · go_enter Try.func10, Try.ntmps10
    go_wp2
    go_ret
    exact ⟨rfl, Below.refl _ _⟩

end Go.Proofs.Ytjgaglfinpeeoac
