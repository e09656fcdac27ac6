/- The walk of the law of AllSigned. Condition of the law's own: at most 2^20 bytes. -/
import Derived.Test.YtjgaglfinpeeoacAsh
import Derived.Test.YtjgaglfinpeeoacSgn
import Derived.Test.YtjgaglfinpeeoacLawL
import Derived.Test.YtjgaglfinpeeoacLawRow
namespace Go.Proofs.Ytjgaglfinpeeoac
open Go.RowKit

theorem allG_all : ∀ n : Nat, n < 4 → (List.range (allG n).length).all (fun k => decide (SV (ell (allG n) k)) && (List.range k).all fun j => decide (ell (allG n) j ≠ ell (allG n) k)) = true := by decide +kernel
theorem allG_at {n k : Nat} (hn : n ≤ 3) (hk : k < (allG n).length) : SV (ell (allG n) k) ∧ ∀ j, j < k → ell (allG n) j ≠ ell (allG n) k := by
  have h := List.all_eq_true.1 (allG_all n (by omega)) k (by simpa using hk)
  simp only [Bool.and_eq_true, decide_eq_true_eq, List.all_eq_true] at h
  exact ⟨h.1, fun j hj => h.2 j (by simpa using hj)⟩
theorem allG_ln {n k : Nat} (hk : k < (allG n).length) : (ell (allG n) k).length = n := by
  rw [ell_lt hk]
  simp only [allG, List.getElem_map, wsg_len, ordK_len]
theorem allG_cnt : ∀ n : Nat, n < 4 → (((allG n).length : Nat) : Int) = ((2 ^ n : Nat) : Int) * fac n ∧ (0 ≤ fac n ∧ fac n ≤ 6) := by decide +kernel
theorem SlL.take {w : World} {ao : Option Addr} {n cap : Nat} {yss : List (List Int)} (h : SlL w ao n cap yss) {k : Nat} (hk : k ≤ n) : SlL w ao k cap (yss.take k) := by
  refine ⟨by rw [List.length_take, h.len]; omega, by have := h.le; omega, h.max, fun hn => ?_⟩
  obtain ⟨b, off, e, hlt, hc⟩ := h.row (by omega)
  refine ⟨b, off, e, hlt, fun j hj => ?_⟩
  have e2 : ell (yss.take k) j = ell yss j := by simp [ell, List.getD, hj]
  rw [e2]
  exact hc j (by omega)

set_option maxHeartbeats 1000000 in
theorem holdsL_no (ao : Option Addr) (n cap : Nat) (yss : List (List Int)) (bo : Option Addr) (m cap2 : Nat) (zs : List Int) (w : World) (h : SlL w ao n cap yss) (g : Sl w bo m cap2 zs) (hn : n ≤ 1000) (Hne : Hid (∀ j, j < n → ell yss j ≠ zs)) :
    Calls Try.prog 16 #[.slice ao n cap, .slice bo m cap2] w (Says w (.bool false)) := by
  have hbig := h.big
  go_enter Try.func16, Try.ntmps16
  go_wp2
  go_loopw [5] (fun i wr => ∃ k : Nat, k ≤ n ∧ i = .int .i64 k ∧ Below w.heap.size w wr) (fun i _ => n - (intOf i).toNat)
  case atStart => exact ⟨0, Nat.zero_le _, rfl, Below.refl _ _⟩
  case round =>
    obtain ⟨k, hk, rfl, hbr⟩ := hrel
    by_cases hlt : k < n
    · have hki : (k : Int) < n := by omega
      obtain ⟨b, off, rfl, hblt, hc⟩ := (h.later hbr).row (by omega)
      obtain ⟨ai, ci, hcell, hsi⟩ := hc k hlt
      have hg := g.later hbr
      clear hc
      go_wp2_with fail
      refine (says_tob (equalInts_any _ _ _ _ _ _ _ _ _ hsi hg) (decide_eq_false (Hne.out k hlt))).mono ?_
      rintro e w2 ⟨rfl, b2⟩
      have hb2 := hbr.trans (b2.mono hbr.size)
      go_wp2
      go_roundw
      case rel => exact ⟨k + 1, by omega, by go_num, hb2⟩
      case measure => simp [intOf]; omega
    · obtain rfl : k = n := by omega
      go_wp2
      go_ret
      exact ⟨rfl, hbr⟩

set_option maxHeartbeats 1000000 in
theorem drawAllSigned_any (bo : Option Addr) (n cap : Nat) (cs : List Int) (w : World) (h : Slb w bo n cap cs) :
    Calls Try.prog 11 #[.slice bo n cap] w (DrawnI w (-1) 4) := by
  go_enter Try.func11, Try.ntmps11
  go_wp2_with fail
  refine (newReader_any bo n cap cs w h).mono ?_
  rintro e w1 ⟨rfl, hr1, hb1⟩
  have ha := lit_arr w1 [2, 3, 1, 0, 4, -1]
  have hr := hr1.below ((Below.refl w1.heap.size w1).alloc (Nat.le_refl _) (.cells ([2, 3, 1, 0, 4, -1].map (Value.int .i64)).toArray 3))
  have hlt := hr1.lt
  have Ha := hid ha
  have Hr := hid hr
  clear ha hr
  go_wp2_with fail
  refine (one_any w.heap.size 0 w1.heap.size 6 3 [2, 3, 1, 0, 4, -1] _ Hr.out (by omega) Ha.out rfl (by omega) (by omega) (by omega)).mono ?_
  rintro e w2 ⟨j, hj, rfl, hr2, hg2⟩
  have hv : ∀ j, j < 6 → -1 ≤ el [2, 3, 1, 0, 4, -1] j ∧ el [2, 3, 1, 0, 4, -1] j ≤ 4 := by decide
  have hv' := hv j hj
  obtain ⟨v, hv2⟩ : ∃ v, v = el [2, 3, 1, 0, 4, -1] j := ⟨_, rfl⟩
  rw [← hv2] at hv' ⊢
  have hva := hv'.1
  have hvb := hv'.2
  clear hv hv' hv2 hj
  go_wp2
  go_ret
  exact ⟨v, rfl, hva, hvb, below_reader (hb1.alloc hb1.size _) hg2⟩

set_option maxHeartbeats 4000000 in
theorem fnAllSigned (bo : Option Addr) (n cap : Nat) (cs : List Int) (w : World) (h : Slb w bo n cap cs) :
    Calls Try.prog 3 #[.slice bo n cap] w (Says w (.bool true)) := by
  have hbig := h.big
  by_cases hn : n ≤ 1048576
  · go_enter Try.func3, Try.ntmps3
    go_wp2_with fail
    refine (drawAllSigned_any _ _ _ _ _ h).mono ?_
    rintro e w1 ⟨v, rfl, v0, v1, t1⟩
    by_cases hv : 0 ≤ v ∧ v ≤ 3
    · obtain ⟨m, rfl⟩ := Int.eq_ofNat_of_zero_le hv.1
      have hm : m ≤ 3 := by omega
      clear hv v0 v1
      have h3i : ¬ (3 : Int) < m := by omega
      have h0i : ¬ (m : Int) < 0 := by omega
      obtain ⟨M, HM⟩ : ∃ M : Nat, Hid (M = (allG m).length) := ⟨_, rfl⟩
      have hM48 : M ≤ 48 := by rw [HM.out, allG_len]; exact (allG_small hm).2.2
      obtain ⟨P, HP⟩ : ∃ P : Nat, Hid (P = 2 ^ m) := ⟨_, rfl⟩
      have Hp8 : Hid (2 ^ m ≤ 8) := hid (allG_small hm).2.1
      have hP8 : P ≤ 8 := by rw [HP.out]; exact Hp8.out
      have hcnt := allG_cnt m (by omega)
      rw [← HM.out, ← HP.out] at hcnt
      obtain ⟨FF, HFF⟩ : ∃ FF, Hid (FF = fac m) := ⟨_, rfl⟩
      rw [← HFF.out] at hcnt
      have hF1 := hcnt.2.1
      have hF2 := hcnt.2.2
      have hprod : wrap64 ((P : Int) * FF) = (M : Int) := by rw [← hcnt.1]; exact IntWalk.wrap64_in _ ⟨by omega, by omega⟩
      have Hprod := hid hprod
      clear hcnt hprod
      go_wp2_with fail
      refine (asgI_yes m _ hm).mono ?_
      rintro e w2 ⟨u2, rfl, o2, b2⟩
      have t2 := t1.trans (b2.mono t1.size)
      obtain ⟨ad2, cp2, rfl, s2⟩ := o2.sl
      rw [← HM.out] at s2 ⊢
      clear o2
      go_wp2_with fail
      refine (asgS_yes m _ hm).mono ?_
      rintro e w3 ⟨u3, rfl, o3, b3⟩
      have t3 := t2.trans (b3.mono t2.size)
      obtain ⟨ad3, cp3, rfl, s3⟩ := o3.sl
      rw [← HM.out] at s3 ⊢
      have s23 := s2.later b3
      clear o3
      go_wp2_with fail
      refine (says_tob (equalLists_any _ _ _ (allG m) _ _ _ (allG m) _ s23 s3) (decide_eq_true rfl)).mono ?_
      rintro e w4 ⟨rfl, b4⟩
      have t4 := t3.trans (b4.mono t3.size)
      have s24 := s23.later b4
      clear s2 s23 s3
      go_wp2
      go_loopw [5, 6] (fun v j wr => ∃ (k p : Nat), k ≤ m ∧ v = .int .i64 p ∧ j = .int .i64 k ∧ Below w4.heap.size w4 wr ∧ Hid (p = 2 ^ k) ∧ p ≤ 8)
        (fun _ j _ => m - (intOf j).toNat)
      case atStart => exact ⟨0, 1, Nat.zero_le _, rfl, rfl, Below.refl _ _, hid rfl, by omega⟩
      case round =>
        obtain ⟨k, p, hk, rfl, rfl, hbr, Hp, hp8⟩ := hrel
        by_cases hkn : k < m
        · have hki : (k : Int) < m := by omega
          have Hp2 : Hid (2 * p = 2 ^ (k + 1)) := hid (by rw [Hp.out, Nat.pow_succ]; omega)
          have hp82 : 2 * p ≤ 8 := by
            rw [Hp2.out]
            have := Nat.pow_le_pow_right (n := 2) (by omega) (show k + 1 ≤ m by omega)
            exact Nat.le_trans this Hp8.out
          go_wp2
          go_roundw
          case rel => exact ⟨k + 1, 2 * p, by omega, by push_cast; rfl, by go_num, hbr, Hp2, hp82⟩
          case measure => simp [intOf]; omega
        · obtain rfl : k = m := by omega
          have hpP : p = P := by rw [Hp.out, HP.out]
          subst hpP
          have t5 := t4.trans (hbr.mono t4.size)
          have s25 := s24.later hbr
          clear s24
          go_wp2
          obtain ⟨wo, hwo⟩ : ∃ wo : World, wo = wr := ⟨_, rfl⟩
          subst hwo
          go_loopw [7] (fun i wr => ∃ t : Nat, t ≤ M ∧ i = .int .i64 t ∧ Below wo.heap.size wo wr) (fun i _ => M - (intOf i).toNat)
          case atStart => exact ⟨0, Nat.zero_le _, rfl, Below.refl _ _⟩
          case round =>
            obtain ⟨t, ht, rfl, hbr2⟩ := hrel
            by_cases htl : t < M
            · have hti : (t : Int) < (M : Int) := by omega
              have sD : SlL wr.drew ad2 M cp2 (allG k) := s25.later hbr2.drew
              have hat := allG_at hm (k := t) (by rw [← HM.out]; exact htl)
              have Hsv := hid hat.1
              have Hne : Hid (∀ j, j < t → ell ((allG k).take t) j ≠ ell (allG k) t) := hid (fun j hj => by
                have e2 : ell ((allG k).take t) j = ell (allG k) j := by simp [ell, List.getD, hj]
                rw [e2]; exact hat.2 j hj)
              have Hln : Hid ((ell (allG k) t).length = k) := hid (allG_ln (by rw [← HM.out]; exact htl))
              have H64 := hid Hsv.out.r64
              have hcap := sD.le
              have hcap2 := sD.max
              unfold maxLen at hcap2
              have htc : t ≤ cp2 := by omega
              have HD := hid sD
              obtain ⟨b, off, rfl, hblt, hc⟩ := sD.row (by omega)
              obtain ⟨ai, ci, hcellD, hsD⟩ := hc t htl
              rw [Hln.out] at hcellD hsD
              have HsD := hid hsD
              have hbD := hbr2.drew
              have Hblt := hid hblt
              have hkk : ((k : Int) != (k : Int)) = false := by simp
              clear hat hc hsD sD
              go_wp2_with fail
              go_region_with (first
                | (go_at_call 16; refine (holdsL_no _ _ _ ((allG k).take t) _ _ _ (ell (allG k) t) _ (S1.take (by omega)) s1 (by omega) Hne).mono ?_; rintro e v2 ⟨rfl, c2⟩; have hcell2 := (c2.cell (p := ⟨b, off + t, none⟩) (Nat.lt_of_lt_of_le Hblt.out c1.size)).trans hcell1; have hb2 := hb1.trans (c2.mono hb1.size))
                | (go_at_call 15; refine (says_tob (svI_any _ _ _ (ell (allG k) t) _ HsD.out H64) (decide_eq_true Hsv.out)).mono ?_; rintro e v1 ⟨rfl, c1⟩; have hcell1 := (c1.cell (p := ⟨b, off + t, none⟩) Hblt.out).trans hcellD; have S1 := HD.out.later c1; have s1 := HsD.out.later c1; have hb1 := hbD.trans (c1.mono hbD.size)))
              all_goals (
                go_wp2
                go_roundw
                case rel => exact ⟨t + 1, by omega, by go_num, hb2⟩
                case measure => simp [intOf]; omega)
            · obtain rfl : t = M := by omega
              have t6 := t5.trans (hbr2.mono t5.size)
              go_wp2_with fail
              refine (says_to (product_says k _ (by omega)) HFF.out.symm).mono ?_
              rintro e w6 ⟨rfl, b6⟩
              have hprod := Hprod.out
              go_wp2
              go_ret
              exact ⟨rfl, t6.trans (b6.mono t6.size)⟩
    · have hno : v < 0 ∨ 3 < v := by omega
      have Hno := hid hno
      clear hno hv
      go_wp2_with fail
      refine (asgI_no v _ Hno.out).mono ?_
      rintro e w2 ⟨u2, rfl, o2, b2⟩
      have t2 := t1.trans (b2.mono t1.size)
      obtain ⟨ad2, cp2, rfl, s2⟩ := o2.sl
      clear o2
      go_wp2_with fail
      refine (asgS_no v _ Hno.out).mono ?_
      rintro e w3 ⟨u3, rfl, o3, b3⟩
      have t3 := t2.trans (b3.mono t2.size)
      obtain ⟨ad3, cp3, rfl, s3⟩ := o3.sl
      have s23 := s2.later b3
      clear o3
      go_wp2_with fail
      refine (says_tob (equalLists_any _ _ _ ([] : List (List Int)) _ _ _ ([] : List (List Int)) _ s23 s3) (decide_eq_true rfl)).mono ?_
      rintro e w4 ⟨rfl, b4⟩
      have t4 := t3.trans (b4.mono t3.size)
      have s24 := s23.later b4
      by_cases h0 : v < 0
      · go_wp2_with fail
        refine (asgS_no v _ Hno.out).mono ?_
        rintro e w5 ⟨u5, rfl, o5, b5⟩
        have t5 := t4.trans (b5.mono t4.size)
        obtain ⟨ad5, cp5, rfl, s5⟩ := o5.sl
        clear o5
        go_wp2_with fail
        refine (says_tob (equalLists_any _ _ _ ([] : List (List Int)) _ _ _ ([] : List (List Int)) _ (s24.later b5) s5) (decide_eq_true rfl)).mono ?_
        rintro e w6 ⟨rfl, b6⟩
        go_wp2
        go_ret
        exact ⟨rfl, t5.trans (b6.mono t5.size)⟩
      · have h5 : 3 < v := by have := Hno.out; omega
        go_wp2_with fail
        refine (asgS_no v _ Hno.out).mono ?_
        rintro e w5 ⟨u5, rfl, o5, b5⟩
        have t5 := t4.trans (b5.mono t4.size)
        obtain ⟨ad5, cp5, rfl, s5⟩ := o5.sl
        clear o5
        go_wp2_with fail
        refine (says_tob (equalLists_any _ _ _ ([] : List (List Int)) _ _ _ ([] : List (List Int)) _ (s24.later b5) s5) (decide_eq_true rfl)).mono ?_
        rintro e w6 ⟨rfl, b6⟩
        go_wp2
        go_ret
        exact ⟨rfl, t5.trans (b6.mono t5.size)⟩
  · go_enter Try.func3, Try.ntmps3
    go_wp2
    go_ret
    exact ⟨rfl, Below.refl _ _⟩

end Go.Proofs.Ytjgaglfinpeeoac
