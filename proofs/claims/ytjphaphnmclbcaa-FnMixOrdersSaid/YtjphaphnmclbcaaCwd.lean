/- How many words a content has, and how many letters, in the program and in its model. Condition: the list's cells can be read; for the model, that they are at most 2^20. -/
import Derived.Test.YtjphaphnmclbcaaWrd
import Derived.Test.YtjphaphnmclbcaaBnd
namespace Go.Proofs.Ytjphaphnmclbcaa
open Go.RowKit

theorem says_on {w w' : World} {c : List Int} {v d x : Int} (e : onCi c v d = x) (hb : Below w.heap.size w w') : Says w (.int .i64 (onCi c v d)) (.returned (.int .i64 x)) w' := ⟨by rw [e], hb⟩

set_option maxHeartbeats 2000000 in
theorem letI_any (ao : Option Addr) (n cap : Nat) (xs : List Int) (w : World) (h : Sl w ao n cap xs) :
    Calls Try.prog 77 #[.slice ao n cap] w (Says w (.int .i64 (onCi xs (sumL xs) (-1)))) := by
  have hbig := h.big
  have hlen := hid h.len
  by_cases h4 : n = 4
  · have H4 := hid h4
    have hz : ((n : Int) != 4) = false := by rw [h4]; rfl
    clear h4
    go_enter Try.func77, Try.ntmps77
    go_wp2
    go_loopw [3, 11] (fun s i wr => ∃ (k : Nat), k ≤ n ∧ s = .int .i64 (sumTo xs k) ∧ i = .int .i64 k ∧ Below w.heap.size w wr ∧ 0 ≤ sumTo xs k ∧ sumTo xs k ≤ 7 ∧ Hid (∀ j, j < k → 0 ≤ el xs j))
      (fun _ i _ => n - (intOf i).toNat)
    case atStart => exact ⟨0, Nat.zero_le _, rfl, rfl, Below.refl _ _, by simp [sumTo], by simp [sumTo], fun j hj => by omega⟩
    case round =>
      obtain ⟨k, hk, rfl, rfl, hbr, s0, s7, hm⟩ := hrel
      by_cases hlt : k < n
      · obtain ⟨b, off, rfl, hblt, hc⟩ := h.row (by omega)
        have hcell := (hbr.cell (p := ⟨b, off + k, none⟩) hblt).trans (hc k hlt)
        have hkx : k < xs.length := by rw [hlen.out]; exact hlt
        have es : Hid (sumTo xs (k + 1) = sumTo xs k + el xs k) := hid rfl
        clear hc
        by_cases h0 : 0 ≤ el xs k
        · by_cases h1 : sumTo xs k + el xs k ≤ 7
          · have h1' : el xs k ≤ 7 - sumTo xs k := by omega
            clear h1
            go_wp2
            go_roundw
            case rel => exact ⟨k + 1, by omega, rfl, by go_num, hbr, by rw [es.out]; omega, by rw [es.out]; omega, upto_step hm.out h0⟩
            case measure => simp [intOf]; omega
          · have hno : Hid (¬ VC xs) := hid (not_vc_sum hkx (by rw [es.out]; omega))
            have h1' : 7 - sumTo xs k < el xs k := by omega
            clear h1
            go_wp2
            go_ret
            exact says_on (onCi_no hno.out) hbr
        · have hno : Hid (¬ VC xs) := hid (not_vc_lo hkx (by omega))
          have h0' : el xs k < 0 := by omega
          clear h0
          go_wp2
          go_ret
          exact says_on (onCi_no hno.out) hbr
      · obtain rfl : k = n := by omega
        go_wp2
        go_ret
        have hv : VC xs := ⟨by rw [hlen.out, H4.out], fun j hj => hm.out j (by rw [hlen.out] at hj; exact hj), by rw [sumL, hlen.out]; exact s7⟩
        exact says_on ((onCi_yes hv).trans (by rw [sumL, hlen.out])) hbr
  · have hno : Hid (¬ VC xs) := hid (fun v => h4 (by have := v.len; rw [hlen.out] at this; exact this))
    have hz : ((n : Int) != 4) = true := by simp; omega
    clear h4
    go_enter Try.func77, Try.ntmps77
    go_wp2
    go_ret
    exact says_on (onCi_no hno.out) (Below.refl _ _)

set_option maxHeartbeats 4000000 in
theorem cwdI_any (ao : Option Addr) (n cap : Nat) (xs : List Int) (w : World) (h : Sl w ao n cap xs) :
    Calls Try.prog 33 #[.slice ao n cap] w (Says w (.int .i64 (onCi xs (cwP xs 4) (-1)))) := by
  have hbig := h.big
  have hlen := hid h.len
  by_cases hv : VC xs
  · have Hv := hid hv
    have h4 : n = 4 := by rw [← hlen.out]; exact hv.len
    have H4 := hid h4
    have hs0 : 0 ≤ sumL xs := by have := (hv.part (k := 4) (by omega)).1; rw [sumL, hv.len]; exact this
    clear hv h4
    go_enter Try.func33, Try.ntmps33
    go_wp2_with fail
    refine (says_to (letI_any _ _ _ xs _ h) (onCi_yes Hv.out)).mono ?_
    rintro e w1 ⟨rfl, b1⟩
    go_wp2
    go_loopw [3, 4, 13] (fun c s i wr => ∃ (k : Nat), k ≤ n ∧ c = .int .i64 (cwP xs k) ∧ s = .int .i64 (sumTo xs k) ∧ i = .int .i64 k ∧ Below w.heap.size w wr)
      (fun _ _ i _ => n - (intOf i).toNat)
    case atStart => exact ⟨0, Nat.zero_le _, rfl, rfl, rfl, b1⟩
    case round =>
      obtain ⟨k, hk, rfl, rfl, rfl, hbr⟩ := hrel
      by_cases hlt : k < n
      · obtain ⟨b, off, rfl, hblt, hc⟩ := h.row (by omega)
        have hcell := (hbr.cell (p := ⟨b, off + k, none⟩) hblt).trans (hc k hlt)
        have hk4 : k < 4 := by have := H4.out; omega
        have ho := Hv.out.one hk4
        have hp := Hv.out.part (k := k) (by omega)
        have hp1 := Hv.out.part (k := k + 1) (by omega)
        have es : Hid (sumTo xs (k + 1) = sumTo xs k + el xs k) := hid rfl
        rw [es.out] at hp1
        have ec : Hid (cwP xs (k + 1) = cwR (cwP xs k) (sumTo xs k) (el xs k).toNat) := hid rfl
        have Hin : Hid (∀ t : Nat, (t : Int) ≤ el xs k → 0 ≤ cwR (cwP xs k) (sumTo xs k) t ∧ cwR (cwP xs k) (sumTo xs k) t ≤ 823543) := hid (fun t ht => cwP_in Hv.out hk4 ht)
        obtain ⟨T, hT⟩ := Int.eq_ofNat_of_zero_le ho.1
        have ht7 : T ≤ 7 := by omega
        have hsT : sumTo xs k + T ≤ 7 := by omega
        have hs0' := hp.1
        rw [hT] at hcell ec Hin es
        rw [Int.toNat_natCast] at ec
        obtain ⟨S, hS⟩ : ∃ S, S = sumTo xs k := ⟨_, rfl⟩
        rw [← hS] at ec Hin es hsT hs0' ⊢
        have Hk1 := hid hp1
        clear hc ho hp hp1 hT hS
        go_wp2
        obtain ⟨wo, hwo⟩ : ∃ wo : World, wo = wr := ⟨_, rfl⟩
        subst hwo
        go_loopw [3, 4, 7] (fun c s t' wr => ∃ (t : Nat), t ≤ T ∧ c = .int .i64 (cwR (cwP xs k) S t) ∧ s = .int .i64 (S + t) ∧ t' = .int .i64 ((t : Int) + 1) ∧ Below w.heap.size w wr)
          (fun _ _ t' _ => T + 1 - (intOf t').toNat)
        case atStart => exact ⟨0, Nat.zero_le _, rfl, by simp, by simp, hbr⟩
        case round =>
          obtain ⟨t, ht, rfl, rfl, rfl, hbr⟩ := hrel
          by_cases htl : t < T
          · have hb := Hin.out t (by omega)
            have he : Hid (cwR (cwP xs k) S (t + 1) = cwR (cwP xs k) S t * (S + t + 1) / ((t : Int) + 1)) := hid rfl
            obtain ⟨c, hc⟩ : ∃ c, c = cwR (cwP xs k) S t := ⟨_, rfl⟩
            rw [← hc] at he hb ⊢
            have hb0 := hb.1
            have hb1 := hb.2
            obtain ⟨pr, hpr⟩ : ∃ pr, pr = c * (S + (t : Int) + 1) := ⟨_, rfl⟩
            have hp0 : 0 ≤ pr := by rw [hpr]; exact Int.mul_nonneg hb0 (by omega)
            have hp1 : pr ≤ 6000000 := by
              have : c * (S + (t : Int) + 1) ≤ 823543 * 7 := Int.mul_le_mul hb1 (by omega) (by omega) (by omega)
              rw [hpr]; omega
            have hw : wrap64 (c * (S + (t : Int) + 1)) = pr := by rw [← hpr]; exact IntWalk.wrap64_in _ ⟨by omega, by omega⟩
            have hi : (t : Int) + 1 ≤ T := by omega
            have Hpr := hid hpr
            clear hb hc hpr
            go_wp2
            go_roundw
            case rel =>
              refine ⟨t + 1, by omega, ?_, by rw [Int.natCast_add, Int.natCast_one, Int.add_assoc], by rw [Int.natCast_add, Int.natCast_one], hbr⟩
              rw [he.out, ← Hpr.out]
            case measure => simp [intOf]; omega
          · obtain rfl : t = T := by omega
            go_wp2
            go_roundw
            case rel => exact ⟨k + 1, by omega, by rw [ec.out], by rw [es.out], by go_num, hbr⟩
            case measure => simp [intOf]; omega
      · obtain rfl : k = n := by omega
        go_wp2
        go_ret
        exact says_on ((onCi_yes Hv.out).trans (by rw [H4.out])) hbr
  · have Hv := hid hv
    clear hv
    go_enter Try.func33, Try.ntmps33
    go_wp2_with fail
    refine (says_to (letI_any _ _ _ xs _ h) (onCi_no Hv.out)).mono ?_
    rintro e w1 ⟨rfl, b1⟩
    go_wp2
    go_ret
    exact says_on (onCi_no Hv.out) b1

set_option maxHeartbeats 2000000 in
theorem vcS_any (ao : Option Addr) (n cap : Nat) (xs : List Int) (w : World) (h : Sl w ao n cap xs) (hn : n ≤ 1048576) :
    Calls Try.prog 80 #[.slice ao n cap] w (Says w (.bool (decide (VC xs)))) := by
  have hbig := h.big
  have hlen := hid h.len
  go_enter Try.func80, Try.ntmps80
  go_wp2
  go_loopw [3, 4] (fun s i wr => ∃ (k : Nat), k ≤ n ∧ s = .int .i64 (sumTo xs k) ∧ i = .int .i64 k ∧ Below w.heap.size w wr ∧ 0 ≤ sumTo xs k ∧ sumTo xs k ≤ 7 * k ∧ Hid (∀ j, j < k → 0 ≤ el xs j))
    (fun _ i _ => n - (intOf i).toNat)
  case atStart => exact ⟨0, Nat.zero_le _, rfl, rfl, Below.refl _ _, by simp [sumTo], by simp [sumTo], fun j hj => by omega⟩
  case round =>
    obtain ⟨k, hk, rfl, rfl, hbr, s0, s7, hm⟩ := hrel
    by_cases hlt : k < n
    · obtain ⟨b, off, rfl, hblt, hc⟩ := h.row (by omega)
      have hcell := (hbr.cell (p := ⟨b, off + k, none⟩) hblt).trans (hc k hlt)
      have hkx : k < xs.length := by rw [hlen.out]; exact hlt
      have es : Hid (sumTo xs (k + 1) = sumTo xs k + el xs k) := hid rfl
      clear hc
      by_cases h1 : 0 ≤ el xs k ∧ el xs k ≤ 7
      · have ho := h1.1
        have ho7 := h1.2
        go_wp2_with fail
        refine (inRange_any _ _ _ _).mono ?_
        rintro e w' ⟨rfl, hww⟩
        subst hww
        rw [show decide ((0 : Int) ≤ el xs k ∧ el xs k ≤ 7) = true by simp; omega]
        clear h1
        go_wp2
        go_roundw
        case rel => exact ⟨k + 1, by omega, rfl, by go_num, hbr, by rw [es.out]; omega, by rw [es.out]; omega, upto_step hm.out ho⟩
        case measure => simp [intOf]; omega
      · have hno : Hid (¬ VC xs) := hid (not_vc_one hkx h1)
        go_wp2_with fail
        refine (inRange_any _ _ _ _).mono ?_
        rintro e w' ⟨rfl, hww⟩
        subst hww
        rw [show decide ((0 : Int) ≤ el xs k ∧ el xs k ≤ 7) = false from decide_eq_false h1]
        clear h1
        go_wp2
        go_ret
        exact says_false hno.out hbr
    · obtain rfl : k = n := by omega
      by_cases h4 : k = 4
      · have hz : ((k : Int) == 4) = true := by rw [h4]; rfl
        have H4 := hid h4
        clear h4
        by_cases h7 : sumTo xs k ≤ 7
        · go_wp2
          go_ret
          exact says_true ⟨by rw [hlen.out, H4.out], fun j hj => hm.out j (by rw [hlen.out] at hj; exact hj), by rw [sumL, hlen.out]; exact h7⟩ hbr
        · have hno : Hid (¬ VC xs) := hid (fun v => h7 (by have := v.sum; rw [sumL, hlen.out] at this; exact this))
          go_wp2
          go_ret
          exact says_false hno.out hbr
      · have hno : Hid (¬ VC xs) := hid (fun v => h4 (by have := v.len; rw [hlen.out] at this; exact this))
        have hz : ((k : Int) == 4) = false := by simp; omega
        clear h4
        go_wp2
        go_ret
        exact says_false hno.out hbr

set_option maxHeartbeats 2000000 in
theorem chooseS_any (nn : Int) (K : Nat) (w : World) (h0 : (K : Int) ≤ nn) (h7 : nn ≤ 7) :
    Calls Try.prog 83 #[.int .i64 nn, .int .i64 K] w (Says w (.int .i64 (chR nn K))) := by
  go_enter Try.func83, Try.ntmps83
  go_wp2
  go_loopw [5, 6] (fun c i wr => ∃ (t : Nat), t ≤ K ∧ c = .int .i64 (chR nn t) ∧ i = .int .i64 t ∧ Below w.heap.size w wr)
    (fun _ i _ => K - (intOf i).toNat)
  case atStart => exact ⟨0, Nat.zero_le _, rfl, rfl, Below.refl _ _⟩
  case round =>
    obtain ⟨t, ht, rfl, rfl, hbr⟩ := hrel
    by_cases htl : t < K
    · have hb := chR_in h7 (i := t) (by omega)
      have he : Hid (chR nn (t + 1) = chR nn t * (nn - t) / ((t : Int) + 1)) := hid rfl
      obtain ⟨c, hc⟩ : ∃ c, c = chR nn t := ⟨_, rfl⟩
      rw [← hc] at he hb ⊢
      have hb0 := hb.1
      have hb1 := hb.2
      obtain ⟨pr, hpr⟩ : ∃ pr, pr = c * (nn - (t : Int)) := ⟨_, rfl⟩
      have hp0 : 0 ≤ pr := by rw [hpr]; exact Int.mul_nonneg hb0 (by omega)
      have hp1 : pr ≤ 6000000 := by
        have : c * (nn - (t : Int)) ≤ 823543 * 7 := Int.mul_le_mul hb1 (by omega) (by omega) (by omega)
        rw [hpr]; omega
      have hw : wrap64 (c * (nn - (t : Int))) = pr := by rw [← hpr]; exact IntWalk.wrap64_in _ ⟨by omega, by omega⟩
      have Hpr := hid hpr
      have hnn : -100 ≤ nn := by omega
      have hi : (t : Int) + 1 ≤ 7 := by omega
      clear hb hc hpr
      go_wp2
      go_roundw
      case rel =>
        refine ⟨t + 1, by omega, ?_, by go_num, hbr⟩
        rw [he.out, ← Hpr.out]
      case measure => simp [intOf]; omega
    · obtain rfl : t = K := by omega
      go_wp2
      go_ret
      exact ⟨rfl, hbr⟩

set_option maxHeartbeats 4000000 in
theorem cwdS_any (ao : Option Addr) (n cap : Nat) (xs : List Int) (w : World) (h : Sl w ao n cap xs) (hn : n ≤ 1048576) :
    Calls Try.prog 43 #[.slice ao n cap] w (Says w (.int .i64 (onCi xs (cwP xs 4) (-1)))) := by
  have hbig := h.big
  have hlen := hid h.len
  by_cases hv : VC xs
  · have Hv := hid hv
    have h4 : n = 4 := by rw [← hlen.out]; exact hv.len
    have H4 := hid h4
    clear hv h4
    go_enter Try.func43, Try.ntmps43
    go_wp2_with fail
    refine (says_tob (vcS_any _ _ _ xs _ h hn) (decide_eq_true Hv.out)).mono ?_
    rintro e w1 ⟨rfl, b1⟩
    go_wp2
    go_loopw [3, 4, 5] (fun c s i wr => ∃ (k : Nat), k ≤ n ∧ c = .int .i64 (cwS xs k) ∧ s = .int .i64 (sumTo xs k) ∧ i = .int .i64 k ∧ Below w.heap.size w wr)
      (fun _ _ i _ => n - (intOf i).toNat)
    case atStart => exact ⟨0, Nat.zero_le _, rfl, rfl, rfl, b1⟩
    case round =>
      obtain ⟨k, hk, rfl, rfl, rfl, hbr⟩ := hrel
      by_cases hlt : k < n
      · obtain ⟨b, off, rfl, hblt, hc⟩ := h.row (by omega)
        have hcell := (hbr.cell (p := ⟨b, off + k, none⟩) hblt).trans (hc k hlt)
        have hk4 : k < 4 := by have := H4.out; omega
        have ho := Hv.out.one hk4
        have hp := Hv.out.part (k := k) (by omega)
        have hp1 := Hv.out.part (k := k + 1) (by omega)
        have es : Hid (sumTo xs (k + 1) = sumTo xs k + el xs k) := hid rfl
        have hc1 := cwS_in Hv.out (k := k) (by omega)
        have hc2 := cwS_in Hv.out (k := k + 1) (by omega)
        have ec : Hid (cwS xs (k + 1) = cwS xs k * chR (sumTo xs (k + 1)) (el xs k).toNat) := hid rfl
        obtain ⟨T, hT⟩ := Int.eq_ofNat_of_zero_le ho.1
        rw [es.out] at hp1
        rw [hT] at hcell ec es hp1
        rw [Int.toNat_natCast] at ec
        obtain ⟨S, hS⟩ : ∃ S, S = sumTo xs k := ⟨_, rfl⟩
        rw [← hS] at es hp hp1 ⊢
        rw [es.out] at ec
        have hr := chR_in (n := S + T) hp1.2 (i := T) (by omega)
        have hs0' := hp.1
        have hs7' := hp.2
        have hp10 := hp1.1
        have hp11 := hp1.2
        have hT7 : T ≤ 7 := by omega
        clear hc ho hp hp1 hT hS
        go_wp2_with fail
        refine (chooseS_any _ T _ (by omega) (by omega)).mono ?_
        rintro e w2 ⟨rfl, b2⟩
        have hb2 := hbr.trans (b2.mono hbr.size)
        obtain ⟨c, hc⟩ : ∃ c, c = cwS xs k := ⟨_, rfl⟩
        obtain ⟨d, hd⟩ : ∃ d, d = chR (S + T) T := ⟨_, rfl⟩
        rw [← hc] at ec hc1
        rw [ec.out] at hc2
        rw [← hd] at ec hr hc2
        rw [← hc, ← hd]
        obtain ⟨pr, hpr⟩ : ∃ pr, pr = c * d := ⟨_, rfl⟩
        rw [← hpr] at hc2 ec
        have hw : wrap64 (c * d) = pr := by rw [← hpr]; exact IntWalk.wrap64_in _ ⟨by omega, by omega⟩
        have h10 := hc1.1
        have h11 := hc1.2
        have h20 := hc2.1
        have h21 := hc2.2
        have h30 := hr.1
        have h31 := hr.2
        clear hc hd hpr hc1 hc2 hr
        go_wp2
        go_roundw
        case rel => exact ⟨k + 1, by omega, by rw [ec.out, hw], by rw [es.out], by go_num, hb2⟩
        case measure => simp [intOf]; omega
      · obtain rfl : k = n := by omega
        go_wp2
        go_ret
        exact says_on ((onCi_yes Hv.out).trans (by rw [cw_both Hv.out, H4.out])) hbr
  · have Hv := hid hv
    clear hv
    go_enter Try.func43, Try.ntmps43
    go_wp2_with fail
    refine (says_tob (vcS_any _ _ _ xs _ h hn) (decide_eq_false Hv.out)).mono ?_
    rintro e w1 ⟨rfl, b1⟩
    go_wp2
    go_ret
    exact says_on (onCi_no Hv.out) b1

end Go.Proofs.Ytjphaphnmclbcaa
