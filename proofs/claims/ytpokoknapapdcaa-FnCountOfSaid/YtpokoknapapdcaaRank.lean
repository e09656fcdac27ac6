/- Ranks, in the program and in its model. Condition: the list's cells can be read. -/
import Derived.Test.YtpokoknapapdcaaTab
import Derived.Test.YtpokoknapapdcaaMirR
namespace Go.Proofs.Ytpokoknapapdcaa
open Go.RowKit

theorem fac_mul {j : Nat} (h : j ≤ 7) : wrap64 (fac j * ((j : Int) + 1)) = fac (j + 1) := by
  have f1 := fac_pos (j + 1)
  have f2 : fac (j + 1) ≤ 40320 := by
    have : ∀ n : Nat, n ≤ 7 → fac (n + 1) ≤ 40320 := by decide
    exact this j h
  have e : fac j * ((j : Int) + 1) = fac (j + 1) := rfl
  rw [e]
  exact IntWalk.wrap64_in _ ⟨by omega, by omega⟩

theorem fac_ret {a b : Int} (h : a = b) : Ending.returned (.int .i64 a) = .returned (.int .i64 b) := by rw [h]

set_option maxHeartbeats 400000 in
theorem fac_nat (n : Nat) (w : World) (h : n ≤ 7) :
    Calls Try.prog 103 #[.int .i64 n] w fun e w' => e = .returned (.int .i64 (fac n)) ∧ w' = w := by
  go_enter Try.func103, Try.ntmps103
  go_wp2
  go_loop [3, 4] (fun v i => ∃ j : Nat, j ≤ n - 1 ∧ v = .int .i64 (fac (j + 1)) ∧ i = .int .i64 ((j : Int) + 2)) (fun _ i => n + 2 - (intOf i).toNat)
  case atStart => exact ⟨0, Nat.zero_le _, rfl, rfl⟩
  case round =>
    obtain ⟨j, hj, rfl, rfl⟩ := hrel
    by_cases hlt : j + 2 ≤ n
    · have hm := fac_mul (j := j + 1) (by omega)
      have e1 : ((j + 1 : Nat) : Int) + 1 = (j : Int) + 2 := by omega
      rw [e1] at hm
      have hi : (j : Int) + 2 ≤ n := by omega
      clear e1
      go_wp2
      go_round
      case rel => exact ⟨j + 1, by omega, by rw [hm], by go_num⟩
      case measure => simp [intOf]; omega
    · have hi : ¬ (j : Int) + 2 ≤ n := by omega
      have e : fac (j + 1) = fac n := by
        rcases Nat.lt_or_ge j (n - 1) with h1 | h1
        · omega
        · rcases Nat.eq_zero_or_pos n with h0 | h0
          · subst h0; obtain rfl : j = 0 := by omega
            rfl
          · obtain rfl : n = j + 1 := by omega
            rfl
      have He := hid e
      clear e
      go_wp2
      go_ret
      exact ⟨fac_ret He.out, rfl⟩

theorem fac_any (a : Int) (w : World) (h0 : 0 ≤ a) (h : a ≤ 7) :
    Calls Try.prog 103 #[.int .i64 a] w fun e w' => e = .returned (.int .i64 (fac a.toNat)) ∧ w' = w := by
  obtain ⟨n, rfl⟩ := Int.eq_ofNat_of_zero_le h0
  exact fac_nat n w (by omega)

set_option maxHeartbeats 1000000 in
theorem rankI_any (ao : Option Addr) (n cap : Nat) (xs : List Int) (w : World) (h : Sl w ao n cap xs) :
    Calls Try.prog 37 #[.slice ao n cap] w (Says w (.int .i64 (onVi xs (rk xs) (-1)))) := by
  have hbig := h.big
  have hlen := hid h.len
  by_cases hv : Valid xs
  · have h7 : n ≤ 7 := by have := hv.len; rw [hlen.out] at this; exact this
    have Hv := hid hv
    go_enter Try.func37, Try.ntmps37
    go_wp2_with fail
    refine (validI_any _ _ _ xs _ h).mono ?_
    rintro e w1 ⟨rfl, hb1⟩
    have hsz := hb1.size
    go_wp2_with fail
    refine (tableI_any _ _ _ xs _ (h.later hb1)).mono ?_
    rintro e w2 ⟨u2, rfl, ho2, hb2⟩
    rw [onV_yes Hv.out] at ho2
    obtain ⟨a2, c2, rfl, hs2⟩ := ho2.sl
    have ht := hid (table_seven Hv.out)
    rw [hlen.out] at ht
    have hb3 := hb1.trans (hb2.mono hsz)
    obtain ⟨ts, Hts⟩ : ∃ ts, Hid (ts = table xs) := ⟨_, rfl⟩
    have hl2 : (table xs).length = n := by rw [table_len, hlen.out]
    rw [hl2] at hs2 ⊢
    rw [← Hts.out] at hs2 ht
    clear ho2 hl2 hv
    go_wp2
    go_loopw [3, 12] (fun v i wr => ∃ (k : Nat), k ≤ n ∧ v = .int .i64 (rkP ts n k) ∧ i = .int .i64 k ∧ Below w2.heap.size w2 wr)
      (fun _ i _ => n - (intOf i).toNat)
    case atStart => exact ⟨0, Nat.zero_le _, rfl, rfl, Below.refl _ _⟩
    case round =>
      obtain ⟨k, hk, rfl, rfl, hbr⟩ := hrel
      have hbd := rkP_bd h7 ht.out k hk
      have hp8 := pow8_le (k := k) (by omega)
      have hbb1 := hbd.1
      have hbb2 : rkP ts n k ≤ 3000000 := by omega
      clear hbd hp8
      by_cases hlt : k < n
      · obtain ⟨b, off, rfl, hblt, hc⟩ := hs2.row (by omega)
        have hcell := (hbr.cell (p := ⟨b, off + k, none⟩) hblt).trans (hc k hlt)
        have he := ht.out k hlt
        have he0 := he.1
        have he1 := he.2
        obtain ⟨pr, hpr⟩ : ∃ pr, pr = rkP ts n k * ((n : Int) - k) := ⟨_, rfl⟩
        have p1 : 0 ≤ pr := by rw [hpr]; exact Int.mul_nonneg hbb1 (by omega)
        have p2 : pr ≤ 21000000 := by rw [hpr]; exact Int.mul_le_mul hbb2 (show (n : Int) - k ≤ 7 by omega) (by omega) (by omega)
        have hw : wrap64 (rkP ts n k * ((n : Int) - k)) = pr := by rw [← hpr]; exact IntWalk.wrap64_in _ ⟨by omega, by omega⟩
        have Hpr := hid hpr
        clear hc he hpr
        go_wp2
        go_roundw
        case rel => exact ⟨k + 1, by omega, by rw [rkP, ← Hpr.out], by go_num, hbr⟩
        case measure => simp [intOf]; omega
      · obtain rfl : k = n := by omega
        go_wp2
        go_ret
        rw [onVi_yes Hv.out]
        exact says_int (by rw [rk, ← Hts.out, hlen.out]) (hb3.trans (hbr.mono hb3.size))
  · have Hv := hid hv
    go_enter Try.func37, Try.ntmps37
    go_wp2_with fail
    refine (validI_any _ _ _ xs _ h).mono ?_
    rintro e w1 ⟨rfl, hb1⟩
    go_wp2
    go_ret
    rw [onVi_no Hv.out]
    exact ⟨rfl, hb1⟩

end Go.Proofs.Ytpokoknapapdcaa
