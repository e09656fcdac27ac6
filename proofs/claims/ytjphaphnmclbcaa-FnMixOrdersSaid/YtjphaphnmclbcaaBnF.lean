/- What the kernel reckons of rows of words of two letters. No condition. -/
import Derived.Test.YtjphaphnmclbcaaMnF
namespace Go.Proofs.Ytjphaphnmclbcaa
open Go Go.RowKit

/-- Out of how many ways to choose: the model's way to reckon. -/
def chP (n : Int) : Nat → Int
  | 0 => 1
  | i + 1 => chP n i * (n - i) / ((i : Int) + 1)
theorem chP_in : ∀ n : Nat, n < 8 → ∀ i : Nat, i < 8 → 0 ≤ chP n i ∧ chP n i ≤ 100 := by decide +kernel
def chkB (n k : Nat) : Bool := decide ((bt n k).reverse = bt n k) && decide (bt n (n - k) = bt n k) && okN (bt n k) && okN (pt k) && okN (pt (n - k)) && okN (fmN (pt k) (pt (n - k))) && decide (fmN (bt n k) (fmN (pt k) (pt (n - k))) = pt n)
  && decide ((((bt n k).foldr (· + ·) 0 : Nat) : Int) = chP n k) && (bt n k).all (fun x => decide (x ≤ 100))
theorem chkB_all : (List.range 8).all (fun n => (List.range (n + 1)).all fun k => chkB n k) = true := by decide +kernel
structure BnF (n k : Nat) (R : List Int) : Prop where
  ends : turn R = R
  other : bR n (n - k) = R
  prod : mulR R (mulR (prw k) (prw (n - k))) = prw n
  sum : sumL R = chP n k
  len : R.length ≤ 30
  small : ∀ j, 0 ≤ el R j ∧ el R j ≤ 100
theorem bnF {n k : Nat} (hn : n ≤ 7) (hk : k ≤ n) : BnF n k (bR n k) := by
  have h := List.all_eq_true.1 (List.all_eq_true.1 chkB_all n (List.mem_range.2 (by omega))) k (List.mem_range.2 (by omega))
  simp only [chkB, Bool.and_eq_true, decide_eq_true_eq, List.all_eq_true] at h
  obtain ⟨⟨⟨⟨⟨⟨⟨⟨h1, h2⟩, h3⟩, h4⟩, h5⟩, h6⟩, h7⟩, h8⟩, h9⟩ := h
  have e := (bt_at hn hk).1
  refine ⟨?_, ?_, ?_, ?_, ?_, ?_⟩
  · rw [e, turn_toI, h1]
  · rw [(bt_at (k := n - k) hn (by omega)).1, h2, e]
  · rw [e, (pt_at (n := k) (by omega)).1, (pt_at (n := n - k) (by omega)).1, mulR_toI h4 h5, mulR_toI h3 h6, h7, (pt_at hn).1]
  · rw [e, sum_toI, h8]
  · rw [e]; exact (co_toI h3).len
  · intro j
    rw [e, el_toI]
    by_cases hj : j < (bt n k).length
    · rw [List.getD_eq_getElem?_getD, List.getElem?_eq_getElem hj]
      have := h9 _ (List.getElem_mem hj)
      simp only [Option.getD_some]
      omega
    · rw [List.getD_eq_getElem?_getD, List.getElem?_eq_none (by omega)]
      simp

theorem choose7_any (n K : Nat) (w : World) (h3 : n ≤ 7) (hK : K ≤ n) :
    Calls Try.prog 50 #[.int .i64 n, .int .i64 K] w (fun e w' => e = .returned (.int .i64 (chP n K)) ∧ w' = w) := by
  go_enter Try.func50, Try.ntmps50
  go_wp2
  go_loop [5, 6] (fun c i => ∃ (t : Nat), t ≤ K ∧ c = .int .i64 (chP n t) ∧ i = .int .i64 t)
    (fun _ i => K - (intOf i).toNat)
  case atStart => exact ⟨0, Nat.zero_le _, rfl, rfl⟩
  case round =>
    obtain ⟨t, ht, rfl, rfl⟩ := hrel
    by_cases htl : t < K
    · have hb := chP_in n (by omega) t (by omega)
      have he : Hid (chP n (t + 1) = chP n t * ((n : Int) - t) / ((t : Int) + 1)) := hid rfl
      obtain ⟨c, hc⟩ : ∃ c, c = chP n t := ⟨_, rfl⟩
      rw [← hc] at he hb ⊢
      have hb0 := hb.1
      have hb1 := hb.2
      obtain ⟨pr, hpr⟩ : ∃ pr, pr = c * ((n : Int) - (t : Int)) := ⟨_, rfl⟩
      have hp0 : 0 ≤ pr := by rw [hpr]; exact Int.mul_nonneg hb0 (by omega)
      have hp1 : pr ≤ 700 := by
        have : c * ((n : Int) - (t : Int)) ≤ 100 * 7 := Int.mul_le_mul hb1 (by omega) (by omega) (by omega)
        rw [hpr]; omega
      have hw : wrap64 (c * ((n : Int) - (t : Int))) = pr := by rw [← hpr]; exact IntWalk.wrap64_in _ ⟨by omega, by omega⟩
      have Hpr := hid hpr
      have hi : (t : Int) + 1 ≤ 8 := by omega
      clear hb hc hpr
      go_wp2
      go_round
      case rel =>
        refine ⟨t + 1, by omega, ?_, by go_num⟩
        rw [he.out, ← Hpr.out]
      case measure => simp [intOf]; omega
    · obtain rfl : t = K := by omega
      go_wp2
      go_ret
      exact ⟨rfl, rfl⟩
end Go.Proofs.Ytjphaphnmclbcaa
