/- Inversions of an order and of the order turned are all pairs; of a rising order alone there are none. No condition. -/
import Derived.Test.YtjphaphnmclbcaaBnh
namespace Go.Proofs.Ytjphaphnmclbcaa

/-- How many lesser numbers stand ahead of place i; how many greater ones. -/
def la (xs : List Int) (i : Nat) : Int := cntP (fun t => decide (el xs t < el xs i)) i
def ga (xs : List Int) (i : Nat) : Int := cntP (fun t => decide (el xs i < el xs t)) i

theorem rows_cols (xs : List Int) : ∀ k, S (fun i => lbP xs i (k - 1 - i)) k = S (ga xs) k := by
  intro k
  induction k with
  | zero => rfl
  | succ k ih =>
    rw [S, S, ← ih]
    have h0 : lbP xs k (k + 1 - 1 - k) = 0 := by rw [show k + 1 - 1 - k = 0 by omega]; rfl
    have h1 : S (fun i => lbP xs i (k + 1 - 1 - i)) k = S (fun i => lbP xs i (k - 1 - i) + ind (fun t => decide (el xs k < el xs t)) i) k := by
      refine S_congr k (fun j hj => ?_)
      obtain ⟨m, hm⟩ : ∃ m, k - 1 - j = m := ⟨_, rfl⟩
      rw [show k + 1 - 1 - j = m + 1 by omega, hm, ind]
      have hk : j + 1 + m = k := by omega
      by_cases e : el xs k < el xs j
      · rw [lbP_yes (by rw [hk]; exact e)]; simp [e]
      · rw [lbP_no (by rw [hk]; omega)]; simp [e]
    rw [h0, h1, S_add, ga, cntP_S]
    omega

theorem invs_ga (xs : List Int) : sumL (table xs) = S (ga xs) xs.length := by
  rw [table_S, ← rows_cols]
  rfl

theorem invs_turn (xs : List Int) : sumL (table (turn xs)) = S (la xs) xs.length := by
  rw [table_S, turn_len, S_rev (la xs)]
  refine S_congr _ (fun i hi => ?_)
  have e1 : el (turn xs) i = el xs (xs.length - 1 - i) := el_turn hi
  have e3 : lb (turn xs) i = cntP (fun j => decide (el (turn xs) (i + 1 + j) < el (turn xs) i)) (xs.length - 1 - i) := by rw [lb, turn_len]; rfl
  rw [e3, la, cntP_rev, cntP_S, cntP_S]
  refine S_congr _ (fun t ht => ?_)
  have e2 : el (turn xs) (i + 1 + (xs.length - 1 - i - 1 - t)) = el xs t := by
    rw [el_turn (by omega)]; congr 1; omega
  show ind _ t = ind _ t
  unfold ind
  simp only [e2, e1]

theorem la_ga {xs : List Int} (h : Valid xs) {i : Nat} (hi : i < xs.length) : la xs i + ga xs i = i := by
  have key : ∀ k, k ≤ i → cntP (fun t => decide (el xs t < el xs i)) k + cntP (fun t => decide (el xs i < el xs t)) k = k := by
    intro k
    induction k with
    | zero => intro _; rfl
    | succ k ih =>
      intro hk
      have h1 := ih (by omega)
      have hne := h.ne k i (by omega) hi
      rcases Int.lt_or_le (el xs k) (el xs i) with a | a
      · rw [cntP_yes (by simpa using a), cntP_no (by simp; omega)]; omega
      · rw [cntP_no (by simp; omega), cntP_yes (by simp; omega)]; omega
  exact key i (Nat.le_refl _)

theorem turn_pairs {xs : List Int} (h : Valid xs) : 2 * (sumL (table (turn xs)) + sumL (table xs)) = (xs.length : Int) * ((xs.length : Int) - 1) := by
  rw [invs_turn, invs_ga]
  have key : ∀ k, k ≤ xs.length → 2 * (S (la xs) k + S (ga xs) k) = (k : Int) * ((k : Int) - 1) := by
    intro k
    induction k with
    | zero => intro _; rfl
    | succ k ih =>
      intro hk
      have h1 := ih (by omega)
      have h2 := la_ga h (i := k) (by omega)
      rw [S, S]
      have e : ((k + 1 : Nat) : Int) * (((k + 1 : Nat) : Int) - 1) = (k : Int) * ((k : Int) - 1) + 2 * k := by
        have e1 : ((k + 1 : Nat) : Int) = (k : Int) + 1 := by omega
        rw [e1, show (k : Int) + 1 - 1 = k by omega, Int.mul_sub, Int.add_mul]
        omega
      rw [e]
      clear e
      generalize (k : Int) * ((k : Int) - 1) = z at h1 ⊢
      omega
  exact key xs.length (Nat.le_refl _)

theorem S_nn {g : Nat → Int} : ∀ k, (∀ j, j < k → 0 ≤ g j) → 0 ≤ S g k := by
  intro k
  induction k with
  | zero => intro _; exact Int.le_refl _
  | succ k ih => intro h; rw [S]; have := ih (fun j hj => h j (by omega)); have := h k (by omega); omega
theorem S_zero {g : Nat → Int} : ∀ k, (∀ j, j < k → 0 ≤ g j) → S g k = 0 → ∀ j, j < k → g j = 0 := by
  intro k
  induction k with
  | zero => intro _ _ j hj; omega
  | succ k ih =>
    intro h e j hj
    rw [S] at e
    have h1 := S_nn k (fun j hj => h j (by omega))
    have h2 := h k (by omega)
    by_cases ej : j = k
    · rw [ej]; omega
    · exact ih (fun j hj => h j (by omega)) (by omega) j (by omega)

/-- No inversions: the order rises. -/
theorem rises {xs : List Int} (h : Valid xs) (h0 : sumL (table xs) = 0) : xs = rise xs.length := by
  rw [invs_ga] at h0
  have hz := S_zero xs.length (fun j _ => (cntP_bd _ _).1) h0
  have hup : ∀ i j, i < j → j < xs.length → el xs i < el xs j := by
    intro i j hij hj
    have h1 : ga xs j = 0 := hz j hj
    rw [ga, cntP_S] at h1
    have h2 := S_zero j (fun t _ => by rw [ind]; split <;> omega) h1 i hij
    rw [ind] at h2
    have h3 : ¬ el xs j < el xs i := by
      intro a
      rw [if_pos (by simpa using a)] at h2
      omega
    have := h.ne i j hij hj
    omega
  have lo : ∀ i : Nat, i < xs.length → (i : Int) ≤ el xs i := by
    intro i
    induction i with
    | zero => intro hi; exact h.lo 0 hi
    | succ i ih => intro hi; have := ih (by omega); have := hup i (i + 1) (by omega) hi; omega
  have hi' : ∀ k : Nat, k < xs.length → el xs (xs.length - 1 - k) ≤ (xs.length : Int) - 1 - k := by
    intro k
    induction k with
    | zero => intro hk; have := h.hi (xs.length - 1 - 0) (by omega); omega
    | succ k ih => intro hk; have := ih (by omega); have := hup (xs.length - 1 - (k + 1)) (xs.length - 1 - k) (by omega) (by omega); omega
  refine ext_el (by rw [rise_len]) (fun j hj => ?_)
  rw [rise, el_map hj]
  have a := lo j hj
  have b := hi' (xs.length - 1 - j) (by omega)
  rw [show xs.length - 1 - (xs.length - 1 - j) = j by omega] at b
  omega

end Go.Proofs.Ytjphaphnmclbcaa
