/- Denert's number, as the program and as the model reckon it. No condition. -/
import Derived.Test.YtjphaphnmclbcaaBng
import Derived.Test.YtjphaphnmclbcaaFinPairs
namespace Go.Proofs.Ytjphaphnmclbcaa

theorem cntP_congr {p q : Nat → Bool} : ∀ k, (∀ j, j < k → p j = q j) → cntP p k = cntP q k := by
  intro k
  induction k with
  | zero => intro _; rfl
  | succ k ih => intro h; rw [cntP, cntP, ih (fun j hj => h j (by omega)), h k (by omega)]

/-- The values at places above, and at all other places, among the first k places. -/
def uvP (xs : List Int) : Nat → List Int
  | 0 => []
  | k + 1 => if (k : Int) < el xs k then uvP xs k ++ [el xs k] else uvP xs k
def dvP (xs : List Int) : Nat → List Int
  | 0 => []
  | k + 1 => if (k : Int) < el xs k then dvP xs k else dvP xs k ++ [el xs k]
/-- The sum of the places above, each with 1 more. -/
def duP (xs : List Int) : Nat → Int
  | 0 => 0
  | k + 1 => if (k : Int) < el xs k then duP xs k + k + 1 else duP xs k
theorem uvP_yes {xs : List Int} {k : Nat} (h : (k : Int) < el xs k) : uvP xs (k + 1) = uvP xs k ++ [el xs k] := by rw [uvP, if_pos h]
theorem uvP_no {xs : List Int} {k : Nat} (h : el xs k ≤ (k : Int)) : uvP xs (k + 1) = uvP xs k := by rw [uvP, if_neg (by omega)]
theorem dvP_yes {xs : List Int} {k : Nat} (h : (k : Int) < el xs k) : dvP xs (k + 1) = dvP xs k := by rw [dvP, if_pos h]
theorem dvP_no {xs : List Int} {k : Nat} (h : el xs k ≤ (k : Int)) : dvP xs (k + 1) = dvP xs k ++ [el xs k] := by rw [dvP, if_neg (by omega)]
theorem duP_yes {xs : List Int} {k : Nat} (h : (k : Int) < el xs k) : duP xs (k + 1) = duP xs k + k + 1 := by rw [duP, if_pos h]
theorem duP_no {xs : List Int} {k : Nat} (h : el xs k ≤ (k : Int)) : duP xs (k + 1) = duP xs k := by rw [duP, if_neg (by omega)]
theorem uvP_len (xs : List Int) (k : Nat) : (uvP xs k).length ≤ k := by
  induction k with
  | zero => simp [uvP]
  | succ k ih =>
    rw [uvP]
    split
    · rw [List.length_append, List.length_singleton]; omega
    · omega
theorem dvP_len (xs : List Int) (k : Nat) : (dvP xs k).length ≤ k := by
  induction k with
  | zero => simp [dvP]
  | succ k ih =>
    rw [dvP]
    split
    · omega
    · rw [List.length_append, List.length_singleton]; omega
theorem duP_bd (xs : List Int) (k : Nat) : 0 ≤ duP xs k ∧ duP xs k ≤ k * k := by
  induction k with
  | zero => simp [duP]
  | succ k ih =>
    have e : ((k + 1 : Nat) : Int) * (k + 1 : Nat) = k * k + k + k + 1 := by rw [Int.natCast_add, Int.add_mul, Int.mul_add]; simp; omega
    rw [duP, e]
    split <;> omega

/-- How many numbers of a list are greater than v. -/
def gr (ys : List Int) (v : Int) : Int := cntP (fun t => decide (v < el ys t)) ys.length
theorem gr_app (ys : List Int) (x v : Int) : gr (ys ++ [x]) v = gr ys v + if v < x then 1 else 0 := by
  rw [gr, List.length_append, List.length_singleton, cntP, el_app_eq, gr]
  have e : cntP (fun t => decide (v < el (ys ++ [x]) t)) ys.length = cntP (fun t => decide (v < el ys t)) ys.length := cntP_congr _ (fun j hj => by rw [el_app_lt hj])
  rw [e]
  by_cases h : v < x
  · simp [h]
  · simp [h]
theorem invs_app (ys : List Int) (v : Int) : sumL (table (ys ++ [v])) = sumL (table ys) + gr ys v := by
  rw [invs_ga, invs_ga, List.length_append, List.length_singleton, S]
  have e1 : S (ga (ys ++ [v])) ys.length = S (ga ys) ys.length := by
    refine S_congr _ (fun i hi => ?_)
    rw [ga, ga]
    exact cntP_congr _ (fun j hj => by rw [el_app_lt hi, el_app_lt (by omega)])
  have e2 : ga (ys ++ [v]) ys.length = gr ys v := by
    rw [ga, gr]
    exact cntP_congr _ (fun j hj => by rw [el_app_eq, el_app_lt hj])
  rw [e1, e2]
theorem gr_uv (xs : List Int) (v : Int) : ∀ k, gr (uvP xs k) v = cntP (fun i => decide ((i : Int) < el xs i) && decide (v < el xs i)) k := by
  intro k
  induction k with
  | zero => rfl
  | succ k ih =>
    by_cases a : (k : Int) < el xs k
    · rw [uvP_yes a, gr_app, ih]
      by_cases b : v < el xs k
      · rw [cntP_yes (by simp [a, b]), if_pos b]
      · rw [cntP_no (by simp [b]), if_neg b]; omega
    · rw [uvP_no (by omega), ih, cntP_no (by simp [a])]
theorem gr_dv (xs : List Int) (v : Int) : ∀ k, gr (dvP xs k) v = cntP (fun i => !decide ((i : Int) < el xs i) && decide (v < el xs i)) k := by
  intro k
  induction k with
  | zero => rfl
  | succ k ih =>
    by_cases a : (k : Int) < el xs k
    · rw [dvP_yes a, ih, cntP_no (by simp [a])]
    · rw [dvP_no (by omega), gr_app, ih]
      by_cases b : v < el xs k
      · rw [cntP_yes (by simp [a, b]), if_pos b]
      · rw [cntP_no (by simp [b]), if_neg b]; omega
theorem den_pairs (xs : List Int) : ∀ k, sumL (table (uvP xs k)) + sumL (table (dvP xs k)) = prP denF xs k := by
  intro k
  induction k with
  | zero => rfl
  | succ k ih =>
    rw [prP, inP, ← ih]
    by_cases a : (k : Int) < el xs k
    · rw [uvP_yes a, dvP_yes a, invs_app, gr_uv]
      have e : cntP (fun i => decide ((i : Int) < el xs i) && decide (el xs k < el xs i)) k = cntP (fun i => denF i (el xs i) k (el xs k)) k := cntP_congr _ (fun j _ => by
        by_cases b : (j : Int) < el xs j <;> simp [denF, a, b])
      rw [e]; omega
    · rw [uvP_no (by omega), dvP_no (by omega), invs_app, gr_dv]
      have e : cntP (fun i => !decide ((i : Int) < el xs i) && decide (el xs k < el xs i)) k = cntP (fun i => denF i (el xs i) k (el xs k)) k := cntP_congr _ (fun j _ => by
        by_cases b : (j : Int) < el xs j <;> simp [denF, a, b])
      rw [e]; omega
def den (xs : List Int) : Int := pairs denF xs + duP xs xs.length
theorem den_eq (xs : List Int) : duP xs xs.length + sumL (table (uvP xs xs.length)) + sumL (table (dvP xs xs.length)) = den xs := by
  have := den_pairs xs xs.length
  rw [den, pairs]; omega
theorem du_above (xs : List Int) : ∀ k, sumL (plP upF xs k) + (plP upF xs k).length = duP xs k := by
  intro k
  induction k with
  | zero => rfl
  | succ k ih =>
    by_cases a : (k : Int) < el xs k
    · rw [plP_yes (by simp [upF, a]), duP_yes a, sumL_app, List.length_append, List.length_singleton]; omega
    · rw [plP_no (by simp [upF, a]), duP_no (by omega), ih]
theorem den_above (xs : List Int) : ((above xs).length : Int) ≤ den xs := by
  have h1 := du_above xs xs.length
  have h2 := (prP_bd denF xs xs.length).1
  have h3 : 0 ≤ sumL (plP upF xs xs.length) := by
    have : ∀ k, 0 ≤ sumL (plP upF xs k) := by
      intro k
      induction k with
      | zero => exact Int.le_refl _
      | succ k ih =>
        rw [plP]
        split
        · rw [sumL_app]; omega
        · exact ih
    exact this _
  rw [den, pairs, above]; omega

theorem du_zero (xs : List Int) : ∀ k, duP xs k ≤ 0 → ∀ j, j < k → el xs j ≤ j := by
  intro k
  induction k with
  | zero => intro _ j hj; omega
  | succ k ih =>
    intro h j hj
    have h1 := (duP_bd xs k).1
    by_cases a : (k : Int) < el xs k
    · rw [duP_yes a] at h; omega
    · rw [duP_no (by omega)] at h
      by_cases e : j = k
      · subst e; omega
      · exact ih h j (by omega)
theorem below_rise {xs : List Int} (h : Valid xs) (hb : ∀ j, j < xs.length → el xs j ≤ j) : xs = rise xs.length := by
  refine ext_el (by rw [rise_len]) (fun j hj => ?_)
  rw [rise, el_map hj]
  have key : ∀ m j, j < m → j < xs.length → el xs j = j := by
    intro m
    induction m with
    | zero => intro j hj; omega
    | succ m ih =>
      intro j hj hl
      by_cases e : j = m
      · have h1 := hb j hl
        have h2 := h.lo j hl
        rcases Int.lt_or_le (el xs j) j with a | a
        · have h3 := ih (el xs j).toNat (by omega) (by omega)
          have h4 := h.ne (el xs j).toNat j (by omega) hl
          omega
        · omega
      · exact ih j (by omega) hl
  exact key (j + 1) j (by omega) hj
theorem rise_den : ∀ n : Nat, n ≤ 7 → den (rise n) = 0 := by decide +kernel
theorem den_zero {xs : List Int} (h : Valid xs) : den xs = 0 ↔ xs = rise xs.length := by
  constructor
  · intro e
    have h1 := (prP_bd denF xs xs.length).1
    rw [den, pairs] at e
    exact below_rise h (du_zero xs xs.length (by omega))
  · intro e
    rw [e]
    exact rise_den _ h.len

end Go.Proofs.Ytjphaphnmclbcaa
