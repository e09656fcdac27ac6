/- Places above, below and fixed are all places; records rise and end at the greatest value; crossings and nestings are pairs. No condition. -/
import Derived.Test.YtlhphgldmefefabMirC
import Derived.Test.YtlhphgldmefefabFinSign
namespace Go.Proofs.Ytlhphgldmefefab

theorem plP_cnt (f : Int → Int → Bool) (xs : List Int) : ∀ k, ((plP f xs k).length : Int) = cntP (fun j => f j (el xs j)) k := by
  intro k
  induction k with
  | zero => rfl
  | succ k ih =>
    cases e : f k (el xs k)
    · rw [plP_no e, cntP_no (by simpa using e), ih]
    · rw [plP_yes e, cntP_yes (by simpa using e), List.length_append, List.length_singleton, ← ih]; omega

theorem asc_app {a : List Int} {x : Int} (h : Asc a) (hx : ∀ y ∈ a, y < x) : Asc (a ++ [x]) := by
  intro i hi h0
  rw [List.length_append, List.length_singleton] at hi
  by_cases e : i = a.length
  · rw [e, el_app_eq, el_app_lt (by omega)]
    exact hx _ (el_mem (by omega))
  · rw [el_app_lt (by omega), el_app_lt (by omega)]
    exact h i (by omega) h0

theorem asc_plP (f : Int → Int → Bool) (xs : List Int) : ∀ k, Asc (plP f xs k) := by
  intro k
  induction k with
  | zero => intro i hi; simp [plP] at hi
  | succ k ih =>
    rw [plP]
    split
    · exact asc_app ih (fun y hy => (plP_mem f xs k y hy).2)
    · exact ih

theorem above_all {xs : List Int} (h : Valid xs) : ((above xs).length : Int) + ((above (inv xs)).length : Int) + ((fixed xs).length : Int) = xs.length := by
  have e1 : ((above (inv xs)).length : Int) = S (ind fun v => upF v (el (inv xs) v)) xs.length := by
    rw [above, inv_length, plP_cnt, cntP_S]
  have e2 : S (ind fun v => upF v (el (inv xs) v)) xs.length = S (ind fun a => upF (el xs a) a) xs.length := by
    rw [← S_perm h]
    refine S_congr _ (fun j hj => ?_)
    have h1 := inv_el h hj
    have h2 := h.lo j hj
    have h3 : (((el xs j).toNat : Nat) : Int) = el xs j := by omega
    simp only [ind, h1, h3]
  rw [e1, e2, above, fixed, plP_cnt, plP_cnt, cntP_S, cntP_S, ← S_add, ← S_add]
  have : ∀ k, S (fun i => ind (fun j => upF j (el xs j)) i + ind (fun a => upF (el xs a) a) i + ind (fun j => fixF j (el xs j)) i) k = k := by
    intro k
    induction k with
    | zero => rfl
    | succ k ih =>
      rw [S, ih]
      simp only [ind, upF, fixF, decide_eq_true_eq]
      split <;> split <;> split <;> omega
  exact this _

theorem mxP_ge (xs : List Int) : ∀ k j, j < k → el xs j ≤ mxP xs k := by
  intro k
  induction k with
  | zero => intro j hj; omega
  | succ k ih =>
    intro j hj
    rw [mxP]
    by_cases e : j = k
    · subst e; split <;> omega
    · have := ih j (by omega)
      split <;> omega
theorem mxP_le {xs : List Int} {M : Int} (h0 : -1 ≤ M) : ∀ k, (∀ j, j < k → el xs j ≤ M) → mxP xs k ≤ M := by
  intro k
  induction k with
  | zero => intro _; exact h0
  | succ k ih =>
    intro h
    have h1 := ih (fun j hj => h j (by omega))
    have h2 := h k (by omega)
    rw [mxP]
    split <;> omega
theorem mxP_top {xs : List Int} (h : Valid xs) (hp : 0 < xs.length) : mxP xs xs.length = (xs.length : Int) - 1 := by
  obtain ⟨k, hk, he⟩ := h.place (v := xs.length - 1) (by omega)
  have h1 := mxP_ge xs xs.length k hk
  have h2 : mxP xs xs.length ≤ (xs.length : Int) - 1 := mxP_le (by omega) _ (fun j hj => by have := h.hi j hj; omega)
  omega

theorem rcP_mem (xs : List Int) (k : Nat) : ∀ x ∈ rcP xs k, 0 ≤ x ∧ x < k := by
  induction k with
  | zero => intro x hx; simp [rcP] at hx
  | succ k ih =>
    intro x hx
    rw [rcP] at hx
    split at hx
    · rw [List.mem_append, List.mem_singleton] at hx
      rcases hx with hx | hx
      · have := ih x hx; omega
      · omega
    · have := ih x hx; omega
theorem asc_rcP (xs : List Int) : ∀ k, Asc (rcP xs k) := by
  intro k
  induction k with
  | zero => intro i hi; simp [rcP] at hi
  | succ k ih =>
    rw [rcP]
    split
    · exact asc_app ih (fun y hy => (rcP_mem xs k y hy).2)
    · exact ih

/-- The values at the places of records rise; the last one is the greatest. -/
theorem rcP_rise (xs : List Int) : ∀ k, (∀ i, i < (rcP xs k).length → el xs (el (rcP xs k) i).toNat ≤ mxP xs k) ∧ (∀ i, i < (rcP xs k).length → 0 < i → el xs (el (rcP xs k) (i - 1)).toNat < el xs (el (rcP xs k) i).toNat) := by
  intro k
  induction k with
  | zero => exact ⟨fun i hi => by simp [rcP] at hi, fun i hi => by simp [rcP] at hi⟩
  | succ k ih =>
    by_cases e : mxP xs k < el xs k
    · rw [rcP_yes e, mxP_yes e]
      refine ⟨fun i hi => ?_, fun i hi h0 => ?_⟩
      · rw [List.length_append, List.length_singleton] at hi
        by_cases ei : i = (rcP xs k).length
        · rw [ei, el_app_eq, Int.toNat_natCast]; omega
        · rw [el_app_lt (by omega)]
          have := ih.1 i (by omega); omega
      · rw [List.length_append, List.length_singleton] at hi
        by_cases ei : i = (rcP xs k).length
        · rw [ei, el_app_eq, el_app_lt (by omega), Int.toNat_natCast]
          have := ih.1 ((rcP xs k).length - 1) (by omega); omega
        · rw [el_app_lt (by omega), el_app_lt (by omega)]
          exact ih.2 i (by omega) h0
    · rw [rcP_no (by omega), mxP_no (by omega)]
      exact ih
theorem rcP_last {xs : List Int} (h : ∀ j, j < xs.length → 0 ≤ el xs j) : ∀ k, k < xs.length → 0 < (rcP xs (k + 1)).length ∧ el (rcP xs (k + 1)) 0 = 0 ∧ el xs (el (rcP xs (k + 1)) ((rcP xs (k + 1)).length - 1)).toNat = mxP xs (k + 1) := by
  intro k
  induction k with
  | zero =>
    intro hk
    have h0 := h 0 hk
    have e : mxP xs 0 < el xs 0 := by rw [mxP]; omega
    rw [rcP_yes e, mxP_yes e]
    exact ⟨by simp [rcP], rfl, rfl⟩
  | succ k ih =>
    intro hk
    obtain ⟨h1, h2, h3⟩ := ih (by omega)
    by_cases e : mxP xs (k + 1) < el xs (k + 1)
    · rw [rcP_yes e, mxP_yes e]
      refine ⟨by simp, ?_, ?_⟩
      · rw [el_app_lt h1]; exact h2
      · rw [List.length_append, List.length_singleton, Nat.add_sub_cancel, el_app_eq, Int.toNat_natCast]
    · rw [rcP_no (by omega), mxP_no (by omega)]
      exact ⟨h1, h2, h3⟩
theorem rec_facts {xs : List Int} (h : Valid xs) (hp : 0 < xs.length) : 0 < (records xs).length ∧ el (records xs) 0 = 0 ∧ el xs (el (records xs) ((records xs).length - 1)).toNat = (xs.length : Int) - 1 := by
  obtain ⟨k, hk⟩ : ∃ k, xs.length = k + 1 := ⟨xs.length - 1, by omega⟩
  have := rcP_last h.lo k (by omega)
  rw [← hk, mxP_top h hp] at this
  exact this

/-- Crossing pairs and nesting pairs are different pairs. -/
theorem cross_nest (xs : List Int) (k : Nat) : ∀ t, inP crossF xs k t + inP nestF xs k t ≤ t := by
  intro t
  induction t with
  | zero => exact Int.le_refl _
  | succ t ih =>
    by_cases a : crossF t (el xs t) k (el xs k) = true
    · have b : nestF t (el xs t) k (el xs k) = false := by
        simp only [crossF, Bool.or_eq_true, Bool.and_eq_true, decide_eq_true_eq] at a
        simp only [nestF, Bool.or_eq_false_iff, Bool.and_eq_false_iff, decide_eq_false_iff_not]
        omega
      rw [inP_yes a, inP_no b]; omega
    · rw [inP_no (by simpa using a)]
      by_cases b : nestF t (el xs t) k (el xs k) = true
      · rw [inP_yes b]; omega
      · rw [inP_no (by simpa using b)]; omega
theorem sq_step (k : Nat) : ((k + 1 : Nat) : Int) * (((k + 1 : Nat) : Int) - 1) = (k : Int) * ((k : Int) - 1) + 2 * k := by
  have e1 : ((k + 1 : Nat) : Int) = (k : Int) + 1 := by omega
  rw [e1, show (k : Int) + 1 - 1 = k by omega, Int.mul_sub, Int.add_mul]
  omega
theorem cross_pairs (xs : List Int) : 2 * (pairs crossF xs + pairs nestF xs) ≤ (xs.length : Int) * ((xs.length : Int) - 1) := by
  have : ∀ k : Nat, 2 * (prP crossF xs k + prP nestF xs k) ≤ (k : Int) * ((k : Int) - 1) := by
    intro k
    induction k with
    | zero => exact Int.le_refl _
    | succ k ih =>
      have h := cross_nest xs k k
      rw [prP, prP, sq_step]
      generalize (k : Int) * ((k : Int) - 1) = z at ih ⊢
      omega
  exact this _
theorem pairs_nn (f : Int → Int → Int → Int → Bool) (xs : List Int) : 0 ≤ pairs f xs := (prP_bd f xs _).1
theorem rise_cross : ∀ n : Nat, n ≤ 7 → pairs crossF (rise n) = 0 ∧ pairs nestF (rise n) = 0 ∧ pairs crossF (turn (rise n)) = 0 ∧ (3 ≤ n → 0 < pairs nestF (turn (rise n))) := by decide +kernel

end Go.Proofs.Ytlhphgldmefefab
