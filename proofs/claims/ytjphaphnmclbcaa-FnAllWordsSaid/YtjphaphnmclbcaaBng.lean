/- Texts of this claim put into one: Rank, FinMajor, LawFn2, FinTurn, FinSum, FinPairs, MirD, MirRow. -/
import Derived.Test.YtjphaphnmclbcaaBnf
import Derived.Test.YtjphaphnmclbcaaBnd
import Derived.Test.YtjphaphnmclbcaaBne
/- Ranks, in the program and in its model. Condition: the list's cells can be read. -/
namespace Go.Proofs.Ytjphaphnmclbcaa
open Go.RowKit

theorem fac_mul {j : Nat} (h : j ≤ 7) : wrap64 (fac j * ((j : Int) + 1)) = fac (j + 1) := by
  have f1 := fac_pos (j + 1)
  have f2 : fac (j + 1) ≤ 40320 := by
    have : ∀ n : Nat, n ≤ 7 → fac (n + 1) ≤ 40320 := by decide
    exact this j h
  have e : fac j * ((j : Int) + 1) = fac (j + 1) := rfl
  rw [e]
  exact IntWalk.wrap64_in _ ⟨by omega, by omega⟩

theorem fac_ret {a b : Int} (h : a = b) : Ending.returned (.int .i64 a) = .returned (.int .i64 b) := by rw [h]

end Go.Proofs.Ytjphaphnmclbcaa

/- Opposites of orders: they are orders, and major indices of both are all pairs together. No condition. -/
namespace Go.Proofs.Ytjphaphnmclbcaa

theorem opp_len (xs : List Int) : (opp xs).length = xs.length := map_range_len _
theorem el_opp {xs : List Int} {j : Nat} (h : j < xs.length) : el (opp xs) j = (xs.length : Int) - 1 - el xs j := el_map h
theorem opp_valid {xs : List Int} (h : Valid xs) : Valid (opp xs) := by
  refine ⟨by rw [opp_len]; exact h.len, fun j hj => ?_, fun j hj => ?_, fun i j hij hj => ?_⟩
  · rw [opp_len] at hj
    rw [el_opp hj]
    have := h.hi j hj
    omega
  · rw [opp_len] at hj ⊢
    rw [el_opp hj]
    have := h.lo j hj
    omega
  · rw [opp_len] at hj
    rw [el_opp hj, el_opp (by omega)]
    have := h.ne i j hij hj
    omega

theorem sumTo_app {l : List Int} {x : Int} : ∀ k, k ≤ l.length → sumTo (l ++ [x]) k = sumTo l k := by
  intro k
  induction k with
  | zero => intro _; rfl
  | succ k ih =>
    intro hk
    rw [sumTo, sumTo, ih (by omega)]
    congr 1
    simp [el, List.getElem?_append_left (show k < l.length by omega)]
def majP (xs : List Int) (k : Nat) : Int := sumL (dsP xs k) + (dsP xs k).length
theorem majP_yes {xs : List Int} {k : Nat} (h : el xs (k + 1) < el xs k) : majP xs (k + 1) = majP xs k + (k + 1) := by
  unfold majP
  rw [dsP_yes h, sumL_app, List.length_append, List.length_singleton]
  omega
theorem majP_no {xs : List Int} {k : Nat} (h : el xs k ≤ el xs (k + 1)) : majP xs (k + 1) = majP xs k := by
  unfold majP
  rw [dsP_no h]

theorem opp_step {xs : List Int} (h : Valid xs) {k : Nat} (hk : k + 1 < xs.length) : (el xs (k + 1) < el xs k ∧ el (opp xs) k ≤ el (opp xs) (k + 1)) ∨ (el xs k ≤ el xs (k + 1) ∧ el (opp xs) (k + 1) < el (opp xs) k) := by
  rw [el_opp hk, el_opp (show k < xs.length by omega)]
  have := h.ne k (k + 1) (by omega) hk
  omega

theorem opp_major {xs : List Int} (h : Valid xs) : 2 * (major xs + major (opp xs)) = (xs.length : Int) * ((xs.length : Int) - 1) := by
  have key : ∀ k, k ≤ xs.length - 1 → 2 * (majP xs k + majP (opp xs) k) = (k : Int) * ((k : Int) + 1) := by
    intro k
    induction k with
    | zero => intro _; rfl
    | succ k ih =>
      intro hk
      have h1 := ih (by omega)
      have e : ((k + 1 : Nat) : Int) * (((k + 1 : Nat) : Int) + 1) = (k : Int) * ((k : Int) + 1) + 2 * ((k : Int) + 1) := by
        have e1 : ((k + 1 : Nat) : Int) = (k : Int) + 1 := by omega
        rw [e1, show (k : Int) + 1 + 1 = k + 2 by omega, Int.mul_add, Int.mul_comm ((k : Int) + 1) k, Int.mul_comm ((k : Int) + 1) 2]
      rw [e]
      clear e
      generalize (k : Int) * ((k : Int) + 1) = z at h1 ⊢
      rcases opp_step h (k := k) (by omega) with ⟨a, b⟩ | ⟨a, b⟩
      · rw [majP_yes a, majP_no b]; omega
      · rw [majP_no a, majP_yes b]; omega
  have := key (xs.length - 1) (Nat.le_refl _)
  have e1 : majP xs (xs.length - 1) = major xs := rfl
  have e2 : majP (opp xs) (xs.length - 1) = major (opp xs) := by rw [major, desc, opp_len]; rfl
  rw [e1, e2] at this
  rw [this]
  rcases Nat.eq_zero_or_pos xs.length with hz | hz
  · rw [hz]; rfl
  · have e3 : ((xs.length - 1 : Nat) : Int) = (xs.length : Int) - 1 := by omega
    rw [e3, Int.sub_add_cancel, Int.mul_comm]

end Go.Proofs.Ytjphaphnmclbcaa

/- More of the laws' own small functions: a number in a list, ascending lists, products. Condition: the lists' cells can be read. -/
namespace Go.Proofs.Ytjphaphnmclbcaa
open Go.RowKit

def Asc (xs : List Int) : Prop := ∀ i, i < xs.length → 0 < i → el xs (i - 1) < el xs i
instance (xs : List Int) : Decidable (Asc xs) := inferInstanceAs (Decidable (∀ i, i < xs.length → 0 < i → el xs (i - 1) < el xs i))

theorem mem_dsP (xs : List Int) (i : Nat) : ∀ k, ((i : Int) ∈ dsP xs k) ↔ (i < k ∧ el xs (i + 1) < el xs i) := by
  intro k
  induction k with
  | zero => simp [dsP]
  | succ k ih =>
    by_cases e : el xs (k + 1) < el xs k
    · rw [dsP_yes e, List.mem_append, ih, List.mem_singleton]
      constructor
      · rintro (⟨a, b⟩ | a)
        · exact ⟨by omega, b⟩
        · obtain rfl : i = k := by omega
          exact ⟨by omega, e⟩
      · rintro ⟨a, b⟩
        by_cases ei : i = k
        · right; omega
        · left; exact ⟨by omega, b⟩
    · rw [dsP_no (by omega), ih]
      constructor
      · rintro ⟨a, b⟩; exact ⟨by omega, b⟩
      · rintro ⟨a, b⟩
        refine ⟨?_, b⟩
        rcases Nat.lt_or_ge i k with h | h
        · exact h
        · obtain rfl : i = k := by omega
          exact absurd b e
theorem mem_desc {xs : List Int} {i : Nat} (h : i + 1 < xs.length) : ((i : Int) ∈ desc xs) ↔ el xs (i + 1) < el xs i := by
  rw [desc, mem_dsP]
  constructor
  · exact fun a => a.2
  · exact fun a => ⟨by omega, a⟩

theorem opp_fall {xs : List Int} (hv : Valid xs) {i : Nat} (h : i + 1 < xs.length) : (decide ((i : Int) ∈ desc xs) == decide ((i : Int) ∈ desc (opp xs))) = false := by
  have h1 := mem_desc h
  have h2 := mem_desc (xs := opp xs) (i := i) (by rw [opp_len]; exact h)
  rw [decide_eq_decide.2 h1, decide_eq_decide.2 h2]
  rcases opp_step hv h with ⟨a, b⟩ | ⟨a, b⟩
  · rw [decide_eq_true a, decide_eq_false (by omega)]; rfl
  · rw [decide_eq_false (by omega), decide_eq_true b]; rfl

theorem opp_opp {xs : List Int} : opp (opp xs) = xs := by
  refine ext_el (by rw [opp_len, opp_len]) (fun j hj => ?_)
  rw [opp_len, opp_len] at hj
  rw [el_opp (by rw [opp_len]; exact hj), el_opp hj, opp_len]
  omega

end Go.Proofs.Ytjphaphnmclbcaa

/- Turned orders: they are orders, and they fall where the order rises, from the other end; descents ascend. No condition. -/
namespace Go.Proofs.Ytjphaphnmclbcaa

theorem turn_len (xs : List Int) : (turn xs).length = xs.length := map_range_len _
theorem el_turn {xs : List Int} {j : Nat} (h : j < xs.length) : el (turn xs) j = el xs (xs.length - 1 - j) := el_map h
theorem turn_valid {xs : List Int} (h : Valid xs) : Valid (turn xs) := by
  refine ⟨by rw [turn_len]; exact h.len, fun j hj => ?_, fun j hj => ?_, fun i j hij hj => ?_⟩
  · rw [turn_len] at hj
    rw [el_turn hj]
    exact h.lo _ (by omega)
  · rw [turn_len] at hj ⊢
    rw [el_turn hj]
    exact h.hi _ (by omega)
  · rw [turn_len] at hj
    rw [el_turn hj, el_turn (by omega)]
    exact fun e => h.ne (xs.length - 1 - j) (xs.length - 1 - i) (by omega) (by omega) e.symm
theorem turn_turn {xs : List Int} : turn (turn xs) = xs := by
  refine ext_el (by rw [turn_len, turn_len]) (fun j hj => ?_)
  rw [turn_len, turn_len] at hj
  rw [el_turn (by rw [turn_len]; exact hj), turn_len, el_turn (by omega)]
  congr 1
  omega

theorem turn_fall {xs : List Int} (hv : Valid xs) {i : Nat} (h : i + 1 < xs.length) : (decide ((i : Int) ∈ desc xs) == decide (((xs.length : Int) - 2 - i) ∈ desc (turn xs))) = false := by
  have h1 := mem_desc h
  have e : (xs.length : Int) - 2 - i = ((xs.length - 2 - i : Nat) : Int) := by omega
  have h2 := mem_desc (xs := turn xs) (i := xs.length - 2 - i) (by rw [turn_len]; omega)
  rw [el_turn (by omega), el_turn (by omega), show xs.length - 1 - (xs.length - 2 - i + 1) = i by omega, show xs.length - 1 - (xs.length - 2 - i) = i + 1 by omega] at h2
  rw [e, decide_eq_decide.2 h1, decide_eq_decide.2 h2]
  have hne := hv.ne i (i + 1) (by omega) h
  rcases Int.lt_or_le (el xs (i + 1)) (el xs i) with a | a
  · rw [decide_eq_true a, decide_eq_false (by omega)]; rfl
  · rw [decide_eq_false (by omega), decide_eq_true (by omega)]; rfl

theorem el_app_lt {a : List Int} {x : Int} {j : Nat} (h : j < a.length) : el (a ++ [x]) j = el a j := by simp [el, List.getElem?_append_left h]
theorem el_app_eq {a : List Int} {x : Int} : el (a ++ [x]) a.length = x := by simp [el]

theorem asc_dsP (xs : List Int) : ∀ k, Asc (dsP xs k) := by
  intro k
  induction k with
  | zero => intro i hi _; simp [dsP] at hi
  | succ k ih =>
    rw [dsP]
    split
    · intro i hi h0
      rw [List.length_append, List.length_singleton] at hi
      by_cases e : i = (dsP xs k).length
      · rw [el_app_lt (by omega), e, el_app_eq]
        have := dsP_mem xs k _ (el_mem (xs := dsP xs k) (j := (dsP xs k).length - 1) (by omega))
        exact this.2
      · rw [el_app_lt (by omega), el_app_lt (by omega)]
        exact ih i (by omega) h0
    · exact ih
theorem asc_desc (xs : List Int) : Asc (desc xs) := asc_dsP xs _

end Go.Proofs.Ytjphaphnmclbcaa

/- Sums of numbers. No condition. -/
namespace Go.Proofs.Ytjphaphnmclbcaa

/-- The sum of the first k numbers g. -/
def S (g : Nat → Int) : Nat → Int
  | 0 => 0
  | k + 1 => S g k + g k
theorem S_congr {g h : Nat → Int} : ∀ k, (∀ j, j < k → g j = h j) → S g k = S h k := by
  intro k
  induction k with
  | zero => intro _; rfl
  | succ k ih => intro e; rw [S, S, ih (fun j hj => e j (by omega)), e k (by omega)]
theorem S_add (g h : Nat → Int) : ∀ k, S (fun i => g i + h i) k = S g k + S h k := by
  intro k
  induction k with
  | zero => rfl
  | succ k ih => rw [S, S, S, ih]; omega
theorem S_front (g : Nat → Int) : ∀ m, S g (m + 1) = g 0 + S (fun t => g (t + 1)) m := by
  intro m
  induction m with
  | zero => simp [S]
  | succ m ih => rw [S, ih, S]; omega
theorem S_rev (g : Nat → Int) : ∀ m, S g m = S (fun t => g (m - 1 - t)) m := by
  intro m
  induction m with
  | zero => rfl
  | succ m ih =>
    have e1 : S (fun t => g (m + 1 - 1 - t)) (m + 1) = g (m + 1 - 1 - 0) + S (fun t => g (m + 1 - 1 - (t + 1))) m := S_front _ m
    have e2 : S (fun t => g (m - 1 - t)) m = S (fun t => g (m + 1 - 1 - (t + 1))) m := S_congr m (fun j _ => by congr 1; omega)
    rw [e1, ← e2, S, ih, show m + 1 - 1 - 0 = m by omega]
    omega
def ind (p : Nat → Bool) (j : Nat) : Int := if p j then 1 else 0
theorem cntP_S (p : Nat → Bool) : ∀ k, cntP p k = S (ind p) k := by
  intro k
  induction k with
  | zero => rfl
  | succ k ih =>
    rw [cntP, S, ih, ind]
    split <;> omega
theorem cntP_rev (p : Nat → Bool) (m : Nat) : cntP p m = cntP (fun t => p (m - 1 - t)) m := by
  rw [cntP_S, cntP_S, S_rev]
  rfl
theorem sumTo_S (xs : List Int) : ∀ k, sumTo xs k = S (el xs) k := by
  intro k
  induction k with
  | zero => rfl
  | succ k ih => rw [sumTo, S, ih]
theorem table_S (xs : List Int) : sumL (table xs) = S (lb xs) xs.length := by
  rw [sumL, sumTo_S, table_len]
  exact S_congr _ (fun j hj => el_table hj)

end Go.Proofs.Ytjphaphnmclbcaa

/- Inversions of an order and of the order turned are all pairs; of a rising order alone there are none. No condition. -/
namespace Go.Proofs.Ytjphaphnmclbcaa

/-- How many lesser numbers stand ahead of place i; how many greater ones. -/
def la (xs : List Int) (i : Nat) : Int := cntP (fun t => decide (el xs t < el xs i)) i
def ga (xs : List Int) (i : Nat) : Int := cntP (fun t => decide (el xs i < el xs t)) i

theorem rows_cols (xs : List Int) : ∀ k, S (fun i => lbP xs i (k - 1 - i)) k = S (ga xs) k := by
  intro k
  induction k with
  | zero => rfl
  | succ k ih =>
    rw [S, S, ← ih]
    have h0 : lbP xs k (k + 1 - 1 - k) = 0 := by rw [show k + 1 - 1 - k = 0 by omega]; rfl
    have h1 : S (fun i => lbP xs i (k + 1 - 1 - i)) k = S (fun i => lbP xs i (k - 1 - i) + ind (fun t => decide (el xs k < el xs t)) i) k := by
      refine S_congr k (fun j hj => ?_)
      obtain ⟨m, hm⟩ : ∃ m, k - 1 - j = m := ⟨_, rfl⟩
      rw [show k + 1 - 1 - j = m + 1 by omega, hm, ind]
      have hk : j + 1 + m = k := by omega
      by_cases e : el xs k < el xs j
      · rw [lbP_yes (by rw [hk]; exact e)]; simp [e]
      · rw [lbP_no (by rw [hk]; omega)]; simp [e]
    rw [h0, h1, S_add, ga, cntP_S]
    omega

theorem invs_ga (xs : List Int) : sumL (table xs) = S (ga xs) xs.length := by
  rw [table_S, ← rows_cols]
  rfl

theorem invs_turn (xs : List Int) : sumL (table (turn xs)) = S (la xs) xs.length := by
  rw [table_S, turn_len, S_rev (la xs)]
  refine S_congr _ (fun i hi => ?_)
  have e1 : el (turn xs) i = el xs (xs.length - 1 - i) := el_turn hi
  have e3 : lb (turn xs) i = cntP (fun j => decide (el (turn xs) (i + 1 + j) < el (turn xs) i)) (xs.length - 1 - i) := by rw [lb, turn_len]; rfl
  rw [e3, la, cntP_rev, cntP_S, cntP_S]
  refine S_congr _ (fun t ht => ?_)
  have e2 : el (turn xs) (i + 1 + (xs.length - 1 - i - 1 - t)) = el xs t := by
    rw [el_turn (by omega)]; congr 1; omega
  show ind _ t = ind _ t
  unfold ind
  simp only [e2, e1]

theorem la_ga {xs : List Int} (h : Valid xs) {i : Nat} (hi : i < xs.length) : la xs i + ga xs i = i := by
  have key : ∀ k, k ≤ i → cntP (fun t => decide (el xs t < el xs i)) k + cntP (fun t => decide (el xs i < el xs t)) k = k := by
    intro k
    induction k with
    | zero => intro _; rfl
    | succ k ih =>
      intro hk
      have h1 := ih (by omega)
      have hne := h.ne k i (by omega) hi
      rcases Int.lt_or_le (el xs k) (el xs i) with a | a
      · rw [cntP_yes (by simpa using a), cntP_no (by simp; omega)]; omega
      · rw [cntP_no (by simp; omega), cntP_yes (by simp; omega)]; omega
  exact key i (Nat.le_refl _)

theorem turn_pairs {xs : List Int} (h : Valid xs) : 2 * (sumL (table (turn xs)) + sumL (table xs)) = (xs.length : Int) * ((xs.length : Int) - 1) := by
  rw [invs_turn, invs_ga]
  have key : ∀ k, k ≤ xs.length → 2 * (S (la xs) k + S (ga xs) k) = (k : Int) * ((k : Int) - 1) := by
    intro k
    induction k with
    | zero => intro _; rfl
    | succ k ih =>
      intro hk
      have h1 := ih (by omega)
      have h2 := la_ga h (i := k) (by omega)
      rw [S, S]
      have e : ((k + 1 : Nat) : Int) * (((k + 1 : Nat) : Int) - 1) = (k : Int) * ((k : Int) - 1) + 2 * k := by
        have e1 : ((k + 1 : Nat) : Int) = (k : Int) + 1 := by omega
        rw [e1, show (k : Int) + 1 - 1 = k by omega, Int.mul_sub, Int.add_mul]
        omega
      rw [e]
      clear e
      generalize (k : Int) * ((k : Int) - 1) = z at h1 ⊢
      omega
  exact key xs.length (Nat.le_refl _)

theorem S_nn {g : Nat → Int} : ∀ k, (∀ j, j < k → 0 ≤ g j) → 0 ≤ S g k := by
  intro k
  induction k with
  | zero => intro _; exact Int.le_refl _
  | succ k ih => intro h; rw [S]; have := ih (fun j hj => h j (by omega)); have := h k (by omega); omega
theorem S_zero {g : Nat → Int} : ∀ k, (∀ j, j < k → 0 ≤ g j) → S g k = 0 → ∀ j, j < k → g j = 0 := by
  intro k
  induction k with
  | zero => intro _ _ j hj; omega
  | succ k ih =>
    intro h e j hj
    rw [S] at e
    have h1 := S_nn k (fun j hj => h j (by omega))
    have h2 := h k (by omega)
    by_cases ej : j = k
    · rw [ej]; omega
    · exact ih (fun j hj => h j (by omega)) (by omega) j (by omega)

/-- No inversions: the order rises. -/
theorem rises {xs : List Int} (h : Valid xs) (h0 : sumL (table xs) = 0) : xs = rise xs.length := by
  rw [invs_ga] at h0
  have hz := S_zero xs.length (fun j _ => (cntP_bd _ _).1) h0
  have hup : ∀ i j, i < j → j < xs.length → el xs i < el xs j := by
    intro i j hij hj
    have h1 : ga xs j = 0 := hz j hj
    rw [ga, cntP_S] at h1
    have h2 := S_zero j (fun t _ => by rw [ind]; split <;> omega) h1 i hij
    rw [ind] at h2
    have h3 : ¬ el xs j < el xs i := by
      intro a
      rw [if_pos (by simpa using a)] at h2
      omega
    have := h.ne i j hij hj
    omega
  have lo : ∀ i : Nat, i < xs.length → (i : Int) ≤ el xs i := by
    intro i
    induction i with
    | zero => intro hi; exact h.lo 0 hi
    | succ i ih => intro hi; have := ih (by omega); have := hup i (i + 1) (by omega) hi; omega
  have hi' : ∀ k : Nat, k < xs.length → el xs (xs.length - 1 - k) ≤ (xs.length : Int) - 1 - k := by
    intro k
    induction k with
    | zero => intro hk; have := h.hi (xs.length - 1 - 0) (by omega); omega
    | succ k ih => intro hk; have := ih (by omega); have := hup (xs.length - 1 - (k + 1)) (xs.length - 1 - k) (by omega) (by omega); omega
  refine ext_el (by rw [rise_len]) (fun j hj => ?_)
  rw [rise, el_map hj]
  have a := lo j hj
  have b := hi' (xs.length - 1 - j) (by omega)
  rw [show xs.length - 1 - (xs.length - 1 - j) = j by omega] at b
  omega

end Go.Proofs.Ytjphaphnmclbcaa

/- Denert's number, as the program and as the model reckon it. No condition. -/
namespace Go.Proofs.Ytjphaphnmclbcaa

theorem cntP_congr {p q : Nat → Bool} : ∀ k, (∀ j, j < k → p j = q j) → cntP p k = cntP q k := by
  intro k
  induction k with
  | zero => intro _; rfl
  | succ k ih => intro h; rw [cntP, cntP, ih (fun j hj => h j (by omega)), h k (by omega)]

/-- The values at places above, and at all other places, among the first k places. -/
def uvP (xs : List Int) : Nat → List Int
  | 0 => []
  | k + 1 => if (k : Int) < el xs k then uvP xs k ++ [el xs k] else uvP xs k
def dvP (xs : List Int) : Nat → List Int
  | 0 => []
  | k + 1 => if (k : Int) < el xs k then dvP xs k else dvP xs k ++ [el xs k]
/-- The sum of the places above, each with 1 more. -/
def duP (xs : List Int) : Nat → Int
  | 0 => 0
  | k + 1 => if (k : Int) < el xs k then duP xs k + k + 1 else duP xs k
theorem uvP_yes {xs : List Int} {k : Nat} (h : (k : Int) < el xs k) : uvP xs (k + 1) = uvP xs k ++ [el xs k] := by rw [uvP, if_pos h]
theorem uvP_no {xs : List Int} {k : Nat} (h : el xs k ≤ (k : Int)) : uvP xs (k + 1) = uvP xs k := by rw [uvP, if_neg (by omega)]
theorem dvP_yes {xs : List Int} {k : Nat} (h : (k : Int) < el xs k) : dvP xs (k + 1) = dvP xs k := by rw [dvP, if_pos h]
theorem dvP_no {xs : List Int} {k : Nat} (h : el xs k ≤ (k : Int)) : dvP xs (k + 1) = dvP xs k ++ [el xs k] := by rw [dvP, if_neg (by omega)]
theorem duP_yes {xs : List Int} {k : Nat} (h : (k : Int) < el xs k) : duP xs (k + 1) = duP xs k + k + 1 := by rw [duP, if_pos h]
theorem duP_no {xs : List Int} {k : Nat} (h : el xs k ≤ (k : Int)) : duP xs (k + 1) = duP xs k := by rw [duP, if_neg (by omega)]
theorem uvP_len (xs : List Int) (k : Nat) : (uvP xs k).length ≤ k := by
  induction k with
  | zero => simp [uvP]
  | succ k ih =>
    rw [uvP]
    split
    · rw [List.length_append, List.length_singleton]; omega
    · omega
theorem dvP_len (xs : List Int) (k : Nat) : (dvP xs k).length ≤ k := by
  induction k with
  | zero => simp [dvP]
  | succ k ih =>
    rw [dvP]
    split
    · omega
    · rw [List.length_append, List.length_singleton]; omega
theorem duP_bd (xs : List Int) (k : Nat) : 0 ≤ duP xs k ∧ duP xs k ≤ k * k := by
  induction k with
  | zero => simp [duP]
  | succ k ih =>
    have e : ((k + 1 : Nat) : Int) * (k + 1 : Nat) = k * k + k + k + 1 := by rw [Int.natCast_add, Int.add_mul, Int.mul_add]; simp; omega
    rw [duP, e]
    split <;> omega

/-- How many numbers of a list are greater than v. -/
def gr (ys : List Int) (v : Int) : Int := cntP (fun t => decide (v < el ys t)) ys.length
theorem gr_app (ys : List Int) (x v : Int) : gr (ys ++ [x]) v = gr ys v + if v < x then 1 else 0 := by
  rw [gr, List.length_append, List.length_singleton, cntP, el_app_eq, gr]
  have e : cntP (fun t => decide (v < el (ys ++ [x]) t)) ys.length = cntP (fun t => decide (v < el ys t)) ys.length := cntP_congr _ (fun j hj => by rw [el_app_lt hj])
  rw [e]
  by_cases h : v < x
  · simp [h]
  · simp [h]
theorem invs_app (ys : List Int) (v : Int) : sumL (table (ys ++ [v])) = sumL (table ys) + gr ys v := by
  rw [invs_ga, invs_ga, List.length_append, List.length_singleton, S]
  have e1 : S (ga (ys ++ [v])) ys.length = S (ga ys) ys.length := by
    refine S_congr _ (fun i hi => ?_)
    rw [ga, ga]
    exact cntP_congr _ (fun j hj => by rw [el_app_lt hi, el_app_lt (by omega)])
  have e2 : ga (ys ++ [v]) ys.length = gr ys v := by
    rw [ga, gr]
    exact cntP_congr _ (fun j hj => by rw [el_app_eq, el_app_lt hj])
  rw [e1, e2]
theorem gr_uv (xs : List Int) (v : Int) : ∀ k, gr (uvP xs k) v = cntP (fun i => decide ((i : Int) < el xs i) && decide (v < el xs i)) k := by
  intro k
  induction k with
  | zero => rfl
  | succ k ih =>
    by_cases a : (k : Int) < el xs k
    · rw [uvP_yes a, gr_app, ih]
      by_cases b : v < el xs k
      · rw [cntP_yes (by simp [a, b]), if_pos b]
      · rw [cntP_no (by simp [b]), if_neg b]; omega
    · rw [uvP_no (by omega), ih, cntP_no (by simp [a])]
theorem gr_dv (xs : List Int) (v : Int) : ∀ k, gr (dvP xs k) v = cntP (fun i => !decide ((i : Int) < el xs i) && decide (v < el xs i)) k := by
  intro k
  induction k with
  | zero => rfl
  | succ k ih =>
    by_cases a : (k : Int) < el xs k
    · rw [dvP_yes a, ih, cntP_no (by simp [a])]
    · rw [dvP_no (by omega), gr_app, ih]
      by_cases b : v < el xs k
      · rw [cntP_yes (by simp [a, b]), if_pos b]
      · rw [cntP_no (by simp [b]), if_neg b]; omega
theorem den_pairs (xs : List Int) : ∀ k, sumL (table (uvP xs k)) + sumL (table (dvP xs k)) = prP denF xs k := by
  intro k
  induction k with
  | zero => rfl
  | succ k ih =>
    rw [prP, inP, ← ih]
    by_cases a : (k : Int) < el xs k
    · rw [uvP_yes a, dvP_yes a, invs_app, gr_uv]
      have e : cntP (fun i => decide ((i : Int) < el xs i) && decide (el xs k < el xs i)) k = cntP (fun i => denF i (el xs i) k (el xs k)) k := cntP_congr _ (fun j _ => by
        by_cases b : (j : Int) < el xs j <;> simp [denF, a, b])
      rw [e]; omega
    · rw [uvP_no (by omega), dvP_no (by omega), invs_app, gr_dv]
      have e : cntP (fun i => !decide ((i : Int) < el xs i) && decide (el xs k < el xs i)) k = cntP (fun i => denF i (el xs i) k (el xs k)) k := cntP_congr _ (fun j _ => by
        by_cases b : (j : Int) < el xs j <;> simp [denF, a, b])
      rw [e]; omega
def den (xs : List Int) : Int := pairs denF xs + duP xs xs.length
theorem den_eq (xs : List Int) : duP xs xs.length + sumL (table (uvP xs xs.length)) + sumL (table (dvP xs xs.length)) = den xs := by
  have := den_pairs xs xs.length
  rw [den, pairs]; omega
theorem du_above (xs : List Int) : ∀ k, sumL (plP upF xs k) + (plP upF xs k).length = duP xs k := by
  intro k
  induction k with
  | zero => rfl
  | succ k ih =>
    by_cases a : (k : Int) < el xs k
    · rw [plP_yes (by simp [upF, a]), duP_yes a, sumL_app, List.length_append, List.length_singleton]; omega
    · rw [plP_no (by simp [upF, a]), duP_no (by omega), ih]
theorem den_above (xs : List Int) : ((above xs).length : Int) ≤ den xs := by
  have h1 := du_above xs xs.length
  have h2 := (prP_bd denF xs xs.length).1
  have h3 : 0 ≤ sumL (plP upF xs xs.length) := by
    have : ∀ k, 0 ≤ sumL (plP upF xs k) := by
      intro k
      induction k with
      | zero => exact Int.le_refl _
      | succ k ih =>
        rw [plP]
        split
        · rw [sumL_app]; omega
        · exact ih
    exact this _
  rw [den, pairs, above]; omega

theorem du_zero (xs : List Int) : ∀ k, duP xs k ≤ 0 → ∀ j, j < k → el xs j ≤ j := by
  intro k
  induction k with
  | zero => intro _ j hj; omega
  | succ k ih =>
    intro h j hj
    have h1 := (duP_bd xs k).1
    by_cases a : (k : Int) < el xs k
    · rw [duP_yes a] at h; omega
    · rw [duP_no (by omega)] at h
      by_cases e : j = k
      · subst e; omega
      · exact ih h j (by omega)
theorem below_rise {xs : List Int} (h : Valid xs) (hb : ∀ j, j < xs.length → el xs j ≤ j) : xs = rise xs.length := by
  refine ext_el (by rw [rise_len]) (fun j hj => ?_)
  rw [rise, el_map hj]
  have key : ∀ m j, j < m → j < xs.length → el xs j = j := by
    intro m
    induction m with
    | zero => intro j hj; omega
    | succ m ih =>
      intro j hj hl
      by_cases e : j = m
      · have h1 := hb j hl
        have h2 := h.lo j hl
        rcases Int.lt_or_le (el xs j) j with a | a
        · have h3 := ih (el xs j).toNat (by omega) (by omega)
          have h4 := h.ne (el xs j).toNat j (by omega) hl
          omega
        · omega
      · exact ih j (by omega) hl
  exact key (j + 1) j (by omega) hj
theorem rise_den : ∀ n : Nat, n ≤ 7 → den (rise n) = 0 := by decide +kernel
theorem den_zero {xs : List Int} (h : Valid xs) : den xs = 0 ↔ xs = rise xs.length := by
  constructor
  · intro e
    have h1 := (prP_bd denF xs xs.length).1
    rw [den, pairs] at e
    exact below_rise h (du_zero xs xs.length (by omega))
  · intro e
    rw [e]
    exact rise_den _ h.len

end Go.Proofs.Ytjphaphnmclbcaa

/- Rows of numbers: products of polynomials, and rows that are made from them. No condition. -/
namespace Go.Proofs.Ytjphaphnmclbcaa

/-- All numbers lie between 0 and M. -/
def Bd (zs : List Int) (M : Int) : Prop := ∀ j, 0 ≤ el zs j ∧ el zs j ≤ M
theorem el_over {zs : List Int} {j : Nat} (h : zs.length ≤ j) : el zs j = 0 := by simp [el, List.getD, h]
theorem Bd.of {zs : List Int} {M : Int} (hM : 0 ≤ M) (h : zs.all (fun x => decide (0 ≤ x) && decide (x ≤ M)) = true) : Bd zs M := fun j => by
  by_cases hj : j < zs.length
  · have := List.all_eq_true.1 h _ (el_mem hj)
    simpa using this
  · rw [el_over (by omega)]; omega
theorem Bd.zero (n : Nat) : Bd (List.replicate n 0) 0 := fun j => by
  have : el (List.replicate n 0) j = 0 := by
    by_cases hj : j < n
    · simp [el, hj]
    · exact el_over (by simp; omega)
  omega
theorem Bd.mono {zs : List Int} {M N : Int} (h : Bd zs M) (hN : M ≤ N) : Bd zs N := fun j => ⟨(h j).1, Int.le_trans (h j).2 hN⟩

/-- One number is added at place j. -/
def addAt (zs : List Int) (j : Nat) (v : Int) : List Int := zs.set j (el zs j + v)
theorem addAt_len (zs : List Int) (j : Nat) (v : Int) : (addAt zs j v).length = zs.length := List.length_set
theorem Bd.add {zs : List Int} {M c v : Int} (h : Bd zs M) (j : Nat) (h0 : 0 ≤ v) (h1 : v ≤ c) : Bd (addAt zs j v) (M + c) := fun i => by
  have hi := h i
  by_cases e : j = i
  · subst e
    by_cases hl : j < zs.length
    · rw [addAt, el_set_same hl]; omega
    · rw [addAt, List.set_eq_of_length_le (by omega)]; omega
  · rw [addAt, el_set_ne e]; omega

/-- The first t products of row i are added; the products of the first i rows. -/
def muR (a b : List Int) (i : Nat) (zs : List Int) : Nat → List Int
  | 0 => zs
  | t + 1 => addAt (muR a b i zs t) (i + t) (el a i * el b t)
def muP (a b : List Int) : Nat → List Int
  | 0 => List.replicate (a.length + b.length - 1) 0
  | i + 1 => muR a b i (muP a b i) b.length
def mul (a b : List Int) : List Int := muP a b a.length
theorem muR_len (a b : List Int) (i : Nat) (zs : List Int) (t : Nat) : (muR a b i zs t).length = zs.length := by
  induction t with
  | zero => rfl
  | succ t ih => rw [muR, addAt_len, ih]
theorem muP_len (a b : List Int) (i : Nat) : (muP a b i).length = a.length + b.length - 1 := by
  induction i with
  | zero => simp [muP]
  | succ i ih => rw [muP, muR_len, ih]
theorem mul_len (a b : List Int) : (mul a b).length = a.length + b.length - 1 := muP_len _ _ _
theorem prod_bd {x y A B : Int} (hx : 0 ≤ x ∧ x ≤ A) (hy : 0 ≤ y ∧ y ≤ B) : 0 ≤ x * y ∧ x * y ≤ A * B :=
  ⟨Int.mul_nonneg hx.1 hy.1, Int.mul_le_mul hx.2 hy.2 hy.1 (by omega)⟩
theorem muR_bd {a b zs : List Int} {M : Int} (ha : Bd a 10000) (hb : Bd b 10) (i : Nat) (h : Bd zs M) : ∀ t, Bd (muR a b i zs t) (M + t * 100000) := by
  intro t
  induction t with
  | zero => simpa [muR] using h
  | succ t ih =>
    have hp := prod_bd (ha i) (hb t)
    have := ih.add (i + t) hp.1 hp.2
    rw [muR]
    refine this.mono ?_
    omega
theorem muP_bd {a b : List Int} (ha : Bd a 10000) (hb : Bd b 10) (h10 : b.length ≤ 10) : ∀ i, Bd (muP a b i) (i * 1000000) := by
  intro i
  induction i with
  | zero => simpa [muP] using Bd.zero _
  | succ i ih =>
    rw [muP]
    refine (muR_bd ha hb i ih b.length).mono ?_
    omega

/-- The product of x, x + 1, .., x + n - 1. -/
def cir : Nat → List Int
  | 0 => [1]
  | n + 1 => mul (cir n) [(n : Int), 1]
theorem cir_fits : ∀ n : Nat, n < 8 → (cir n).all (fun x => decide (0 ≤ x) && decide (x ≤ 10000)) = true ∧ (cir n).length = n + 1 := by decide
theorem cir_bd {n : Nat} (h : n ≤ 7) : Bd (cir n) 10000 := Bd.of (by omega) (cir_fits n (by omega)).1
theorem cir_len {n : Nat} (h : n ≤ 7) : (cir n).length = n + 1 := (cir_fits n (by omega)).2
theorem two_bd {n : Nat} (h : n ≤ 7) : Bd [(n : Int), 1] 10 := Bd.of (by omega) (by simp; omega)

/-- Rows of ones, and their product. -/
def onesL (k : Nat) : List Int := List.replicate k 1
def prw : Nat → List Int
  | 0 => [1]
  | n + 1 => mul (prw n) (onesL (n + 1))
theorem prw_fits : ∀ n : Nat, n < 8 → (prw n).all (fun x => decide (0 ≤ x) && decide (x ≤ 10000)) = true ∧ (prw n).length ≤ 22 ∧ 0 < (prw n).length := by decide
theorem prw_bd {n : Nat} (h : n ≤ 7) : Bd (prw n) 10000 := Bd.of (by omega) (prw_fits n (by omega)).1
theorem onesL_bd (k : Nat) : Bd (onesL k) 10 := Bd.of (by omega) (by simp [onesL])
theorem prw_one : prw 1 = [1] := by decide

/-- How many orders have each number of descents: the first t numbers of a row are given on. -/
def euR (row : List Int) (m : Nat) : Nat → List Int
  | 0 => List.replicate m 0
  | t + 1 => addAt (addAt (euR row m t) t (el row t * ((t : Int) + 1))) (t + 1) (el row t * ((m : Int) - t - 1))
/-- The row of n + 1 values. -/
def eu : Nat → List Int
  | 0 => [1]
  | n + 1 => euR (eu n) (n + 2) (n + 1)
theorem euR_len (row : List Int) (m t : Nat) : (euR row m t).length = m := by
  induction t with
  | zero => simp [euR]
  | succ t ih => rw [euR, addAt_len, addAt_len, ih]
theorem eu_len (n : Nat) : (eu n).length = n + 1 := by
  cases n with
  | zero => rfl
  | succ n => rw [eu, euR_len]
theorem eu_fits : ∀ n : Nat, n < 7 → (eu n).all (fun x => decide (0 ≤ x) && decide (x ≤ 10000)) = true := by decide
theorem eu_bd {n : Nat} (h : n ≤ 6) : Bd (eu n) 10000 := Bd.of (by omega) (eu_fits n (by omega))
theorem euR_bd {row : List Int} {m : Nat} (hr : Bd row 10000) (hm : m ≤ 7) : ∀ t, t < m → Bd (euR row m t) (t * 200000) := by
  intro t
  induction t with
  | zero => intro _; simpa [euR] using Bd.zero _
  | succ t ih =>
    intro ht
    have h1 := prod_bd (hr t) (B := 10) (y := (t : Int) + 1) ⟨by omega, by omega⟩
    have h2 := prod_bd (hr t) (B := 10) (y := (m : Int) - t - 1) ⟨by omega, by omega⟩
    rw [euR]
    refine (((ih (by omega)).add t h1.1 h1.2).add (t + 1) h2.1 h2.2).mono ?_
    omega
/-- The row of n values. -/
def euler (n : Nat) : List Int := eu (n - 1)

end Go.Proofs.Ytjphaphnmclbcaa

