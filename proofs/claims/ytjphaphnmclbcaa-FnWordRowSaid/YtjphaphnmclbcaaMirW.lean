/- Words as plain lists: which lists are words, their contents, and that the order of a word has the word's inversions and falls where the word does. No condition. -/
import Derived.Test.YtjphaphnmclbcaaBnh
import Derived.Test.YtjphaphnmclbcaaBnf
import Derived.Test.YtjphaphnmclbcaaFinPairsC
namespace Go.Proofs.Ytjphaphnmclbcaa

/-- The numbers are a word: at most seven, each of 0, 1, 2, 3. -/
structure VW (xs : List Int) : Prop where
  len : xs.length ≤ 7
  lo : ∀ j, j < xs.length → 0 ≤ el xs j
  hi : ∀ j, j < xs.length → el xs j ≤ 3
theorem vw_iff (xs : List Int) : VW xs ↔ (xs.length ≤ 7 ∧ (∀ j, j < xs.length → 0 ≤ el xs j) ∧ ∀ j, j < xs.length → el xs j ≤ 3) :=
  ⟨fun h => ⟨h.len, h.lo, h.hi⟩, fun h => ⟨h.1, h.2.1, h.2.2⟩⟩
instance (xs : List Int) : Decidable (VW xs) := decidable_of_iff _ (vw_iff xs).symm
def onW (xs ys : List Int) : List Int := if VW xs then ys else []
theorem onW_yes {xs ys : List Int} (h : VW xs) : onW xs ys = ys := if_pos h
theorem onW_no {xs ys : List Int} (h : ¬ VW xs) : onW xs ys = [] := if_neg h
def onWi (xs : List Int) (v d : Int) : Int := if VW xs then v else d
theorem onWi_yes {xs : List Int} {v d : Int} (h : VW xs) : onWi xs v d = v := if_pos h
theorem onWi_no {xs : List Int} {v d : Int} (h : ¬ VW xs) : onWi xs v d = d := if_neg h

/-- How often each letter comes among the first k. -/
def ctP (xs : List Int) : Nat → List Int
  | 0 => [0, 0, 0, 0]
  | k + 1 => addAt (ctP xs k) (el xs k).toNat 1
def cont (xs : List Int) : List Int := ctP xs xs.length
theorem ctP_len (xs : List Int) (k : Nat) : (ctP xs k).length = 4 := by
  induction k with
  | zero => rfl
  | succ k ih => rw [ctP, addAt_len, ih]
theorem ctP_bd (xs : List Int) (k : Nat) : Bd (ctP xs k) k := by
  induction k with
  | zero => exact Bd.of (zs := [0, 0, 0, 0]) (by omega) (by decide)
  | succ k ih =>
    rw [ctP]
    exact (ih.add (c := 1) (v := 1) _ (by omega) (by omega)).mono (by omega)

/-- The order of a word: at each place how many letters are less, or equal and ahead. -/
theorem rkA_len (zs : List Int) : (rkA zs).length = zs.length := map_range_len _
theorem el_rkA {zs : List Int} {i : Nat} (h : i < zs.length) : el (rkA zs) i = cntP (rkF zs i) zs.length := el_map h
theorem cntP_le {p q : Nat → Bool} (n : Nat) (h : ∀ j, j < n → p j = true → q j = true) : cntP p n ≤ cntP q n := by
  induction n with
  | zero => exact Int.le_refl _
  | succ n ih =>
    have h1 := ih (fun j hj => h j (by omega))
    have h2 := h n (by omega)
    rw [cntP, cntP]
    cases hp : p n with
    | false => cases hq : q n <;> simp <;> omega
    | true => rw [h2 hp]; simp; omega
theorem cntP_lt {p q : Nat → Bool} (n m : Nat) (hm : m < n) (hp : p m = false) (hq : q m = true) (h : ∀ j, j < n → p j = true → q j = true) : cntP p n < cntP q n := by
  induction n with
  | zero => omega
  | succ n ih =>
    rw [cntP, cntP]
    by_cases e : m = n
    · subst e
      have := cntP_le m (fun j hj => h j (by omega) : ∀ j, j < m → p j = true → q j = true)
      rw [hp, hq]; simp; omega
    · have h1 := ih (by omega) (fun j hj => h j (by omega))
      have h2 := h n (by omega)
      cases hpn : p n with
      | false => cases hqn : q n <;> simp <;> omega
      | true => rw [h2 hpn]; simp; omega
theorem rkF_iff {zs : List Int} {i k : Nat} : rkF zs i k = true ↔ el zs k < el zs i ∨ (el zs k = el zs i ∧ k < i) := by simp [rkF]
theorem rkF_self (zs : List Int) (i : Nat) : rkF zs i i = false := by
  cases h : rkF zs i i with
  | false => rfl
  | true => rw [rkF_iff] at h; omega
/-- What comes ahead in the order is less. -/
theorem rkA_lt {zs : List Int} {i k : Nat} (hi : i < zs.length) (hk : k < zs.length) (h : rkF zs i k = true) : el (rkA zs) k < el (rkA zs) i := by
  rw [el_rkA hi, el_rkA hk]
  refine cntP_lt _ k hk (rkF_self zs k) h (fun j _ hj => ?_)
  rw [rkF_iff] at h hj ⊢
  omega
/-- A greater letter ahead is a greater value ahead, and no greater one is a lesser value. -/
theorem rkA_step {zs : List Int} {i k : Nat} (hik : i < k) (hk : k < zs.length) : (el zs k < el zs i ∧ el (rkA zs) k < el (rkA zs) i) ∨ (el zs i ≤ el zs k ∧ el (rkA zs) i < el (rkA zs) k) := by
  by_cases h : el zs k < el zs i
  · exact Or.inl ⟨h, rkA_lt (by omega) hk (rkF_iff.2 (Or.inl h))⟩
  · exact Or.inr ⟨by omega, rkA_lt hk (by omega) (rkF_iff.2 (by omega))⟩
theorem rkA_gt {zs : List Int} {i k : Nat} (hik : i < k) (hk : k < zs.length) : el (rkA zs) k < el (rkA zs) i ↔ el zs k < el zs i := by
  have := rkA_step hik hk
  omega
theorem rkA_bd {zs : List Int} {i : Nat} (hi : i < zs.length) : 0 ≤ el (rkA zs) i ∧ el (rkA zs) i < zs.length := by
  rw [el_rkA hi]
  refine ⟨(cntP_bd _ _).1, ?_⟩
  have h1 : cntP (rkF zs i) zs.length < cntP (fun _ => true) zs.length := cntP_lt _ i hi (rkF_self zs i) rfl (fun _ _ _ => rfl)
  have h2 := (cntP_bd (fun _ => true) zs.length).2
  omega
theorem rkA_valid {zs : List Int} (h : zs.length ≤ 7) : Valid (rkA zs) := by
  refine ⟨by rw [rkA_len]; exact h, fun j hj => ?_, fun j hj => ?_, fun i j hij hj => ?_⟩
  · rw [rkA_len] at hj; exact (rkA_bd hj).1
  · rw [rkA_len] at hj ⊢; exact (rkA_bd hj).2
  · rw [rkA_len] at hj
    have := rkA_step hij hj
    omega
/-- The lists' tables are one. -/
theorem table_rkA (zs : List Int) : table (rkA zs) = table zs := by
  refine ext_el (by rw [table_len, table_len, rkA_len]) (fun j hj => ?_)
  rw [table_len, rkA_len] at hj
  rw [el_table (by rw [rkA_len]; exact hj), el_table hj, lb, lb, rkA_len]
  refine cntP_ext _ (fun t ht => ?_)
  have := rkA_gt (zs := zs) (i := j) (k := j + 1 + t) (by omega) (by omega)
  simp [this]
theorem dsP_rkA (zs : List Int) : ∀ k, k ≤ zs.length - 1 → dsP (rkA zs) k = dsP zs k := by
  intro k
  induction k with
  | zero => intro _; rfl
  | succ k ih =>
    intro hk
    have := rkA_gt (zs := zs) (i := k) (k := k + 1) (by omega) (by omega)
    rw [dsP, dsP, ih (by omega)]
    by_cases h : el zs (k + 1) < el zs k
    · rw [if_pos h, if_pos (this.2 h)]
    · rw [if_neg h, if_neg (fun e => h (this.1 e))]
theorem major_rkA (zs : List Int) : major (rkA zs) = major zs := by
  rw [major, major, desc, desc, rkA_len, dsP_rkA zs _ (Nat.le_refl _)]

/-- Pairs of letters of which the greater one stands ahead, counted by the one behind. -/
def gtF (_ u _ v : Int) : Bool := decide (v < u)
theorem pairs_gt (zs : List Int) : pairs gtF zs = sumL (table zs) := by
  rw [invs_ga, pairs, prP_S]
  refine S_congr _ (fun k _ => ?_)
  rw [ga, cntP_S]
  rfl
theorem major_majP (xs : List Int) : major xs = majP xs (xs.length - 1) := rfl
theorem majP_bd (xs : List Int) (k : Nat) : 0 ≤ majP xs k ∧ majP xs k ≤ k * k := by
  induction k with
  | zero => exact ⟨Int.le_refl _, Int.le_refl _⟩
  | succ k ih =>
    have e : ((k + 1 : Nat) : Int) * (k + 1 : Nat) = k * k + k + k + 1 := by rw [Int.natCast_add, Int.add_mul, Int.mul_add]; simp; omega
    by_cases h : el xs (k + 1) < el xs k
    · rw [majP_yes h]; omega
    · rw [majP_no (by omega)]; omega

end Go.Proofs.Ytjphaphnmclbcaa
