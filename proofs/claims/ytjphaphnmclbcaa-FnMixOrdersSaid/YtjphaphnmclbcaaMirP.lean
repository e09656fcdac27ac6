/- Products of rows of any signs as plain lists: both ways round they are one, their sum is the product of the sums, and they stay small. No condition. -/
import Derived.Test.YtjphaphnmclbcaaBnd
namespace Go.Proofs.Ytjphaphnmclbcaa

/-- All numbers lie between -M and M. -/
def Bs (zs : List Int) (M : Int) : Prop := ∀ j, -M ≤ el zs j ∧ el zs j ≤ M
/-- The numbers are the coefficients of a row: 1 to 30, none too great. -/
structure Co (a : List Int) : Prop where
  pos : 0 < a.length
  len : a.length ≤ 30
  bd : ∀ j, j < a.length → -1000000 ≤ el a j ∧ el a j ≤ 1000000
theorem co_iff (a : List Int) : Co a ↔ (0 < a.length ∧ a.length ≤ 30 ∧ ∀ j, j < a.length → -1000000 ≤ el a j ∧ el a j ≤ 1000000) :=
  ⟨fun h => ⟨h.pos, h.len, h.bd⟩, fun h => ⟨h.1, h.2.1, h.2.2⟩⟩
instance (a : List Int) : Decidable (Co a) := decidable_of_iff _ (co_iff a).symm
theorem Co.bs {a : List Int} (h : Co a) : Bs a 1000000 := fun j => by
  by_cases hj : j < a.length
  · exact h.bd j hj
  · rw [el_over (by omega)]; omega
def Co2 (a b : List Int) : Prop := Co a ∧ Co b
instance (a b : List Int) : Decidable (Co2 a b) := inferInstanceAs (Decidable (_ ∧ _))
def onCo (a b ys : List Int) : List Int := if Co2 a b then ys else []
theorem onCo_yes {a b ys : List Int} (h : Co2 a b) : onCo a b ys = ys := if_pos h
theorem onCo_no {a b ys : List Int} (h : ¬ Co2 a b) : onCo a b ys = [] := if_neg h

theorem Bs.add {zs : List Int} {M c v : Int} (h : Bs zs M) (j : Nat) (h0 : -c ≤ v) (h1 : v ≤ c) : Bs (addAt zs j v) (M + c) := fun i => by
  have hi := h i
  by_cases e : j = i
  · subst e
    by_cases hl : j < zs.length
    · rw [addAt, el_set_same hl]; omega
    · rw [addAt, List.set_eq_of_length_le (by omega)]; omega
  · rw [addAt, el_set_ne e]; omega
theorem Bs.mono {zs : List Int} {M N : Int} (h : Bs zs M) (hN : M ≤ N) : Bs zs N := fun j => ⟨by have := (h j).1; omega, Int.le_trans (h j).2 hN⟩
theorem prod_bs {x y : Int} (hx : -1000000 ≤ x ∧ x ≤ 1000000) (hy : -1000000 ≤ y ∧ y ≤ 1000000) : -1000000000000 ≤ x * y ∧ x * y ≤ 1000000000000 := by
  have h1 : 0 ≤ (1000000 - x) * (1000000 + y) := Int.mul_nonneg (by omega) (by omega)
  have h2 : 0 ≤ (1000000 + x) * (1000000 - y) := Int.mul_nonneg (by omega) (by omega)
  have h3 : 0 ≤ (1000000 - x) * (1000000 - y) := Int.mul_nonneg (by omega) (by omega)
  have h4 : 0 ≤ (1000000 + x) * (1000000 + y) := Int.mul_nonneg (by omega) (by omega)
  simp only [Int.sub_mul, Int.add_mul, Int.mul_sub, Int.mul_add] at h1 h2 h3 h4
  omega
theorem muR_bs {a b zs : List Int} {M : Int} (ha : Bs a 1000000) (hb : Bs b 1000000) (i : Nat) (h : Bs zs M) : ∀ t, Bs (muR a b i zs t) (M + t * 1000000000000) := by
  intro t
  induction t with
  | zero => simpa [muR] using h
  | succ t ih =>
    have hp := prod_bs (ha i) (hb t)
    have := ih.add (c := 1000000000000) (i + t) (by omega) hp.2
    rw [muR]
    refine this.mono ?_
    omega
theorem Bs.zero (n : Nat) : Bs (List.replicate n 0) 0 := fun j => by have := Bd.zero n j; omega
theorem muP_bs {a b : List Int} (ha : Bs a 1000000) (hb : Bs b 1000000) (h30 : b.length ≤ 30) : ∀ i, Bs (muP a b i) (i * 30000000000000) := by
  intro i
  induction i with
  | zero => simpa [muP] using Bs.zero _
  | succ i ih =>
    rw [muP]
    refine (muR_bs ha hb i ih b.length).mono ?_
    omega

/-- The numbers of a product: what falls on its place. -/
def cf (a b : List Int) (i j k : Nat) : Int := if i + j = k then el a i * el b j else 0
theorem el_addAt {zs : List Int} {j k : Nat} {v : Int} (hk : k < zs.length) : el (addAt zs j v) k = el zs k + if j = k then v else 0 := by
  by_cases e : j = k
  · subst e; rw [addAt, el_set_same hk, if_pos rfl]
  · rw [addAt, el_set_ne e, if_neg e]; omega
theorem el_muR (a b : List Int) (i : Nat) (zs : List Int) {k : Nat} (hk : k < zs.length) : ∀ t, el (muR a b i zs t) k = el zs k + S (fun j => cf a b i j k) t := by
  intro t
  induction t with
  | zero => simp [muR, S]
  | succ t ih => rw [muR, el_addAt (by rw [muR_len]; exact hk), ih, S, cf]; omega
theorem el_muP (a b : List Int) {k : Nat} (hk : k < a.length + b.length - 1) : ∀ i, el (muP a b i) k = S (fun i => S (fun j => cf a b i j k) b.length) i := by
  intro i
  induction i with
  | zero => simp [muP, S, el, hk]
  | succ i ih => rw [muP, el_muR a b i _ (by rw [muP_len]; exact hk), ih, S]
theorem cf_comm (a b : List Int) (i j k : Nat) : cf a b i j k = cf b a j i k := by
  rw [cf, cf, Int.mul_comm]
  by_cases e : i + j = k
  · rw [if_pos e, if_pos (by omega)]
  · rw [if_neg e, if_neg (by omega)]
/-- The product is the same both ways. -/
theorem mul_comm' (a b : List Int) : mul a b = mul b a := by
  refine ext_el (by rw [mul_len, mul_len]; omega) (fun k hk => ?_)
  rw [mul_len] at hk
  rw [mul, mul, el_muP a b hk, el_muP b a (by omega), S_swap2 (fun i j => cf a b i j k)]
  exact S_congr _ (fun j _ => S_congr _ (fun i _ => cf_comm a b i j k))
theorem S_mulr (g : Nat → Int) (c : Int) : ∀ n, S (fun i => g i * c) n = S g n * c := by
  intro n
  induction n with
  | zero => simp [S]
  | succ n ih => rw [S, S, ih, Int.add_mul]
theorem S_mull (g : Nat → Int) (c : Int) : ∀ n, S (fun i => c * g i) n = c * S g n := by
  intro n
  induction n with
  | zero => simp [S]
  | succ n ih => rw [S, S, ih, Int.mul_add]
theorem S_one (v : Int) (m : Nat) : ∀ n, m < n → S (fun k => if m = k then v else 0) n = v := by
  intro n hn
  have h1 : S (fun k => if m = k then v else 0) n = S (fun k => if m = k then v else 0) (m + 1) := by
    refine S_cut _ (m + 1) n (by omega) (fun j hj => if_neg (by omega))
  have h2 : ∀ k, k ≤ m → S (fun k => if m = k then v else 0) k = 0 := by
    intro k
    induction k with
    | zero => intro _; rfl
    | succ k ih => intro hk; rw [S, ih (by omega), if_neg (by omega)]; rfl
  rw [h1, S, h2 m (Nat.le_refl _), if_pos rfl]; omega
/-- Its sum is the product of both sums. -/
theorem sum_mul (a b : List Int) : sumL (mul a b) = sumL a * sumL b := by
  rw [sumL, sumTo_S, sumL, sumL, sumTo_S, sumTo_S, mul_len]
  have h1 : S (el (mul a b)) (a.length + b.length - 1) = S (fun k => S (fun i => S (fun j => cf a b i j k) b.length) a.length) (a.length + b.length - 1) :=
    S_congr _ (fun k hk => by rw [mul, el_muP a b hk])
  rw [h1, ← S_swap2 (fun i k => S (fun j => cf a b i j k) b.length), ← S_mulr]
  refine S_congr _ (fun i hi => ?_)
  rw [← S_swap2 (fun j k => cf a b i j k), ← S_mull]
  refine S_congr _ (fun j hj => ?_)
  exact S_one _ (i + j) _ (by omega)
theorem mul_one' {a : List Int} : mul [1] a = a := by
  refine ext_el (by rw [mul_len]; simp) (fun k hk => ?_)
  rw [mul_len] at hk
  have hk2 : k < a.length := by simp at hk; exact hk
  rw [mul, el_muP [1] a hk]
  have h0 : S (fun i => S (fun j => cf [1] a i j k) a.length) 1 = S (fun j => cf [1] a 0 j k) a.length := by rw [S, S]; omega
  rw [show ([1] : List Int).length = 1 from rfl, h0]
  have h1 : S (fun j => cf [1] a 0 j k) a.length = S (fun j => if k = j then el a k else 0) a.length := S_congr _ (fun j _ => by
    rw [cf]
    by_cases e : k = j
    · subst e; rw [if_pos (by omega), if_pos rfl]; simp [el]
    · rw [if_neg (by omega), if_neg e])
  rw [h1, S_one _ k _ hk2]
theorem sum_bs {a : List Int} {M : Int} (h : Bs a M) : ∀ k : Nat, -(k * M) ≤ sumTo a k ∧ sumTo a k ≤ k * M := by
  intro k
  induction k with
  | zero => simp [sumTo]
  | succ k ih =>
    have := h k
    have e : ((k + 1 : Nat) : Int) * M = k * M + M := by rw [Int.natCast_add, Int.add_mul]; simp
    rw [sumTo, e]
    omega

end Go.Proofs.Ytjphaphnmclbcaa
