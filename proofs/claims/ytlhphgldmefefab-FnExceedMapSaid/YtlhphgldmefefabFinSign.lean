/- Inversions of an order are those of its inverse: sums over the values of an order. No condition. -/
import Derived.Test.YtlhphgldmefefabFinPairs
import Derived.Test.YtlhphgldmefefabFinInv
namespace Go.Proofs.Ytlhphgldmefefab

theorem S_const0 (n : Nat) : S (fun _ => 0) n = 0 := by
  induction n with
  | zero => rfl
  | succ n ih => rw [S, ih]; rfl

theorem S_swap (f : Nat → Nat → Int) (m : Nat) : ∀ n, S (fun a => S (fun b => f a b) m) n = S (fun b => S (fun a => f a b) n) m := by
  intro n
  induction n with
  | zero => exact (S_const0 m).symm
  | succ n ih =>
    rw [S, ih, ← S_add]
    rfl

theorem S_one {f : Nat → Int} {k : Nat} : ∀ n, k < n → (∀ j, j < n → j ≠ k → f j = 0) → S f n = f k := by
  intro n
  induction n with
  | zero => intro h; omega
  | succ n ih =>
    intro h e
    rw [S]
    by_cases hk : k = n
    · subst hk
      have : S f k = S (fun _ => 0) k := S_congr k (fun j hj => e j (by omega) (by omega))
      rw [this, S_const0]; omega
    · rw [ih (by omega) (fun j hj hj' => e j (by omega) hj'), e n (by omega) (fun x => hk x.symm)]; omega

theorem S_perm {xs : List Int} (h : Valid xs) (g : Nat → Int) : S (fun a => g (el xs a).toNat) xs.length = S g xs.length := by
  have h1 : S g xs.length = S (fun u => S (fun a => if el xs a = (u : Int) then g u else 0) xs.length) xs.length := by
    refine S_congr _ (fun u hu => ?_)
    obtain ⟨k, hk, e⟩ := h.place hu
    have e0 := S_one (f := fun a => if el xs a = (u : Int) then g u else 0) (k := k) xs.length hk (fun j hj hjk => by
      show (if el xs j = (u : Int) then g u else 0) = 0
      rw [if_neg]
      intro e'
      rcases Nat.lt_or_gt_of_ne hjk with a | a
      · exact h.ne j k a hk (by rw [e, e'])
      · exact h.ne k j a hj (by rw [e, e']))
    rw [e0]
    show g u = if el xs k = (u : Int) then g u else 0
    rw [if_pos e]
  rw [h1, ← S_swap]
  refine S_congr _ (fun a ha => ?_)
  have lo := h.lo a ha
  have hi := h.hi a ha
  have e0 := S_one (f := fun u : Nat => if el xs a = (u : Int) then g u else 0) (k := (el xs a).toNat) xs.length (by omega) (fun j hj hjk => by
    show (if el xs a = (j : Int) then g j else 0) = 0
    rw [if_neg]
    intro e'
    omega)
  rw [e0]
  show g (el xs a).toNat = if el xs a = (((el xs a).toNat : Nat) : Int) then g (el xs a).toNat else 0
  rw [if_pos (by omega)]

theorem S_upto (g : Nat → Int) (i : Nat) : ∀ n, i ≤ n → S g i = S (fun t => if t < i then g t else 0) n := by
  intro n
  induction n with
  | zero => intro h; obtain rfl : i = 0 := by omega
            rfl
  | succ n ih =>
    intro h
    rw [S]
    by_cases e : i = n + 1
    · subst e
      rw [S, if_pos (by omega)]
      congr 1
      exact S_congr n (fun j hj => by rw [if_pos (by omega)])
    · rw [← ih (by omega), if_neg (by omega)]; omega

/-- A pair of places that is an inversion. -/
def pr (xs : List Int) (i t : Nat) : Int := if t < i then (if el xs i < el xs t then 1 else 0) else 0

theorem invs_pr (xs : List Int) : sumL (table xs) = S (fun i => S (fun t => pr xs i t) xs.length) xs.length := by
  rw [invs_ga]
  refine S_congr _ (fun i hi => ?_)
  rw [ga, cntP_S, S_upto _ i xs.length (by omega)]
  refine S_congr _ (fun t ht => ?_)
  show (if t < i then ind _ t else 0) = pr xs i t
  unfold ind pr
  simp only [decide_eq_true_eq]

theorem invs_inv {xs : List Int} (h : Valid xs) : sumL (table (inv xs)) = sumL (table xs) := by
  rw [invs_pr, invs_pr, inv_length]
  have h1 : S (fun i => S (fun t => pr (inv xs) i t) xs.length) xs.length = S (fun a => S (fun b => pr (inv xs) (el xs a).toNat (el xs b).toNat) xs.length) xs.length := by
    rw [← S_perm h (fun i => S (fun t => pr (inv xs) i t) xs.length)]
    exact S_congr _ (fun a ha => (S_perm h (fun t => pr (inv xs) (el xs a).toNat t)).symm)
  rw [h1, S_swap]
  refine S_congr _ (fun b hb => S_congr _ (fun a ha => ?_))
  have a1 := h.lo a ha
  have b1 := h.lo b hb
  unfold pr
  rw [inv_el h ha, inv_el h hb]
  by_cases e1 : a < b
  · by_cases e2 : el xs b < el xs a
    · rw [if_pos (by omega), if_pos (by omega), if_pos e1, if_pos e2]
    · rw [if_neg (by omega), if_pos e1, if_neg e2]
  · by_cases e2 : el xs b < el xs a
    · rw [if_pos (by omega), if_neg (by omega), if_neg e1]
    · rw [if_neg (by omega), if_neg e1]

theorem sgn_inv {xs : List Int} (h : Valid xs) : sgn (inv xs) = sgn xs := by rw [sgn, sgn, invs_inv h]

end Go.Proofs.Ytlhphgldmefefab
