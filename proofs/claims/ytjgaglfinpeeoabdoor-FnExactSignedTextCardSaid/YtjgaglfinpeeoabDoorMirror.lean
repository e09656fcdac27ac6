/- The lists and numbers that the functions give, as plain functions of lists. No condition. -/
import Derived.Test.YtjgaglfinpeeoabDoorPure
namespace Go.Proofs.YtjgaglfinpeeoabDoor

/-- What a function of orders gives: a list for an order, nil for other numbers. -/
def onV (xs ys : List Int) : List Int := if Valid xs then ys else []
theorem onV_yes {xs ys : List Int} (h : Valid xs) : onV xs ys = ys := if_pos h
theorem onV_no {xs ys : List Int} (h : ¬ Valid xs) : onV xs ys = [] := if_neg h

/-! The lists that the functions make. -/
def rise (n : Nat) : List Int := (List.range n).map fun (k : Nat) => (k : Int)
theorem map_range_succ (g : Nat → Int) (k : Nat) : (List.range (k + 1)).map g = (List.range k).map g ++ [g k] := by simp [List.range_succ]
theorem rise_len (n : Nat) : (rise n).length = n := by simp [rise]
theorem rise_succ (n : Nat) : rise (n + 1) = rise n ++ [(n : Int)] := by simp [rise, List.range_succ]
def inv (xs : List Int) : List Int := iter (fun (a : List Int) k => a.set (el xs k).toNat (k : Int)) (List.replicate xs.length 0) xs.length
def turn (xs : List Int) : List Int := (List.range xs.length).map fun k => el xs (xs.length - 1 - k)
def turnI (xs : List Int) : List Int := iter (fun a k => a.set (xs.length - 1 - k) (el xs k)) (List.replicate xs.length 0) xs.length
def opp (xs : List Int) : List Int := (List.range xs.length).map fun k => (xs.length : Int) - 1 - el xs k

theorem inv_len (xs : List Int) (k : Nat) : (iter (fun (a : List Int) k => a.set (el xs k).toNat (k : Int)) (List.replicate xs.length 0) k).length = xs.length :=
  (iter_len (fun _ _ => List.length_set) _ k).trans List.length_replicate
theorem turnI_len (xs : List Int) (k : Nat) : (iter (fun a k => a.set (xs.length - 1 - k) (el xs k)) (List.replicate xs.length 0) k).length = xs.length :=
  (iter_len (fun _ _ => List.length_set) _ k).trans List.length_replicate

theorem turnI_eq (xs : List Int) : turnI xs = turn xs := by
  have key : ∀ k, k ≤ xs.length → ∀ j, j < xs.length → xs.length - 1 - j < k → el (iter (fun a k => a.set (xs.length - 1 - k) (el xs k)) (List.replicate xs.length 0) k) j = el xs (xs.length - 1 - j) := by
    intro k
    induction k with
    | zero => intro _ j _ hj; omega
    | succ k ih =>
      intro hk j hj hjk
      rw [iter]
      by_cases e : xs.length - 1 - k = j
      · subst e
        rw [el_set_same (by rw [turnI_len]; exact hj)]
        congr 1; omega
      · rw [el_set_ne e, ih (by omega) j hj (by omega)]
  refine ext_el (by rw [turnI, turnI_len, turn, map_range_len]) (fun j hj => ?_)
  rw [turnI, turnI_len] at hj
  rw [turnI, key _ (Nat.le_refl _) j hj (by omega), turn, el_map hj]

/-- How many of the first k numbers have the property. -/
def cntP (p : Nat → Bool) : Nat → Int
  | 0 => 0
  | k + 1 => if p k then cntP p k + 1 else cntP p k
theorem cntP_bd (p : Nat → Bool) (k : Nat) : 0 ≤ cntP p k ∧ cntP p k ≤ k := by
  induction k with
  | zero => exact ⟨Int.le_refl _, Int.le_refl _⟩
  | succ k ih => rw [cntP]; split <;> omega
theorem cntP_yes {p : Nat → Bool} {k : Nat} (h : p k = true) : cntP p (k + 1) = cntP p k + 1 := by rw [cntP, if_pos h]
theorem cntP_no {p : Nat → Bool} {k : Nat} (h : p k = false) : cntP p (k + 1) = cntP p k := by rw [cntP, h]; simp

/-- How many lesser numbers stand behind place i, among the first t behind it. -/
def lbP (xs : List Int) (i t : Nat) : Int := cntP (fun j => decide (el xs (i + 1 + j) < el xs i)) t
def lb (xs : List Int) (i : Nat) : Int := lbP xs i (xs.length - 1 - i)
theorem lbP_bd (xs : List Int) (i t : Nat) : 0 ≤ lbP xs i t ∧ lbP xs i t ≤ t := cntP_bd _ _
theorem lbP_zero (xs : List Int) (i : Nat) : lbP xs i 0 = 0 := rfl
theorem lbP_yes {xs : List Int} {i t : Nat} (h : el xs (i + 1 + t) < el xs i) : lbP xs i (t + 1) = lbP xs i t + 1 := cntP_yes (by simpa using h)
theorem lbP_no {xs : List Int} {i t : Nat} (h : el xs i ≤ el xs (i + 1 + t)) : lbP xs i (t + 1) = lbP xs i t := cntP_no (by simpa using h)
def table (xs : List Int) : List Int := (List.range xs.length).map (lb xs)
theorem table_len (xs : List Int) : (table xs).length = xs.length := map_range_len _
theorem el_table {xs : List Int} {j : Nat} (h : j < xs.length) : el (table xs) j = lb xs j := el_map h
theorem lb_bd (xs : List Int) (i : Nat) : 0 ≤ lb xs i ∧ lb xs i ≤ xs.length := by
  have := lbP_bd xs i (xs.length - 1 - i)
  unfold lb
  omega
theorem table_bd (xs : List Int) : ∀ j, j < (table xs).length → 0 ≤ el (table xs) j ∧ el (table xs) j ≤ xs.length := fun j hj => by
  rw [table_len] at hj
  rw [el_table hj]
  exact lb_bd xs j

/-- The sum of the first k numbers. -/
def sumTo (xs : List Int) : Nat → Int
  | 0 => 0
  | k + 1 => sumTo xs k + el xs k
def sumL (xs : List Int) : Int := sumTo xs xs.length
theorem sumTo_bd {xs : List Int} {M : Nat} (h : ∀ j, j < xs.length → 0 ≤ el xs j ∧ el xs j ≤ M) : ∀ k, k ≤ xs.length → 0 ≤ sumTo xs k ∧ sumTo xs k ≤ k * M := by
  intro k
  induction k with
  | zero => intro _; simp [sumTo]
  | succ k ih =>
    intro hk
    have h1 := ih (by omega)
    have h2 := h k (by omega)
    rw [sumTo]
    have e : ((k + 1 : Nat) : Int) * M = k * M + M := by rw [Int.natCast_add, Int.add_mul]; simp
    omega
/-- What a function of orders answers: a number for an order, another one for other numbers. -/
def onVi (xs : List Int) (v d : Int) : Int := if Valid xs then v else d
theorem onVi_yes {xs : List Int} {v d : Int} (h : Valid xs) : onVi xs v d = v := if_pos h
theorem onVi_no {xs : List Int} {v d : Int} (h : ¬ Valid xs) : onVi xs v d = d := if_neg h

/-- The places among the first k behind which a lesser number stands. -/
def dsP (xs : List Int) : Nat → List Int
  | 0 => []
  | k + 1 => if el xs (k + 1) < el xs k then dsP xs k ++ [(k : Int)] else dsP xs k
def desc (xs : List Int) : List Int := dsP xs (xs.length - 1)
theorem dsP_yes {xs : List Int} {k : Nat} (h : el xs (k + 1) < el xs k) : dsP xs (k + 1) = dsP xs k ++ [(k : Int)] := by rw [dsP, if_pos h]
theorem dsP_no {xs : List Int} {k : Nat} (h : el xs k ≤ el xs (k + 1)) : dsP xs (k + 1) = dsP xs k := by rw [dsP, if_neg (by omega)]
theorem dsP_len (xs : List Int) (k : Nat) : (dsP xs k).length ≤ k := by
  induction k with
  | zero => simp [dsP]
  | succ k ih =>
    rw [dsP]
    split
    · rw [List.length_append, List.length_singleton]; omega
    · omega
theorem dsP_mem (xs : List Int) (k : Nat) : ∀ x ∈ dsP xs k, 0 ≤ x ∧ x < k := by
  induction k with
  | zero => intro x hx; simp [dsP] at hx
  | succ k ih =>
    intro x hx
    rw [dsP] at hx
    split at hx
    · rw [List.mem_append, List.mem_singleton] at hx
      rcases hx with hx | hx
      · have := ih x hx; omega
      · omega
    · have := ih x hx; omega
theorem el_mem {xs : List Int} {j : Nat} (h : j < xs.length) : el xs j ∈ xs := by rw [el_lt h]; exact List.getElem_mem h
theorem desc_len (xs : List Int) : (desc xs).length ≤ xs.length - 1 := dsP_len _ _
theorem desc_small {xs : List Int} (h : xs.length ≤ 1000) : ∀ j, j < (desc xs).length → 0 ≤ el (desc xs) j ∧ el (desc xs) j ≤ (1000 : Nat) := fun j hj => by
  have : 0 ≤ el (desc xs) j ∧ el (desc xs) j < (xs.length - 1 : Nat) := dsP_mem xs _ _ (el_mem hj)
  omega
def major (xs : List Int) : Int := sumL (desc xs) + (desc xs).length
theorem sumL_bd {xs : List Int} {M L : Nat} (h : ∀ j, j < xs.length → 0 ≤ el xs j ∧ el xs j ≤ M) (hl : xs.length ≤ L) : 0 ≤ sumL xs ∧ sumL xs ≤ L * M := by
  have h1 := sumTo_bd h xs.length (Nat.le_refl _)
  refine ⟨h1.1, Int.le_trans h1.2 (Int.mul_le_mul_of_nonneg_right (by omega) (by omega))⟩
def sgn (xs : List Int) : Int := 1 - 2 * (sumL (table xs) % 2)

/-- One list moved up by a, and another one moved up by b behind it. -/
def up (xs : List Int) (a : Int) : List Int := (List.range xs.length).map fun j => el xs j + a
def join (xs : List Int) (a : Int) (ys : List Int) (b : Int) : List Int := up xs a ++ up ys b
theorem up_len (xs : List Int) (a : Int) : (up xs a).length = xs.length := map_range_len _
theorem up_zero (xs : List Int) : up xs 0 = xs := ext_el (up_len xs 0) (fun j hj => by rw [up_len] at hj; rw [up, el_map hj]; omega)
theorem up_app (xs : List Int) (g : Nat → Int) (k : Nat) : xs ++ (List.range (k + 1)).map g = (xs ++ (List.range k).map g) ++ [g k] := by rw [map_range_succ, List.append_assoc]
/-- Two orders that may be put behind each other. -/
def Two (xs ys : List Int) : Prop := Valid xs ∧ Valid ys ∧ xs.length + ys.length ≤ 7
instance (xs ys : List Int) : Decidable (Two xs ys) := inferInstanceAs (Decidable (_ ∧ _ ∧ _))
def onT (xs ys zs : List Int) : List Int := if Two xs ys then zs else []
theorem onT_yes {xs ys zs : List Int} (h : Two xs ys) : onT xs ys zs = zs := if_pos h
theorem onT_no {xs ys zs : List Int} (h : ¬ Two xs ys) : onT xs ys zs = [] := if_neg h

/-- Two orders of one length. -/
def Mat (xs ys : List Int) : Prop := Valid xs ∧ Valid ys ∧ xs.length = ys.length
instance (xs ys : List Int) : Decidable (Mat xs ys) := inferInstanceAs (Decidable (_ ∧ _ ∧ _))
def onM (xs ys zs : List Int) : List Int := if Mat xs ys then zs else []
theorem onM_yes {xs ys zs : List Int} (h : Mat xs ys) : onM xs ys zs = zs := if_pos h
theorem onM_no {xs ys zs : List Int} (h : ¬ Mat xs ys) : onM xs ys zs = [] := if_neg h
def comp (xs ys : List Int) : List Int := (List.range ys.length).map fun k => el xs (el ys k).toNat

/-- The numbers are the table of an order. -/
structure VT (ts : List Int) : Prop where
  len : ts.length ≤ 7
  lo : ∀ j, j < ts.length → 0 ≤ el ts j
  hi : ∀ j, j < ts.length → el ts j ≤ (ts.length : Int) - 1 - j
theorem vt_iff (ts : List Int) : VT ts ↔ (ts.length ≤ 7 ∧ (∀ j, j < ts.length → 0 ≤ el ts j) ∧ ∀ j, j < ts.length → el ts j ≤ (ts.length : Int) - 1 - j) :=
  ⟨fun h => ⟨h.len, h.lo, h.hi⟩, fun h => ⟨h.1, h.2.1, h.2.2⟩⟩
instance (ts : List Int) : Decidable (VT ts) := decidable_of_iff _ (vt_iff ts).symm

end Go.Proofs.YtjgaglfinpeeoabDoor
