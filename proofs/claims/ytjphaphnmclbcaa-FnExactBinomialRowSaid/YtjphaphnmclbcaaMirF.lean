/- Foata's map and its way back, as plain functions of lists. No condition. -/
import Derived.Test.YtjphaphnmclbcaaMirC
namespace Go.Proofs.Ytjphaphnmclbcaa

/-- Does z lie on the side of x that low names? -/
def sid (low : Bool) (x z : Int) : Bool := decide (z < x) == low
/-- The first i numbers of v, cut behind those of the side: the pieces that are turned, and the one that is open. -/
def tbP (low : Bool) (x : Int) (v : List Int) : Nat → List Int × List Int
  | 0 => ([], [])
  | i + 1 => if sid low x (el v i) then ((tbP low x v i).1 ++ [el v i] ++ (tbP low x v i).2, []) else ((tbP low x v i).1, (tbP low x v i).2 ++ [el v i])
theorem tbP_yes {low : Bool} {x : Int} {v : List Int} {i : Nat} (h : sid low x (el v i) = true) : tbP low x v (i + 1) = ((tbP low x v i).1 ++ [el v i] ++ (tbP low x v i).2, []) := by rw [tbP, if_pos h]
theorem tbP_no {low : Bool} {x : Int} {v : List Int} {i : Nat} (h : sid low x (el v i) = false) : tbP low x v (i + 1) = ((tbP low x v i).1, (tbP low x v i).2 ++ [el v i]) := by rw [tbP, h]; simp
theorem tbP_len (low : Bool) (x : Int) (v : List Int) (i : Nat) : (tbP low x v i).1.length + (tbP low x v i).2.length = i := by
  induction i with
  | zero => rfl
  | succ i ih =>
    rw [tbP]
    split
    · simp; omega
    · simp; omega
/-- The open piece is the end of what was looked at. -/
theorem tbP_run (low : Bool) (x : Int) (v : List Int) (i : Nat) (hi : i ≤ v.length) : (tbP low x v i).2 = (v.take i).drop (tbP low x v i).1.length := by
  induction i with
  | zero => simp [tbP]
  | succ i ih =>
    have hl := tbP_len low x v i
    rw [tbP]
    split
    · rw [List.drop_eq_nil_of_le]
      simp; omega
    · show _ = (v.take (i + 1)).drop _
      rw [take_el (by omega), List.drop_append_of_le_length (by simp; omega), ← ih (by omega)]
def lowOf (v : List Int) (x : Int) : Bool := decide (0 < v.length) && decide (el v (v.length - 1) < x)
def turnB (v : List Int) (x : Int) : List Int := (tbP (lowOf v x) x v v.length).1 ++ (tbP (lowOf v x) x v v.length).2
theorem turnB_len (v : List Int) (x : Int) : (turnB v x).length = v.length := by rw [turnB, List.length_append, tbP_len]
def foP (xs : List Int) : Nat → List Int
  | 0 => []
  | k + 1 => turnB (foP xs k) (el xs k) ++ [el xs k]
theorem foP_len (xs : List Int) (k : Nat) : (foP xs k).length = k := by
  induction k with
  | zero => rfl
  | succ k ih => rw [foP, List.length_append, turnB_len, ih]; rfl
def foat (xs : List Int) : List Int := foP xs xs.length
theorem foat_len (xs : List Int) : (foat xs).length = xs.length := foP_len _ _

/-- Numbers from the last one on, cut ahead of those of the side: the open piece at the beginning, and the pieces that are turned back. -/
def bkS (low : Bool) (x : Int) : List Int → List Int × List Int
  | [] => ([], [])
  | y :: v => if sid low x y then ([], (bkS low x v).1 ++ [y] ++ (bkS low x v).2) else (y :: (bkS low x v).1, (bkS low x v).2)
theorem bkS_len (low : Bool) (x : Int) (v : List Int) : (bkS low x v).1.length + (bkS low x v).2.length = v.length := by
  induction v with
  | nil => rfl
  | cons y v ih =>
    rw [bkS]
    split
    · simp; omega
    · simp; omega
theorem bkS_run (low : Bool) (x : Int) (v : List Int) : (bkS low x v).1 = v.take (bkS low x v).1.length := by
  induction v with
  | nil => rfl
  | cons y v ih =>
    rw [bkS]
    split
    · simp
    · simp only [List.length_cons, List.take_succ_cons]
      rw [← ih]
/-- From place j on. -/
theorem drop_cons {v : List Int} {j : Nat} (h : j < v.length) : v.drop j = el v j :: v.drop (j + 1) := by
  rw [el_lt h]; exact List.drop_eq_getElem_cons h
theorem bkS_yes {low : Bool} {x : Int} {v : List Int} {j : Nat} (hj : j < v.length) (h : sid low x (el v j) = true) : bkS low x (v.drop j) = ([], (bkS low x (v.drop (j + 1))).1 ++ [el v j] ++ (bkS low x (v.drop (j + 1))).2) := by
  rw [drop_cons hj, bkS, if_pos h]
theorem bkS_no {low : Bool} {x : Int} {v : List Int} {j : Nat} (hj : j < v.length) (h : sid low x (el v j) = false) : bkS low x (v.drop j) = (el v j :: (bkS low x (v.drop (j + 1))).1, (bkS low x (v.drop (j + 1))).2) := by
  rw [drop_cons hj, bkS, h]; simp
def lowB (v : List Int) (x : Int) : Bool := decide (0 < v.length) && decide (el v 0 < x)
def backB (v : List Int) (x : Int) : List Int := (bkS (lowB v x) x v).1 ++ (bkS (lowB v x) x v).2
theorem backB_len (v : List Int) (x : Int) : (backB v x).length = v.length := by rw [backB, List.length_append, bkS_len]
/-- The first n - t numbers after t steps back; what stands behind them is done. -/
def fbP (xs : List Int) : Nat → List Int
  | 0 => xs
  | t + 1 => backB ((fbP xs t).take ((fbP xs t).length - 1)) (el (fbP xs t) ((fbP xs t).length - 1))
def fbT (xs : List Int) : Nat → List Int
  | 0 => []
  | t + 1 => el (fbP xs t) ((fbP xs t).length - 1) :: fbT xs t
theorem fbP_len (xs : List Int) (t : Nat) : (fbP xs t).length = xs.length - t := by
  induction t with
  | zero => rfl
  | succ t ih => rw [fbP, backB_len, List.length_take, ih]; omega
theorem fbT_len (xs : List Int) (t : Nat) : (fbT xs t).length = t := by
  induction t with
  | zero => rfl
  | succ t ih => rw [fbT, List.length_cons, ih]
def fbac (xs : List Int) : List Int := fbT xs xs.length
theorem fbac_len (xs : List Int) : (fbac xs).length = xs.length := fbT_len _ _

end Go.Proofs.Ytjphaphnmclbcaa
