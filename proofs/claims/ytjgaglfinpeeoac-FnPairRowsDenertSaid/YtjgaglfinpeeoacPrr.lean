/- How often two numbers stand together in two lists, as rows: words. No condition. -/
import Derived.Test.YtjgaglfinpeeoacNumB
import Derived.Test.YtjgaglfinpeeoacCopyL
namespace Go.Proofs.Ytjgaglfinpeeoac
open Go.RowKit

/-- How often two numbers stand together. -/
def pcnt (ps : List (Int × Int)) (x y : Int) : Int := ((ps.count (x, y) : Nat) : Int)
/-- L rows of M numbers: how often the row's number and the place's stand together. -/
def rowP (M : Nat) (ps : List (Int × Int)) (x : Nat) : List Int := (List.range M).map fun y : Nat => pcnt ps (x : Int) (y : Int)
def rowsP (L M : Nat) (ps : List (Int × Int)) : List (List Int) := (List.range L).map (rowP M ps)
theorem rowP_len (M : Nat) (ps : List (Int × Int)) (x : Nat) : (rowP M ps x).length = M := by simp [rowP]
theorem rowsP_len (L M : Nat) (ps : List (Int × Int)) : (rowsP L M ps).length = L := by simp [rowsP]
theorem ell_rowsP {L M : Nat} {ps : List (Int × Int)} {x : Nat} (h : x < L) : ell (rowsP L M ps) x = rowP M ps x := by
  rw [ell_lt (by rw [rowsP_len]; exact h)]; simp [rowsP]
theorem el_rowP {M : Nat} {ps : List (Int × Int)} {x y : Nat} (h : y < M) : el (rowP M ps x) y = pcnt ps x y := by
  rw [el_lt (by rw [rowP_len]; exact h)]; simp [rowP]
theorem rowP_nil (M x : Nat) : rowP M [] x = List.replicate M 0 := by
  refine List.ext_getElem (by simp [rowP]) fun j h1 h2 => ?_
  simp [rowP, pcnt]
theorem rowsP_nil (L M : Nat) : rowsP L M [] = List.replicate L (List.replicate M 0) := by
  refine List.ext_getElem (by simp [rowsP]) fun j h1 h2 => ?_
  simp [rowsP, rowP_nil]
theorem pcnt_app (ps : List (Int × Int)) (a b x y : Int) : pcnt (ps ++ [(a, b)]) x y = pcnt ps x y + if a = x ∧ b = y then 1 else 0 := by
  unfold pcnt
  rw [List.count_append]
  by_cases h : a = x ∧ b = y
  · obtain ⟨rfl, rfl⟩ := h; simp
  · rw [if_neg h]
    have : ¬ ((a, b) = (x, y)) := fun e => h (by simpa using e)
    have h0 : List.count (x, y) [(a, b)] = 0 := List.count_eq_zero.2 (by rw [List.mem_singleton]; exact fun e => this e.symm)
    rw [h0]
    simp
theorem rowsP_bump {L M : Nat} {ps : List (Int × Int)} {x y : Nat} (_ : x < L) (_ : y < M) : (rowsP L M ps).set x ((rowP M ps x).set y (pcnt ps x y + 1)) = rowsP L M (ps ++ [((x : Int), (y : Int))]) := by
  refine List.ext_getElem (by simp [rowsP]) fun i h1 h2 => ?_
  rw [List.getElem_set]
  have hi : (rowsP L M ps)[i]'(by simpa using h1) = rowP M ps i := by simp [rowsP]
  have hi2 : (rowsP L M (ps ++ [((x : Int), (y : Int))]))[i] = rowP M (ps ++ [((x : Int), (y : Int))]) i := by simp [rowsP]
  rw [hi, hi2]
  split
  · rename_i e
    subst e
    refine List.ext_getElem (by simp [rowP]) fun j h3 h4 => ?_
    rw [List.getElem_set]
    have hj : (rowP M ps x)[j]'(by simpa using h3) = pcnt ps x j := by simp [rowP]
    have hj2 : (rowP M (ps ++ [((x : Int), (y : Int))]) x)[j] = pcnt (ps ++ [((x : Int), (y : Int))]) x j := by simp [rowP]
    rw [hj, hj2, pcnt_app]
    split
    · rename_i e; subst e; simp
    · rename_i e
      rw [if_neg (fun q => e (by have := q.2; omega))]
      simp
  · rename_i e
    refine List.ext_getElem (by simp [rowP]) fun j h3 h4 => ?_
    have hj : (rowP M ps i)[j]'(by simpa using h3) = pcnt ps i j := by simp [rowP]
    have hj2 : (rowP M (ps ++ [((x : Int), (y : Int))]) i)[j] = pcnt (ps ++ [((x : Int), (y : Int))]) i j := by simp [rowP]
    rw [hj, hj2, pcnt_app, if_neg (fun q => e (by have := q.1; omega))]
    simp

/-- The numbers of two names of all orders, together. -/
def pz (a b m : Nat) : List (Int × Int) := (numK a m).zip (numK b m)
theorem pz_len (a b m : Nat) : (pz a b m).length = facN m := by simp [pz, numK_len]
theorem take_pz {a b m j : Nat} (h : j < facN m) : (pz a b m).take (j + 1) = (pz a b m).take j ++ [(el (numK a m) j, el (numK b m) j)] := by
  rw [List.take_succ_eq_append_getElem (by rw [pz_len]; exact h)]
  congr 1
  simp [pz, el, numK_len, h]
theorem el_numK {k m j : Nat} (h : j < facN m) : el (numK k m) j = valN (ordK m j) k := by
  rw [el_lt (by rw [numK_len]; exact h)]; simp [numK, allK]
/-- How many rows there are, and how long each is. -/
def mxN (k m : Nat) : Nat := mxK (numK k m) (facN m)
def prow (a b m : Nat) : List (List Int) := rowsP (mxN a m) (mxN b m) (pz a b m)
theorem prow_len (a b m : Nat) : (prow a b m).length = mxN a m := rowsP_len _ _ _
theorem mxN_le {k m : Nat} (h9 : k < 9) (hm : m ≤ 5) : mxN k m ≤ 101 := mxK_le (numK_bd h9 hm) _
theorem mxN_pos (k m : Nat) (h : 0 < facN m) : 0 < mxN k m := by
  have := mxK_gt (l := numK k m) (facN m) 0 h
  unfold mxN; omega
theorem numK_lt {k m j : Nat} (h9 : k < 9) (hm : m ≤ 5) (h : j < facN m) : ∃ v : Nat, el (numK k m) j = (v : Int) ∧ v < mxN k m ∧ v ≤ 100 := by
  have h1 := mxK_gt (l := numK k m) (facN m) j h
  have h2 := numK_bd h9 hm j
  refine ⟨(el (numK k m) j).toNat, by omega, h1, by omega⟩
theorem pcnt_le (ps : List (Int × Int)) (x y : Int) : 0 ≤ pcnt ps x y ∧ pcnt ps x y ≤ ps.length := by
  unfold pcnt
  have := List.count_le_length (a := (x, y)) (l := ps)
  omega
theorem tal_numK_len (k m : Nat) : (tal (numK k m)).length = mxN k m := by rw [tal_len, numK_len]; rfl

/-- The columns of rows. -/
def turnR (L M : Nat) (yss : List (List Int)) : List (List Int) := (List.range M).map fun y => (List.range L).map fun x => el (ell yss x) y
theorem zip_sw : ∀ l m : List Int, m.zip l = (l.zip m).map Prod.swap
  | [], m => by simp
  | x :: l, [] => by simp
  | x :: l, y :: m => by simp [zip_sw l m]
theorem turn_prow (a b m : Nat) : turnR (mxN a m) (mxN b m) (prow a b m) = prow b a m := by
  show (List.range (mxN b m)).map _ = (List.range (mxN b m)).map (rowP (mxN a m) (pz b a m))
  refine List.map_congr_left fun y hy => ?_
  show (List.range (mxN a m)).map _ = (List.range (mxN a m)).map fun x : Nat => pcnt (pz b a m) (y : Int) (x : Int)
  refine List.map_congr_left fun x hx => ?_
  have hy' := List.mem_range.1 hy
  have hx' := List.mem_range.1 hx
  rw [prow, ell_rowsP hx', el_rowP hy']
  unfold pcnt pz
  have e : (numK b m).zip (numK a m) = ((numK a m).zip (numK b m)).map Prod.swap := zip_sw _ _
  rw [e]
  have : ∀ l : List (Int × Int), l.count ((x : Int), (y : Int)) = (l.map Prod.swap).count ((y : Int), (x : Int)) := by
    intro l
    induction l with
    | nil => rfl
    | cons p l ih =>
      obtain ⟨u, v⟩ := p
      rw [List.map_cons, List.count_cons, List.count_cons, ih]
      congr 1
      have : (((u, v) : Int × Int) == ((x : Int), (y : Int))) = ((Prod.swap (u, v) : Int × Int) == ((y : Int), (x : Int))) := by
        rw [Bool.eq_iff_iff, beq_iff_eq, beq_iff_eq]
        simp [and_comm]
      rw [this]
  rw [this]
def rsum (f : Nat → Int) : Nat → Int
  | 0 => 0
  | k + 1 => rsum f k + f k
theorem sumTo_map (f : Nat → Int) (M : Nat) : ∀ k, k ≤ M → sumTo ((List.range M).map f) k = rsum f k := by
  intro k
  induction k with
  | zero => intro _; rfl
  | succ k ih =>
    intro h
    have e : el ((List.range M).map f) k = f k := by simp [el, show k < M by omega]
    rw [rsum, ← ih (by omega), ← e]
    rfl
theorem sumL_map (f : Nat → Int) (M : Nat) : sumL ((List.range M).map f) = rsum f M := by
  rw [sumL, List.length_map, List.length_range]
  exact sumTo_map f M M (Nat.le_refl _)
theorem rsum_add (f g : Nat → Int) : ∀ k, rsum (fun y => f y + g y) k = rsum f k + rsum g k := by
  intro k
  induction k with
  | zero => rfl
  | succ k ih => simp only [rsum, ih]; omega
theorem rsum_zero {f : Nat → Int} (h : ∀ j, f j = 0) : ∀ k, rsum f k = 0 := by
  intro k
  induction k with
  | zero => rfl
  | succ k ih => rw [rsum, ih, h]; rfl
theorem rsum_one {f : Nat → Int} {v : Nat} (h1 : f v = 1) (h : ∀ j, j ≠ v → f j = 0) : ∀ k, rsum f k = if v < k then 1 else 0 := by
  intro k
  induction k with
  | zero => rfl
  | succ k ih =>
    rw [rsum, ih]
    by_cases e : k = v
    · rw [e, h1, if_neg (by omega), if_pos (by omega)]; rfl
    · rw [h k e]
      by_cases e2 : v < k
      · rw [if_pos e2, if_pos (by omega)]; rfl
      · rw [if_neg e2, if_neg (by omega)]; rfl
theorem rsum_congr {f g : Nat → Int} (h : ∀ j, f j = g j) (k : Nat) : rsum f k = rsum g k := by
  rw [show f = g from funext h]
theorem sum_row (M : Nat) (x : Nat) (ps : List (Int × Int)) (h : ∀ p ∈ ps, 0 ≤ p.2 ∧ p.2 < M) : sumL (rowP M ps x) = (((ps.map Prod.fst).count (x : Int) : Nat) : Int) := by
  rw [rowP, sumL_map (fun y : Nat => pcnt ps (x : Int) (y : Int))]
  induction ps with
  | nil => exact rsum_zero (fun j => by simp [pcnt]) M
  | cons p ps ih =>
    obtain ⟨u, v⟩ := p
    have h1 := ih (fun q hq => h q (by simp [hq]))
    have h2 := h (u, v) (by simp)
    rw [List.map_cons, List.count_cons, Int.natCast_add, ← h1]
    rw [rsum_congr (g := fun y : Nat => pcnt ps (x : Int) (y : Int) + if u = (x : Int) ∧ v = (y : Int) then 1 else 0) (fun y => by
      unfold pcnt
      rw [List.count_cons, Int.natCast_add]
      congr 1
      by_cases e : u = (x : Int) ∧ v = (y : Int)
      · obtain ⟨rfl, rfl⟩ := e; simp
      · rw [if_neg e]
        have : (((u, v) : Int × Int) == ((x : Int), (y : Int))) = false := by
          rw [beq_eq_false_iff_ne]; intro q; exact e (by simpa using q)
        rw [this]; rfl), rsum_add]
    congr 1
    by_cases e : u = (x : Int)
    · rw [rsum_one (v := v.toNat) (if_pos ⟨e, by omega⟩) (fun j hj => if_neg (fun q => hj (by have := q.2; omega))), if_pos (by omega)]
      simp [e]
    · rw [rsum_zero (fun j => if_neg (fun q => e q.1))]
      simp [e]
theorem row_total {a b m x : Nat} (hb : b < 9) (hm : m ≤ 5) (hx : x < mxN a m) : sumL (ell (prow a b m) x) = el (tal (numK a m)) x := by
  rw [prow, ell_rowsP hx, sum_row]
  · have e1 : (pz a b m).map Prod.fst = numK a m := by
      rw [pz, List.map_fst_zip (by rw [numK_len, numK_len]; exact Nat.le_refl _)]
    rw [e1, tal, el_cntL (by rw [numK_len]; exact hx)]
  · intro p hp
    have hp2 : p.2 ∈ numK b m := by
      obtain ⟨u, v⟩ := p
      exact (List.of_mem_zip hp).2
    obtain ⟨j, hj, e⟩ := List.mem_iff_getElem.1 hp2
    rw [numK_len] at hj
    obtain ⟨v, hv, hlt, -⟩ := numK_lt (k := b) hb hm hj
    rw [el_lt (by rw [numK_len]; exact hj), e] at hv
    rw [hv]
    omega

end Go.Proofs.Ytjgaglfinpeeoac
