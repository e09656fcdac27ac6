/- What a reckoning over all signed orders of at most five numbers shows, and what follows of their lengths, flags, falls, inverses and products. No condition. -/
import Derived.Test.YtjgaglfinpeeoabMirG
namespace Go.Proofs.Ytjgaglfinpeeoab

/-- All lists of numbers with these sizes. -/
def sgns : List Int → List (List Int)
  | [] => [[]]
  | x :: p => (sgns p).map (fun r => (x + 1) :: r) ++ (sgns p).map (fun r => (-(x + 1)) :: r)
theorem map_el (xs : List Int) (f : Int → Int) : ((List.range xs.length).map fun k => f (el xs k)) = xs.map f := by
  apply List.ext_getElem
  · simp
  · intro j h1 h2
    have hj : j < xs.length := by simpa using h2
    simp [el, hj]
theorem szL_map (xs : List Int) : szL xs = xs.map fun x => ab x - 1 := map_el xs fun x => ab x - 1
theorem mem_sgns (xs : List Int) : xs ∈ sgns (xs.map fun x => ab x - 1) := by
  induction xs with
  | nil => simp [sgns]
  | cons x xs ih =>
    rw [List.map_cons, sgns, List.mem_append, List.mem_map, List.mem_map]
    by_cases h : x < 0
    · exact Or.inr ⟨xs, ih, by rw [ab_neg h]; congr 1; omega⟩
    · exact Or.inl ⟨xs, ih, by rw [ab_pos (by omega)]; congr 1; omega⟩
def allSg (m : Nat) : List (List Int) := (allUpTo m).flatMap sgns
theorem SV.all {xs : List Int} (h : SV xs) {p : List Int → Bool} (hp : (allSg 5).all p = true) : p xs = true := by
  refine List.all_eq_true.1 hp xs ?_
  rw [allSg, List.mem_flatMap]
  refine ⟨szL xs, ?_, ?_⟩
  · have h5 := h.len
    rw [allUpTo, List.mem_flatMap]
    refine ⟨xs.length, by simp; omega, ?_⟩
    have := h.ord.in_orders
    rwa [szL_len] at this
  · rw [szL_map]; exact mem_sgns xs

/-! Counts, reckoned fast. -/
def ngc : List Int → Nat → Nat
  | [], n => n
  | .ofNat _ :: v, n => ngc v n
  | .negSucc _ :: v, n => ngc v (n + 1)
def ngs : List Int → Nat → Nat
  | [], n => n
  | .ofNat _ :: v, n => ngs v n
  | .negSucc m :: v, n => ngs v (n + m + 1)
def dcF : List Int → Nat → Nat
  | [], n => n
  | [_], n => n
  | x :: y :: xs, n => match ltb y x with
    | true => dcF (y :: xs) (n + 1)
    | false => dcF (y :: xs) n
theorem ngc_eq (v : List Int) (n : Nat) : ngc v n = v.countP (fun x => decide (x < 0)) + n := by
  induction v generalizing n with
  | nil => simp [ngc]
  | cons x v ih =>
    cases x with
    | ofNat m => rw [ngc, ih, List.countP_cons]; simp
    | negSucc m => rw [ngc, ih, List.countP_cons, if_pos (by simp)]; omega
theorem ngN_eq (xs : List Int) : ngN xs = (ngc xs 0 : Nat) := by
  rw [ngc_eq, ngN, Nat.add_zero]
  exact cntP_countP xs (fun x => decide (x < 0))
theorem ngS_cons (x : Int) (xs : List Int) (k : Nat) : ngS (x :: xs) (k + 1) = (if x < 0 then -x else 0) + ngS xs k := by
  induction k with
  | zero => simp only [ngS, el_zero]; split <;> simp
  | succ k ih => rw [ngS, ih, el_cons, ngS]; split <;> split <;> omega
theorem ngs_eq (v : List Int) (n : Nat) : (ngs v n : Int) = ngS v v.length + n := by
  induction v generalizing n with
  | nil => simp [ngs, ngS]
  | cons x v ih =>
    rw [List.length_cons, ngS_cons]
    cases x with
    | ofNat m => rw [ngs, ih, if_neg (by simp)]; omega
    | negSucc m => rw [ngs, ih, if_pos (by omega)]; omega
theorem dsP_cons (x : Int) (xs : List Int) (k : Nat) : (dsP (x :: xs) (k + 1)).length = (if el xs 0 < x then 1 else 0) + (dsP xs k).length := by
  induction k with
  | zero =>
    simp only [dsP, Nat.zero_add, el_cons, el_zero]
    by_cases e : el xs 0 < x
    · rw [if_pos e, if_pos e]; rfl
    · rw [if_neg e, if_neg e]; rfl
  | succ k ih =>
    rw [dsP, el_cons, el_cons]
    rw [show dsP xs (k + 1) = if el xs (k + 1) < el xs k then dsP xs k ++ [(k : Int)] else dsP xs k from rfl]
    by_cases e : el xs (k + 1) < el xs k
    · rw [if_pos e, if_pos e, List.length_append, ih, List.length_append]; simp; omega
    · rw [if_neg e, if_neg e, ih]
theorem dcF_eq (xs : List Int) (n : Nat) : dcF xs n = (desc xs).length + n := by
  induction xs generalizing n with
  | nil => simp [dcF, desc, dsP]
  | cons x xs ih =>
    cases xs with
    | nil => simp [dcF, desc, dsP]
    | cons y xs =>
      have e : (desc (x :: y :: xs)).length = (if y < x then 1 else 0) + (desc (y :: xs)).length := by
        rw [desc, desc]
        simp only [List.length_cons, Nat.add_sub_cancel]
        rw [dsP_cons, el_zero]
      rw [dcF, ltb_eq, e]
      by_cases h : y < x
      · simp only [h, decide_true, if_true]; rw [ih]; omega
      · simp only [h, decide_false, if_false]; rw [ih]; omega
def lnF (xs : List Int) : Nat := invF xs (ngs xs 0)
theorem lnF_eq (xs : List Int) : (lnF xs : Int) = lenS xs := by
  have h1 := invF_eq xs
  have h2 := ngs_eq xs 0
  rw [lnF, invF_add, lenS]
  omega
def flF (xs : List Int) : Nat := ngc xs (2 * majF xs 1 0)
theorem flF_eq (xs : List Int) : (flF xs : Int) = flagS xs := by
  have h1 := majF_eq xs
  have h2 := ngN_eq xs
  rw [ngc_eq] at h2
  rw [flF, ngc_eq, flagS]
  omega
def fsF (xs : List Int) : Nat := match xs with
  | .negSucc _ :: _ => dcF xs 1
  | _ => dcF xs 0
theorem fsF_eq (xs : List Int) : (fsF xs : Int) = fallS xs := by
  rw [fallS]
  cases xs with
  | nil => simp [fsF, dcF_eq]
  | cons x xs =>
    cases x with
    | ofNat m =>
      have e : ¬ ((m : Int) < 0) := by omega
      simp [fsF, dcF_eq, el_zero, e]
    | negSucc m =>
      rw [fsF, dcF_eq, if_pos ⟨by simp, by rw [el_zero]; omega⟩]
      omega

/-! Signed orders next to each other: the first number's sign, or two numbers beside each other. -/
def swp : Nat → List Int → List Int
  | 0, x :: y :: r => y :: x :: r
  | k + 1, x :: r => x :: swp k r
  | _, r => r
def nx : Nat → List Int → List Int
  | 0, x :: r => -x :: r
  | 0, [] => []
  | k + 1, r => swp k r
def negL (xs : List Int) : List Int := xs.map fun x => -x

def unit1 (m : Int) (n : Nat) : List Int := match n with
  | 0 => []
  | n + 1 => m :: unit1 (m + 1) n
def anyN (p : Nat → Bool) : Nat → Bool
  | 0 => false
  | k + 1 => p k || anyN p k
def allN (p : Nat → Bool) : Nat → Bool
  | 0 => true
  | k + 1 => p k && allN p k
theorem anyN_of {p : Nat → Bool} {n : Nat} (h : anyN p n = true) : ∃ k, k < n ∧ p k = true := by
  induction n with
  | zero => simp [anyN] at h
  | succ n ih =>
    rw [anyN, Bool.or_eq_true] at h
    rcases h with h | h
    · exact ⟨n, by omega, h⟩
    · obtain ⟨k, hk, e⟩ := ih h
      exact ⟨k, by omega, e⟩
theorem allN_of {p : Nat → Bool} {n : Nat} (h : allN p n = true) {k : Nat} (hk : k < n) : p k = true := by
  induction n with
  | zero => omega
  | succ n ih =>
    rw [allN, Bool.and_eq_true] at h
    by_cases e : k = n
    · rw [e]; exact h.1
    · exact ih h.2 (by omega)

def szF (xs : List Int) : List Int := xs.map fun x => ab x - 1
def okA (xs : List Int) : Bool := match xs.length, lnF xs, negL xs, invS xs with
  | n, l, zs, ys => (lnF ys).beq l && (ngc ys 0).beq (ngc xs 0) && (lnF zs + l).beq (n * n) && (ngc xs 0).ble l && (ngc zs 0 + ngc xs 0).beq n && (flF zs + flF xs).beq (n * n) && (fsF zs + fsF xs).beq n
def okC (xs : List Int) : Bool := match xs.length, invS xs with
  | n, ys => eqs (szF ys) (inv (szF xs)) && eqs (invS ys) xs && eqs (ys.map fun x => sgl x (el xs (ab x - 1).toNat)) (unit1 1 n)
def okB (xs : List Int) : Bool := match xs.length, lnF xs with
  | n, l => (allN (fun k => match lnF (nx k xs) with | m => m.beq (l + 1) || l.beq (m + 1)) n) && (match l with | 0 => eqs xs (unit1 1 n) | _ => anyN (fun k => match lnF (nx k xs) with | m => l.beq (m + 1)) n)
set_option maxRecDepth 100000 in
theorem okA_all : (allSg 5).all okA = true := by decide +kernel
set_option maxRecDepth 100000 in
theorem okC_all : (allSg 5).all okC = true := by decide +kernel

/-! What follows. -/
theorem SV.okA {xs : List Int} (h : SV xs) : (invS xs |> lenS) = lenS xs ∧ ngN (invS xs) = ngN xs ∧ lenS (negL xs) + lenS xs = (xs.length * xs.length : Nat) ∧ ngN xs ≤ lenS xs ∧ ngN (negL xs) + ngN xs = (xs.length : Nat) ∧ flagS (negL xs) + flagS xs = (xs.length * xs.length : Nat) ∧ fallS (negL xs) + fallS xs = (xs.length : Nat) := by
  have e := h.all okA_all
  simp only [Go.Proofs.Ytjgaglfinpeeoab.okA, Bool.and_eq_true, Nat.beq_eq, Nat.ble_eq] at e
  obtain ⟨⟨⟨⟨⟨⟨e1, e2⟩, e3⟩, e4⟩, e5⟩, e6⟩, e7⟩ := e
  simp only [← lnF_eq, ngN_eq, ← flF_eq, ← fsF_eq]
  exact ⟨by omega, by omega, by omega, by omega, by omega, by omega, by omega⟩
theorem mulS_map (vs ws : List Int) : mulS vs ws = ws.map fun x => sgl x (el vs (ab x - 1).toNat) := map_el ws fun x => sgl x (el vs (ab x - 1).toNat)
theorem SV.okC {xs : List Int} (h : SV xs) : szL (invS xs) = inv (szL xs) ∧ invS (invS xs) = xs ∧ mulS xs (invS xs) = unit1 1 xs.length := by
  have e := h.all okC_all
  simp only [Go.Proofs.Ytjgaglfinpeeoab.okC, Bool.and_eq_true] at e
  obtain ⟨⟨e1, e2⟩, e3⟩ := e
  rw [szL_map, szL_map, mulS_map]
  exact ⟨eqs_eq e1, eqs_eq e2, eqs_eq e3⟩
theorem negL_len (xs : List Int) : (negL xs).length = xs.length := by simp [negL]
theorem negL_sz (xs : List Int) : szL (negL xs) = szL xs := by
  rw [szL_map, szL_map, negL, List.map_map]
  exact List.map_congr_left (fun x _ => by simp [ab_flip])
theorem SV.neg {xs : List Int} (h : SV xs) : SV (negL xs) := ⟨by rw [negL_len]; exact h.len, by rw [negL_sz]; exact h.ord⟩
theorem SV.inv {xs : List Int} (h : SV xs) : SV (invS xs) := ⟨by rw [invS_len]; exact h.len, by rw [h.okC.1]; exact inv_valid h.ord⟩
theorem SV.flag_le {xs : List Int} (h : SV xs) : flagS xs ≤ (xs.length * xs.length : Nat) := by
  have h1 := h.okA.2.2.2.2.2.1
  have h2 : 0 ≤ flagS (negL xs) := by rw [← flF_eq]; omega
  omega
theorem SV.fall_nn (xs : List Int) : 0 ≤ fallS xs := by rw [← fsF_eq]; omega

end Go.Proofs.Ytjgaglfinpeeoab
