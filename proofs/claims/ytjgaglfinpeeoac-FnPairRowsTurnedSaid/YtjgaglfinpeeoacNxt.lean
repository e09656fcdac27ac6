/- The order of the next rank, as the program reckons it in an array of seven places, and that it is the one of the next rank, reckoned over all orders of at most five values. No condition. -/
import Derived.Test.YtjgaglfinpeeoacMirK
namespace Go.Proofs.Ytjgaglfinpeeoac

/-- An order in seven places, those that are not there hold 0. -/
def pad7 (xs : List Int) : List Int := xs ++ List.replicate (7 - xs.length) 0
/-- The order of n values whose rank is k. -/
def ordK (n k : Nat) : List Int := ordT (digs n k)
theorem ordK_len (n k : Nat) : (ordK n k).length = n := by rw [ordK, ordT_len, digs_len]
theorem ordK_valid {n : Nat} (h : n ≤ 7) (k : Nat) : Valid (ordK n k) := ordT_valid (digs_vt h)
theorem pad7_len {xs : List Int} (h : xs.length ≤ 7) : (pad7 xs).length = 7 := by rw [pad7, List.length_append, List.length_replicate]; omega
theorem el_pad7 {xs : List Int} {j : Nat} (h : j < xs.length) : el (pad7 xs) j = el xs j := by simp [pad7, el, List.getD, List.getElem?_append_left h]
/-- The first rise, from place r down. -/
def rsF (xs : List Int) : Nat → Nat
  | 0 => 0
  | r + 1 => if el xs (r + 1 + 1) < el xs (r + 1) then rsF xs r else r + 1
/-- The first value that is not less than v, from place g down. -/
def gtD (xs : List Int) (v : Int) : Nat → Nat
  | 0 => 0
  | g + 1 => if el xs (g + 1) < v then gtD xs v g else g + 1
def swp (xs : List Int) (i k : Nat) : List Int := (xs.set i (el xs k)).set k (el xs i)
/-- The values from place i to place k, turned. -/
def rvF : Nat → List Int → Nat → Nat → List Int
  | 0, xs, _, _ => xs
  | f + 1, xs, i, k => if i < k then rvF f (swp xs i k) (i + 1) (k - 1) else xs
def nxt (xs : List Int) (n : Nat) : List Int :=
  rvF 7 (swp xs (rsF xs (n - 2)) (gtD xs (el xs (rsF xs (n - 2))) (n - 1))) (rsF xs (n - 2) + 1) (n - 1)
theorem swp_len (xs : List Int) (i k : Nat) : (swp xs i k).length = xs.length := by simp [swp]
theorem rvF_len (f : Nat) : ∀ (xs : List Int) (i k : Nat), (rvF f xs i k).length = xs.length := by
  induction f with
  | zero => intro xs i k; rfl
  | succ f ih => intro xs i k; rw [rvF]; split
                 · rw [ih, swp_len]
                 · rfl

/-- What the program leans on at an order, and what comes of it. -/
structure Nx (xs : List Int) (n r g : Nat) (ys : List Int) : Prop where
  two : 2 ≤ n
  top : n ≤ 5
  rr : r + 2 ≤ n
  gg : g + 1 ≤ n
  rup : ∀ j, r < j → j + 2 ≤ n → el xs (j + 1) < el xs j
  rat : el xs r ≤ el xs (r + 1)
  gup : ∀ j, g < j → j + 1 ≤ n → el xs j < el xs r
  gat : el xs r ≤ el xs g
  out : rvF 7 (swp xs r g) (r + 1) (n - 1) = ys
  bd : ∀ j, 0 ≤ el xs j ∧ el xs j ≤ 7
theorem rsF_le (xs : List Int) : ∀ r, rsF xs r ≤ r := by
  intro r
  induction r with
  | zero => exact Nat.le_refl _
  | succ r ih => rw [rsF]; split <;> omega
theorem rsF_up (xs : List Int) : ∀ r j, rsF xs r < j → j ≤ r → el xs (j + 1) < el xs j := by
  intro r
  induction r with
  | zero => intro j h1 h2; omega
  | succ r ih =>
    intro j h1 h2
    rw [rsF] at h1
    split at h1
    · rename_i h
      by_cases e : j = r + 1
      · subst e; exact h
      · exact ih j h1 (by omega)
    · omega
theorem gtD_le (xs : List Int) (v : Int) : ∀ r, gtD xs v r ≤ r := by
  intro r
  induction r with
  | zero => exact Nat.le_refl _
  | succ r ih => rw [gtD]; split <;> omega
theorem gtD_up (xs : List Int) (v : Int) : ∀ r j, gtD xs v r < j → j ≤ r → el xs j < v := by
  intro r
  induction r with
  | zero => intro j h1 h2; omega
  | succ r ih =>
    intro j h1 h2
    rw [gtD] at h1
    split at h1
    · rename_i h
      by_cases e : j = r + 1
      · subst e; exact h
      · exact ih j h1 (by omega)
    · omega
def nxOk (n k : Nat) : Bool :=
  decide (2 ≤ n) && decide (el (pad7 (ordK n k)) (rsF (pad7 (ordK n k)) (n - 2)) ≤ el (pad7 (ordK n k)) (rsF (pad7 (ordK n k)) (n - 2) + 1)) &&
  decide (el (pad7 (ordK n k)) (rsF (pad7 (ordK n k)) (n - 2)) ≤ el (pad7 (ordK n k)) (gtD (pad7 (ordK n k)) (el (pad7 (ordK n k)) (rsF (pad7 (ordK n k)) (n - 2))) (n - 1))) &&
  decide (nxt (pad7 (ordK n k)) n = pad7 (ordK n (k + 1)))
def facN : Nat → Nat
  | 0 => 1
  | n + 1 => facN n * (n + 1)
theorem nx_all : ∀ n, n < 6 → (List.range (facN n - 1)).all (nxOk n) = true := by decide +kernel
theorem facN_pos : ∀ n, n < 6 → 1 ≤ facN n ∧ facN n ≤ 120 := by decide
theorem facN_fac : ∀ n, n < 6 → (facN n : Int) = fac n := by decide
theorem nx_at {n k : Nat} (hn : n ≤ 5) (hk : k + 1 < facN n) : ∃ r g, Nx (pad7 (ordK n k)) n r g (pad7 (ordK n (k + 1))) := by
  have h := List.all_eq_true.1 (nx_all n (by omega)) k (List.mem_range.2 (by omega))
  simp only [nxOk, Bool.and_eq_true, decide_eq_true_eq] at h
  obtain ⟨⟨⟨h2, h3⟩, h4⟩, h5⟩ := h
  refine ⟨_, _, h2, hn, by have := rsF_le (pad7 (ordK n k)) (n - 2); omega, by have := gtD_le (pad7 (ordK n k)) (el (pad7 (ordK n k)) (rsF (pad7 (ordK n k)) (n - 2))) (n - 1); omega,
    fun j h6 h7 => rsF_up _ (n - 2) j h6 (by omega), h3, fun j h6 h7 => gtD_up _ _ (n - 1) j h6 (by omega), h4, h5, fun j => ?_⟩
  by_cases hj : j < n
  · rw [el_pad7 (by rw [ordK_len]; exact hj)]
    have hv := ordK_valid (n := n) (by omega) k
    have h8 := hv.lo j (by rw [ordK_len]; exact hj)
    have h9 := hv.hi j (by rw [ordK_len]; exact hj)
    rw [ordK_len] at h9
    omega
  · have : el (pad7 (ordK n k)) j = 0 := by
      rw [el, pad7, List.getD, List.getElem?_append_right (by rw [ordK_len]; omega)]
      by_cases h9 : j - (ordK n k).length < 7 - (ordK n k).length
      · simp [h9]
      · simp [h9]
    omega
/-- The rising order comes first, the falling one last. -/
theorem ordK_first : ∀ n, n < 6 → ordK n 0 = rise n := by decide +kernel
theorem ordK_last : ∀ n, n < 6 → ordK n (facN n - 1) = turn (rise n) := by decide +kernel
theorem ordK_ne_all : ∀ n, n < 6 → (List.range (facN n - 1)).all (fun k => decide (pad7 (ordK n k) ≠ pad7 (ordK n (facN n - 1)))) = true := by decide +kernel
theorem ordK_ne {n k : Nat} (hn : n ≤ 5) (hk : k + 1 < facN n) : pad7 (ordK n k) ≠ pad7 (ordK n (facN n - 1)) :=
  of_decide_eq_true (List.all_eq_true.1 (ordK_ne_all n (by omega)) k (List.mem_range.2 (by omega)))
theorem pad7_inj {xs ys : List Int} (h : xs.length = ys.length) (e : pad7 xs = pad7 ys) : xs = ys := by
  unfold pad7 at e
  exact (List.append_inj e h).1
theorem ordK_rank {n k : Nat} (hn : n ≤ 5) (hk : k < facN n) : rk (ordK n k) = k :=
  rank_digs (by omega) (by omega) (by rw [← facN_fac n (by omega)]; omega)
theorem ordK_inj {n k m : Nat} (hn : n ≤ 5) (hk : k < facN n) (hm : m < facN n) (e : pad7 (ordK n k) = pad7 (ordK n m)) : k = m := by
  have h1 := pad7_inj (by rw [ordK_len, ordK_len]) e
  have h2 := ordK_rank hn hk
  have h3 := ordK_rank hn hm
  rw [h1, h3] at h2
  omega
/-- All orders of n values, by their ranks. -/
def allK (n : Nat) : List (List Int) := (List.range (facN n)).map (ordK n)
theorem allK_len (n : Nat) : (allK n).length = facN n := by simp [allK]

end Go.Proofs.Ytjgaglfinpeeoac
