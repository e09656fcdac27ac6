/- Lines of circles, in the model and the program. Condition: the list's cells can be read. -/
import Derived.Test.YtlhphgldmefefacCir
import Derived.Test.YtlhphgldmefefacMirL
import Derived.Test.YtlhphgldmefefacFoI
namespace Go.Proofs.Ytlhphgldmefefac
open Go.RowKit

/-- Are the first t values of a circle at most x? -/
def greP (xs : List Int) (x : Int) (t : Nat) : Bool := (List.range t).all fun j => decide (itr xs x j ≤ x)
theorem greP_succ (xs : List Int) (x : Int) (t : Nat) : greP xs x (t + 1) = (greP xs x t && decide (itr xs x t ≤ x)) := by
  rw [greP, List.range_succ, List.all_append]; simp [greP]
theorem gre_eq (xs : List Int) (x : Int) : gre xs x = greP xs x (per xs x) := by
  rw [gre, cyc, List.all_map]; rfl
theorem tlP_len {xs : List Int} (h : Valid xs) : ∀ k, k ≤ xs.length → (tlP xs k).length ≤ k * xs.length := by
  intro k
  induction k with
  | zero => intro _; simp [tlP]
  | succ k ih =>
    intro hk
    have h1 := ih (by omega)
    have h2 := (per_spec h (x := (k : Int)) (by omega)).2.1
    have h3 : (cyc xs k).length = per xs k := by simp [cyc]
    rw [tlP, Nat.succ_mul]
    split
    · rw [List.length_append]; omega
    · omega
theorem toL_len {xs : List Int} (h : Valid xs) : (toL xs).length ≤ 49 := by
  have h1 := tlP_len h xs.length (Nat.le_refl _)
  have h2 := h.len
  have : xs.length * xs.length ≤ 7 * 7 := Nat.mul_le_mul h2 h2
  rw [toL]; omega

/-- The greatest of the first k + 1 numbers. -/
def mxI (zs : List Int) : Nat → Int
  | 0 => el zs 0
  | k + 1 => if mxI zs k < el zs (k + 1) then el zs (k + 1) else mxI zs k
theorem mxI_spec (zs : List Int) : ∀ k, (∀ j, j ≤ k → el zs j ≤ mxI zs k) ∧ ∃ j, j ≤ k ∧ el zs j = mxI zs k := by
  intro k
  induction k with
  | zero => exact ⟨fun j hj => by obtain rfl : j = 0 := by omega
                                  exact Int.le_refl _, 0, Nat.le_refl _, rfl⟩
  | succ k ih =>
    obtain ⟨h1, j0, h2, h3⟩ := ih
    rw [mxI]
    split
    · rename_i hc
      refine ⟨fun j hj => ?_, k + 1, Nat.le_refl _, rfl⟩
      by_cases e : j = k + 1
      · rw [e]; exact Int.le_refl _
      · have := h1 j (by omega); omega
    · rename_i hc
      refine ⟨fun j hj => ?_, j0, by omega, h3⟩
      by_cases e : j = k + 1
      · rw [e]; omega
      · exact h1 j (by omega)
theorem mx_gre {xs : List Int} (h : Valid xs) {x : Nat} (hx : x < xs.length) : decide (mxI (cyc xs x) ((cyc xs x).length - 1) = (x : Int)) = gre xs x := by
  obtain ⟨p1, _⟩ := per_spec h (x := (x : Int)) (by omega)
  have hl : (cyc xs x).length = per xs x := by simp [cyc]
  obtain ⟨h1, j0, h2, h3⟩ := mxI_spec (cyc xs x) ((cyc xs x).length - 1)
  have e0 : el (cyc xs x) 0 = x := by rw [cyc, el_map (by omega)]; rfl
  rw [Bool.eq_iff_iff, decide_eq_true_iff, gre, List.all_eq_true]
  constructor
  · intro e y hy
    obtain ⟨j, hj, rfl⟩ := List.mem_iff_getElem.1 hy
    have := h1 j (by omega)
    rw [el_lt hj, e] at this
    simpa using this
  · intro hall
    have hle := hall _ (el_mem (xs := cyc xs x) (j := j0) (by omega))
    rw [h3] at hle
    have := h1 0 (by omega)
    rw [e0] at this
    simp at hle
    omega

theorem arr_of {w : World} {B g n : Nat} {ys : List Int} (h : OwS w B g n n ys) : Arr w g 3 ys := by
  have hl := h.len
  rcases h.2 with ⟨h1, _⟩ | ⟨g', cap', cur, hv, hB, hg, h1, h2, h3, h4⟩
  · simp at h1
  · simp only [Value.slice.injEq, Option.some.injEq, Addr.mk.injEq, and_true, true_and] at hv
    obtain ⟨rfl, rfl⟩ := hv
    rw [List.take_of_length_le (by rw [Array.length_toList, h3]; exact Nat.le_refl _)] at h4
    rw [Arr, ← h4]
    simpa using hg
theorem ow_of {w : World} {B g n : Nat} {ys : List Int} (h : Arr w g 3 ys) (hB : B ≤ g) (hl : ys.length = n) (hn : n ≤ 1000) : OwS w B g n n ys :=
  ⟨by simp [hl], Or.inr ⟨g, n, _, rfl, hB, h, Nat.le_refl _, by unfold maxLen; omega, by simp [hl], List.take_of_length_le (by simp [hl])⟩⟩
theorem below_of_grown' {w w1 w2 : World} {row : Option Nat} (h : Below w.heap.size w w1) (hg : w1.grownBy w2 row) (hr : ∀ k, row = some k → w.heap.size ≤ k) : Below w.heap.size w w2 :=
  h.grown hg h.size hr

theorem arr_sl {w : World} {g n : Nat} {ys : List Int} (h : Arr w g 3 ys) (hl : ys.length = n) (h7 : n ≤ 7) : Sl w (some ⟨g, 0, none⟩) n n ys :=
  ⟨hl, Nat.le_refl _, by unfold maxLen; omega, fun _ => ⟨g, 0, rfl, h.lt, fun j hj => by rw [Nat.zero_add]; exact h.cell (by omega)⟩⟩

end Go.Proofs.Ytlhphgldmefefac
