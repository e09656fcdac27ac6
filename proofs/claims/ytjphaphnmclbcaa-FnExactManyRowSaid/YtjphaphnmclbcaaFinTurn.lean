/- Turned orders: they are orders, and they fall where the order rises, from the other end; descents ascend. No condition. -/
import Derived.Test.YtjphaphnmclbcaaLawFn2
namespace Go.Proofs.Ytjphaphnmclbcaa

theorem turn_len (xs : List Int) : (turn xs).length = xs.length := map_range_len _
theorem el_turn {xs : List Int} {j : Nat} (h : j < xs.length) : el (turn xs) j = el xs (xs.length - 1 - j) := el_map h
theorem turn_valid {xs : List Int} (h : Valid xs) : Valid (turn xs) := by
  refine ⟨by rw [turn_len]; exact h.len, fun j hj => ?_, fun j hj => ?_, fun i j hij hj => ?_⟩
  · rw [turn_len] at hj
    rw [el_turn hj]
    exact h.lo _ (by omega)
  · rw [turn_len] at hj ⊢
    rw [el_turn hj]
    exact h.hi _ (by omega)
  · rw [turn_len] at hj
    rw [el_turn hj, el_turn (by omega)]
    exact fun e => h.ne (xs.length - 1 - j) (xs.length - 1 - i) (by omega) (by omega) e.symm
theorem turn_turn {xs : List Int} : turn (turn xs) = xs := by
  refine ext_el (by rw [turn_len, turn_len]) (fun j hj => ?_)
  rw [turn_len, turn_len] at hj
  rw [el_turn (by rw [turn_len]; exact hj), turn_len, el_turn (by omega)]
  congr 1
  omega

theorem turn_fall {xs : List Int} (hv : Valid xs) {i : Nat} (h : i + 1 < xs.length) : (decide ((i : Int) ∈ desc xs) == decide (((xs.length : Int) - 2 - i) ∈ desc (turn xs))) = false := by
  have h1 := mem_desc h
  have e : (xs.length : Int) - 2 - i = ((xs.length - 2 - i : Nat) : Int) := by omega
  have h2 := mem_desc (xs := turn xs) (i := xs.length - 2 - i) (by rw [turn_len]; omega)
  rw [el_turn (by omega), el_turn (by omega), show xs.length - 1 - (xs.length - 2 - i + 1) = i by omega, show xs.length - 1 - (xs.length - 2 - i) = i + 1 by omega] at h2
  rw [e, decide_eq_decide.2 h1, decide_eq_decide.2 h2]
  have hne := hv.ne i (i + 1) (by omega) h
  rcases Int.lt_or_le (el xs (i + 1)) (el xs i) with a | a
  · rw [decide_eq_true a, decide_eq_false (by omega)]; rfl
  · rw [decide_eq_false (by omega), decide_eq_true (by omega)]; rfl

theorem el_app_lt {a : List Int} {x : Int} {j : Nat} (h : j < a.length) : el (a ++ [x]) j = el a j := by simp [el, List.getElem?_append_left h]
theorem el_app_eq {a : List Int} {x : Int} : el (a ++ [x]) a.length = x := by simp [el]

theorem asc_dsP (xs : List Int) : ∀ k, Asc (dsP xs k) := by
  intro k
  induction k with
  | zero => intro i hi _; simp [dsP] at hi
  | succ k ih =>
    rw [dsP]
    split
    · intro i hi h0
      rw [List.length_append, List.length_singleton] at hi
      by_cases e : i = (dsP xs k).length
      · rw [el_app_lt (by omega), e, el_app_eq]
        have := dsP_mem xs k _ (el_mem (xs := dsP xs k) (j := (dsP xs k).length - 1) (by omega))
        exact this.2
      · rw [el_app_lt (by omega), el_app_lt (by omega)]
        exact ih i (by omega) h0
    · exact ih
theorem asc_desc (xs : List Int) : Asc (desc xs) := asc_dsP xs _

end Go.Proofs.Ytjphaphnmclbcaa
