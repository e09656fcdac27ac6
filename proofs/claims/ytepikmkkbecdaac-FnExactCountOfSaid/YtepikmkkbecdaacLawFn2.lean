/- More of the laws' own small functions: a number in a list, ascending lists, products. Condition: the lists' cells can be read. -/
import Derived.Test.YtepikmkkbecdaacLawFn
import Derived.Test.YtepikmkkbecdaacRank
import Derived.Test.YtepikmkkbecdaacFinMajor
namespace Go.Proofs.Ytepikmkkbecdaac
open Go.RowKit

def Asc (xs : List Int) : Prop := ∀ i, i < xs.length → 0 < i → el xs (i - 1) < el xs i
instance (xs : List Int) : Decidable (Asc xs) := inferInstanceAs (Decidable (∀ i, i < xs.length → 0 < i → el xs (i - 1) < el xs i))

set_option maxHeartbeats 400000 in
theorem ascends_any (ao : Option Addr) (n cap : Nat) (xs : List Int) (w : World) (h : Sl w ao n cap xs) :
    Calls Try.prog 27 #[.slice ao n cap] w (Says w (.bool (decide (Asc xs)))) := by
  have hbig := h.big
  have hlen := hid h.len
  go_enter Try.func27, Try.ntmps27
  go_wp2
  go_loopw [3] (fun i wr => ∃ k : Nat, i = .int .i64 ((k : Int) + 1) ∧ k ≤ n ∧ Below w.heap.size w wr ∧ Hid (∀ j, j < k + 1 → 0 < j → j < n → el xs (j - 1) < el xs j))
    (fun i _ => n + 1 - (intOf i).toNat)
  case atStart => exact ⟨0, rfl, Nat.zero_le _, Below.refl _ _, fun j hj h0 => by omega⟩
  case round =>
    obtain ⟨k, rfl, hk, hbr, hm⟩ := hrel
    by_cases hlt : k + 1 < n
    · obtain ⟨b, off, rfl, hblt, hc⟩ := h.row (by omega)
      have hcell := (hbr.cell (p := ⟨b, off + k, none⟩) hblt).trans (hc k (by omega))
      have hcell2 := (hbr.cell (p := ⟨b, off + (k + 1), none⟩) hblt).trans (hc (k + 1) hlt)
      have hi1 : (k : Int) + 1 < n := by omega
      have hi2 : (k : Int) < n := by omega
      clear hc
      by_cases he : el xs k < el xs (k + 1)
      · have he2 : ¬ el xs (k + 1) ≤ el xs k := by omega
        have He := hid he
        clear he
        go_wp2_with fail
        go_quiet (fail)
        go_wp2
        go_roundw
        case rel =>
          refine ⟨k + 1, by go_num, by omega, drewN_below hbr _, fun j hj h0 hjn => ?_⟩
          by_cases e : j = k + 1
          · rw [e]; exact He.out
          · exact hm.out j (by omega) h0 hjn
        case measure => simp [intOf]; omega
      · have he2 : el xs (k + 1) ≤ el xs k := by omega
        have hno : Hid (¬ Asc xs) := fun a => he (a (k + 1) (by rw [hlen.out]; exact hlt) (by omega))
        clear he
        go_wp2_with fail
        go_quiet (fail)
        go_wp2
        go_ret
        exact says_false hno.out (drewN_below hbr _)
    · have hi : ¬ (k : Int) + 1 < n := by omega
      go_wp2
      go_ret
      exact says_true (fun i hi h0 => hm.out i (by rw [hlen.out] at hi; omega) h0 (by rw [hlen.out] at hi; exact hi)) hbr

theorem mem_dsP (xs : List Int) (i : Nat) : ∀ k, ((i : Int) ∈ dsP xs k) ↔ (i < k ∧ el xs (i + 1) < el xs i) := by
  intro k
  induction k with
  | zero => simp [dsP]
  | succ k ih =>
    by_cases e : el xs (k + 1) < el xs k
    · rw [dsP_yes e, List.mem_append, ih, List.mem_singleton]
      constructor
      · rintro (⟨a, b⟩ | a)
        · exact ⟨by omega, b⟩
        · obtain rfl : i = k := by omega
          exact ⟨by omega, e⟩
      · rintro ⟨a, b⟩
        by_cases ei : i = k
        · right; omega
        · left; exact ⟨by omega, b⟩
    · rw [dsP_no (by omega), ih]
      constructor
      · rintro ⟨a, b⟩; exact ⟨by omega, b⟩
      · rintro ⟨a, b⟩
        refine ⟨?_, b⟩
        rcases Nat.lt_or_ge i k with h | h
        · exact h
        · obtain rfl : i = k := by omega
          exact absurd b e
theorem mem_desc {xs : List Int} {i : Nat} (h : i + 1 < xs.length) : ((i : Int) ∈ desc xs) ↔ el xs (i + 1) < el xs i := by
  rw [desc, mem_dsP]
  constructor
  · exact fun a => a.2
  · exact fun a => ⟨by omega, a⟩

theorem opp_fall {xs : List Int} (hv : Valid xs) {i : Nat} (h : i + 1 < xs.length) : (decide ((i : Int) ∈ desc xs) == decide ((i : Int) ∈ desc (opp xs))) = false := by
  have h1 := mem_desc h
  have h2 := mem_desc (xs := opp xs) (i := i) (by rw [opp_len]; exact h)
  rw [decide_eq_decide.2 h1, decide_eq_decide.2 h2]
  rcases opp_step hv h with ⟨a, b⟩ | ⟨a, b⟩
  · rw [decide_eq_true a, decide_eq_false (by omega)]; rfl
  · rw [decide_eq_false (by omega), decide_eq_true b]; rfl

theorem opp_opp {xs : List Int} : opp (opp xs) = xs := by
  refine ext_el (by rw [opp_len, opp_len]) (fun j hj => ?_)
  rw [opp_len, opp_len] at hj
  rw [el_opp (by rw [opp_len]; exact hj), el_opp hj, opp_len]
  omega

end Go.Proofs.Ytepikmkkbecdaac
