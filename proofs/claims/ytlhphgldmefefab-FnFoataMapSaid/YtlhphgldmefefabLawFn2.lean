/- More of the laws' own small functions: a number in a list, ascending lists, products. Condition: the lists' cells can be read. -/
import Derived.Test.YtlhphgldmefefabLawFn
import Derived.Test.YtlhphgldmefefabRank
import Derived.Test.YtlhphgldmefefabFinMajor
namespace Go.Proofs.Ytlhphgldmefefab
open Go.RowKit

set_option maxHeartbeats 400000 in
theorem isIn_any (ao : Option Addr) (n cap : Nat) (xs : List Int) (x : Int) (w : World) (h : Sl w ao n cap xs) :
    Calls Try.prog 30 #[.slice ao n cap, .int .i64 x] w (Says w (.bool (decide (x ∈ xs)))) := by
  have hbig := h.big
  have hlen := hid h.len
  go_enter Try.func30, Try.ntmps30
  go_wp2
  go_loopw [5] (fun i wr => ∃ k : Nat, k ≤ n ∧ i = .int .i64 k ∧ Below w.heap.size w wr ∧ Hid (∀ j, j < k → el xs j ≠ x))
    (fun i _ => n - (intOf i).toNat)
  case atStart => exact ⟨0, Nat.zero_le _, rfl, Below.refl _ _, fun j hj => by omega⟩
  case round =>
    obtain ⟨k, hk, rfl, hbr, hm⟩ := hrel
    by_cases hlt : k < n
    · obtain ⟨b, off, rfl, hblt, hc⟩ := h.row (by omega)
      have hcell := (hbr.cell (p := ⟨b, off + k, none⟩) hblt).trans (hc k hlt)
      clear hc
      by_cases he : el xs k = x
      · have hin : Hid (x ∈ xs) := by
          have : el xs k ∈ xs := el_mem (by rw [hlen.out]; exact hlt)
          rwa [he] at this
        have hb : (el xs k == x) = true := by simpa using he
        clear he
        go_wp2
        go_ret
        exact says_true hin.out hbr
      · have hb : (el xs k == x) = false := by simpa using he
        have He := hid he
        clear he
        go_wp2
        go_roundw
        case rel => exact ⟨k + 1, by omega, by go_num, hbr, upto_step hm.out He.out⟩
        case measure => simp [intOf]; omega
    · obtain rfl : k = n := by omega
      go_wp2
      go_ret
      refine says_false (fun hin => ?_) hbr
      obtain ⟨j, hj, e⟩ := List.mem_iff_getElem.1 hin
      exact hm.out j (by rw [hlen.out] at hj; exact hj) (by rw [el_lt hj]; exact e)

def Asc (xs : List Int) : Prop := ∀ i, i < xs.length → 0 < i → el xs (i - 1) < el xs i
instance (xs : List Int) : Decidable (Asc xs) := inferInstanceAs (Decidable (∀ i, i < xs.length → 0 < i → el xs (i - 1) < el xs i))

theorem mem_dsP (xs : List Int) (i : Nat) : ∀ k, ((i : Int) ∈ dsP xs k) ↔ (i < k ∧ el xs (i + 1) < el xs i) := by
  intro k
  induction k with
  | zero => simp [dsP]
  | succ k ih =>
    by_cases e : el xs (k + 1) < el xs k
    · rw [dsP_yes e, List.mem_append, ih, List.mem_singleton]
      constructor
      · rintro (⟨a, b⟩ | a)
        · exact ⟨by omega, b⟩
        · obtain rfl : i = k := by omega
          exact ⟨by omega, e⟩
      · rintro ⟨a, b⟩
        by_cases ei : i = k
        · right; omega
        · left; exact ⟨by omega, b⟩
    · rw [dsP_no (by omega), ih]
      constructor
      · rintro ⟨a, b⟩; exact ⟨by omega, b⟩
      · rintro ⟨a, b⟩
        refine ⟨?_, b⟩
        rcases Nat.lt_or_ge i k with h | h
        · exact h
        · obtain rfl : i = k := by omega
          exact absurd b e
theorem mem_desc {xs : List Int} {i : Nat} (h : i + 1 < xs.length) : ((i : Int) ∈ desc xs) ↔ el xs (i + 1) < el xs i := by
  rw [desc, mem_dsP]
  constructor
  · exact fun a => a.2
  · exact fun a => ⟨by omega, a⟩

theorem opp_fall {xs : List Int} (hv : Valid xs) {i : Nat} (h : i + 1 < xs.length) : (decide ((i : Int) ∈ desc xs) == decide ((i : Int) ∈ desc (opp xs))) = false := by
  have h1 := mem_desc h
  have h2 := mem_desc (xs := opp xs) (i := i) (by rw [opp_len]; exact h)
  rw [decide_eq_decide.2 h1, decide_eq_decide.2 h2]
  rcases opp_step hv h with ⟨a, b⟩ | ⟨a, b⟩
  · rw [decide_eq_true a, decide_eq_false (by omega)]; rfl
  · rw [decide_eq_false (by omega), decide_eq_true b]; rfl

theorem opp_opp {xs : List Int} : opp (opp xs) = xs := by
  refine ext_el (by rw [opp_len, opp_len]) (fun j hj => ?_)
  rw [opp_len, opp_len] at hj
  rw [el_opp (by rw [opp_len]; exact hj), el_opp hj, opp_len]
  omega

end Go.Proofs.Ytlhphgldmefefab
