/- Tables and their sums, in the program and in its model: lesserBehind, sum, TableOf, InversionsOf, SignOf. Condition: the list's cells can be read; of sum: few small numbers. -/
import Derived.Test.YtepikmkkbecdaabOrd1I
import Derived.Test.YtepikmkkbecdaabOrd1S
namespace Go.Proofs.Ytepikmkkbecdaab
open Go.RowKit

set_option maxHeartbeats 1000000 in
theorem lesser_any (ao : Option Addr) (n cap : Nat) (xs : List Int) (w : World) (h : Sl w ao n cap xs) (h7 : n ≤ 1000) :
    Calls Try.prog 73 #[.slice ao n cap] w (Made w (table xs)) := by
  have hbig := h.big
  have hlen := hid h.len
  go_enter Try.func73, Try.ntmps73
  go_wp2
  go_loopw [3, 4] (fun v i wr => ∃ (k : Nat) (ao' : Option Addr) (cap' : Nat), k ≤ n ∧ v = .slice ao' k cap' ∧ i = .int .i64 k ∧ Below w.heap.size w wr ∧ Own wr w.heap.size (.slice ao' k cap') ((List.range k).map (lb xs)))
    (fun v _ _ => n - lenOf v)
  case atStart => exact ⟨0, _, _, Nat.zero_le _, rfl, rfl, (Below.refl _ _).alloc (Nat.le_refl _) _, own_lit w⟩
  case round =>
    obtain ⟨k, ao', cap', hk, rfl, rfl, hbr, ho⟩ := hrel
    by_cases hlt : k < n
    · obtain ⟨b, off, rfl, hblt, hc⟩ := h.row (by omega)
      have hl : ((List.range k).map (lb xs)).length ≤ 2000000 := by rw [map_range_len]; omega
      have hcc := hid hc
      clear hc
      go_wp2
      obtain ⟨wo, hwo⟩ : ∃ wo : World, wo = wr := ⟨_, rfl⟩
      subst hwo
      go_loopw [5, 6] (fun c j wr => ∃ (t : Nat), t ≤ n - 1 - k ∧ c = .int .i64 (lbP xs k t) ∧ j = .int .i64 ((k : Int) + 1 + t) ∧ Below w.heap.size w wr ∧ Own wr w.heap.size (.slice ao' k cap') ((List.range k).map (lb xs)))
        (fun _ j _ => n - (intOf j).toNat)
      case atStart => exact ⟨0, Nat.zero_le _, rfl, by simp, hbr, ho⟩
      case round =>
        obtain ⟨t, ht, rfl, rfl, hbr, ho⟩ := hrel
        have hbd := lbP_bd xs k t
        have hsz := hbr.size
        by_cases htl : t < n - 1 - k
        · have hcell1 := (hbr.cell (p := ⟨b, off + (k + 1 + t), none⟩) hblt).trans (hcc.out (k + 1 + t) (by omega))
          have hcell2 := (hbr.cell (p := ⟨b, off + k, none⟩) hblt).trans (hcc.out k hlt)
          have hi1 : (k : Int) + 1 + t < n := by omega
          go_wp2
          go_quiet (fail)
          go_wp2
          · have he : el xs (k + 1 + t) < el xs k := by assumption
            go_roundw
            case rel => exact ⟨t + 1, by omega, by rw [lbP_yes he], by go_num, drewN_below hbr _, ho⟩
            case measure => simp [intOf]; omega
          · have he : el xs k ≤ el xs (k + 1 + t) := by assumption
            go_roundw
            case rel => exact ⟨t + 1, by omega, by rw [lbP_no he], by go_num, drewN_below hbr _, ho⟩
            case measure => simp [intOf]; omega
        · obtain rfl : t = n - 1 - k := by omega
          have hi1 : ¬ (k : Int) + 1 + (n - 1 - k : Nat) < n := by omega
          go_wp2_with (at_builtin; refine app_int _ _ rfl _ _ rfl w.heap.size _ _ rfl ho rfl hl hsz ?_)
          intro u' w' ho' hg'
          have hb' := below_app hbr ho hg'
          have e : lbP xs k (n - 1 - k) = lb xs k := by rw [lb, hlen.out]
          rw [e] at ho'
          obtain ⟨ao', cap', rfl, hs'⟩ := ho'.sl
          rw [← map_range_succ (lb xs), map_range_len] at *
          clear e hbd
          go_wp2
          go_roundw
          case rel => exact ⟨k + 1, _, _, by omega, rfl, by go_num, hb', ho'⟩
          case measure => simp [lenOf]; omega
    · obtain rfl : k = n := by omega
      go_wp2
      go_ret
      refine ⟨_, rfl, ?_, hbr⟩
      rw [table, hlen.out]
      exact ho

set_option maxHeartbeats 1000000 in
theorem sum_any (ao : Option Addr) (n cap : Nat) (xs : List Int) (w : World) (h : Sl w ao n cap xs) (h7 : n ≤ 1000) (hs : Hid (∀ j, j < xs.length → 0 ≤ el xs j ∧ el xs j ≤ (1000 : Nat))) :
    Calls Try.prog 72 #[.slice ao n cap] w (Says w (.int .i64 (sumL xs))) := by
  have hbig := h.big
  have hlen := hid h.len
  go_enter Try.func72, Try.ntmps72
  go_wp2
  go_loopw [3, 4] (fun v i wr => ∃ (k : Nat), k ≤ n ∧ v = .int .i64 (sumTo xs k) ∧ i = .int .i64 k ∧ Below w.heap.size w wr)
    (fun _ i _ => n - (intOf i).toNat)
  case atStart => exact ⟨0, Nat.zero_le _, rfl, rfl, Below.refl _ _⟩
  case round =>
    obtain ⟨k, hk, rfl, rfl, hbr⟩ := hrel
    have hbd := sumTo_bd hs.out k (by rw [hlen.out]; exact hk)
    have hb2 : sumTo xs k ≤ 1000000 := Int.le_trans hbd.2 (by have : (k : Int) * (1000 : Nat) ≤ 1000 * (1000 : Nat) := Int.mul_le_mul_of_nonneg_right (by omega) (by omega); omega)
    have hb1 := hbd.1
    clear hbd
    by_cases hlt : k < n
    · obtain ⟨b, off, rfl, hblt, hc⟩ := h.row (by omega)
      have hcell := (hbr.cell (p := ⟨b, off + k, none⟩) hblt).trans (hc k hlt)
      have he := hs.out k (by rw [hlen.out]; exact hlt)
      have he0 := he.1
      have he1 := he.2
      clear hc he
      go_wp2
      go_roundw
      case rel => exact ⟨k + 1, by omega, by rw [sumTo], by go_num, hbr⟩
      case measure => simp [intOf]; omega
    · obtain rfl : k = n := by omega
      go_wp2
      go_ret
      exact says_int (by rw [sumL, hlen.out]) hbr

theorem table_small {xs : List Int} (h : Valid xs) : ∀ j, j < (table xs).length → 0 ≤ el (table xs) j ∧ el (table xs) j ≤ (1000 : Nat) := fun j hj => by
  have := table_bd xs j hj
  have := h.len
  omega

end Go.Proofs.Ytepikmkkbecdaab
