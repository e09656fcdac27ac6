/- Places above, fixed places, records and shifts, in the program and in its model. Condition: the list's cells can be read. -/
import Derived.Test.YtlhphgldmefefacOrd1I
import Derived.Test.YtlhphgldmefefacOrd1S
import Derived.Test.YtlhphgldmefefacMirC
namespace Go.Proofs.Ytlhphgldmefefac
open Go.RowKit

set_option maxHeartbeats 1000000 in
theorem records_any (ao : Option Addr) (n cap : Nat) (xs : List Int) (w : World) (h : Sl w ao n cap xs) (h7 : n ≤ 1000) :
    Calls Try.prog 41 #[.slice ao n cap] w (Made w (records xs)) := by
  have hbig := h.big
  have hlen := hid h.len
  go_enter Try.func41, Try.ntmps41
  go_wp2
  go_loopw [3, 4, 5] (fun v g i wr => ∃ (k m : Nat) (ao' : Option Addr) (cap' : Nat), k ≤ n ∧ v = .slice ao' m cap' ∧ g = .int .i64 (mxP xs k) ∧ i = .int .i64 k ∧ Below w.heap.size w wr ∧ Own wr w.heap.size (.slice ao' m cap') (rcP xs k))
    (fun _ _ i _ => n - (intOf i).toNat)
  case atStart => exact ⟨0, _, _, _, Nat.zero_le _, rfl, rfl, rfl, (Below.refl _ _).alloc (Nat.le_refl _) _, own_lit w⟩
  case round =>
    obtain ⟨k, m, ao', cap', hk, rfl, rfl, rfl, hbr, ho⟩ := hrel
    have hsz := hbr.size
    have hl : (rcP xs k).length ≤ 2000000 := by have := rcP_len xs k; omega
    by_cases hlt : k < n
    · obtain ⟨b, off, rfl, hblt, hc⟩ := h.row (by omega)
      have hcell := (hbr.cell (p := ⟨b, off + k, none⟩) hblt).trans (hc k hlt)
      have hi1 : (k : Int) < n := by omega
      have hcc := hid hc
      clear hc
      by_cases he : mxP xs k < el xs k
      · have He := hid he
        go_wp2_with (at_builtin; refine app_int _ _ rfl _ _ rfl w.heap.size _ _ rfl ho rfl hl hsz ?_)
        intro u' w' ho' hg'
        have hb' := below_app hbr ho hg'
        rw [← rcP_yes He.out] at ho'
        have hl' := hid (rfl : (rcP xs (k + 1)).length = (rcP xs (k + 1)).length)
        obtain ⟨ao', cap', rfl, hs'⟩ := ho'.sl
        have hcell' := (hb'.cell (p := ⟨b, off + k, none⟩) hblt).trans (hcc.out k hlt)
        go_wp2
        go_roundw
        case rel => exact ⟨k + 1, _, _, _, by omega, rfl, by rw [mxP_yes He.out], by go_num, hb', ho'⟩
        case measure => simp [intOf]; omega
      · have he' : el xs k ≤ mxP xs k := by omega
        have He := hid he'
        go_wp2
        go_roundw
        case rel => exact ⟨k + 1, _, _, _, by omega, rfl, by rw [mxP_no He.out], by go_num, hbr, by rw [rcP_no He.out]; exact ho⟩
        case measure => simp [intOf]; omega
    · obtain rfl : k = n := by omega
      go_wp2
      go_ret
      refine ⟨_, rfl, ?_, hbr⟩
      rw [records, hlen.out]
      exact ho

theorem max_lt (a b : Int) : (if a < b then b else a) = max a b := by rw [Int.max_def]; split <;> split <;> omega

end Go.Proofs.Ytlhphgldmefefac
