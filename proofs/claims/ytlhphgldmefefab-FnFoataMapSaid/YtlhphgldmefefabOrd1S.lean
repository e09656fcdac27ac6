/- The model's functions of one order that make a list: rising, RisingOrder, inverse, InverseOrder, turned, TurnOrder, OppositeOrder. Condition: the list's cells can be read. -/
import Derived.Test.YtlhphgldmefefabOps
import Derived.Test.YtlhphgldmefefabValid
namespace Go.Proofs.Ytlhphgldmefefab
open Go.RowKit

theorem own_lit (w : World) : Own (w.alloc (.cells #[] 3)) w.heap.size (.slice (some ⟨w.heap.size, 0, none⟩) 0 0) [] :=
  World.ownsRow_lit w #[] 0 (Nat.le_refl _) (Nat.zero_le _) rfl

theorem own_lit_at {w : World} {B : Nat} (hB : B ≤ w.heap.size) : Own (w.alloc (.cells #[] 3)) B (.slice (some ⟨w.heap.size, 0, none⟩) 0 0) [] := (own_lit w).mono hB

set_option maxHeartbeats 1000000 in
theorem inverse_any (ao : Option Addr) (n cap : Nat) (xs : List Int) (w : World) (h : Sl w ao n cap xs) (hv : Valid xs) :
    Calls Try.prog 75 #[.slice ao n cap] w (Made w (inv xs)) := by
  have hbig := h.big
  have hlen := hid h.len
  have h7 : n ≤ 7 := by have := hv.len; rw [hlen.out] at this; exact this
  have Hv := hid hv
  clear hv
  go_enter Try.func75, Try.ntmps75
  go_wp2_with (at_make; refine make_ints _ rfl _ _ rfl _ _ n rfl rfl rfl rfl (by omega) ?_)
  intro w2 ho2 hb2
  go_wp2
  go_loopw [4] (fun i wr => ∃ (k : Nat), k ≤ n ∧ i = .int .i64 k ∧ Below w.heap.size w wr ∧ OwS wr w.heap.size w.heap.size n n (iter (fun (a : List Int) k => a.set (el xs k).toNat (k : Int)) (List.replicate n 0) k))
    (fun i _ => n - (intOf i).toNat)
  case atStart => exact ⟨0, Nat.zero_le _, rfl, hb2, ho2⟩
  case round =>
    obtain ⟨k, hk, rfl, hbr, hr⟩ := hrel
    by_cases hlt : k < n
    · obtain ⟨b, off, rfl, hblt, hc⟩ := h.row (by omega)
      have hcell := (hbr.cell (p := ⟨b, off + k, none⟩) hblt).trans (hc k hlt)
      clear hc
      have hkx : k < xs.length := by rw [hlen.out]; exact hlt
      obtain ⟨v, hv⟩ := Int.eq_ofNat_of_zero_le (Hv.out.lo k hkx)
      have hvn : v < n := by have := Hv.out.hi k hkx; rw [hlen.out, hv] at this; omega
      rw [hv] at hcell
      have HV := hid hv
      clear hv hkx
      have hfr := hr.frozen v
      have hcur := hr.cell hvn
      go_wp2
      go_roundw
      case rel =>
        refine ⟨k + 1, by omega, by go_num, hbr.setCell (Nat.le_refl _) _, ?_⟩
        have := hr.set v (k : Int)
        rw [iter, HV.out]
        exact this
      case measure => simp [intOf]; omega
    · obtain rfl : k = n := by omega
      go_wp2
      go_ret
      refine ⟨_, rfl, ?_, hbr⟩
      rw [inv, hlen.out]
      exact hr.own

end Go.Proofs.Ytlhphgldmefefab
