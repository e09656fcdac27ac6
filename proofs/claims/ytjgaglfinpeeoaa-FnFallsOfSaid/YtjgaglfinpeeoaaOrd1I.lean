/- The program's functions of one order that make a list: InverseOrder, TurnOrder, OppositeOrder, RisingOrder. Condition: the list's cells can be read. -/
import Derived.Test.YtjgaglfinpeeoaaOps
import Derived.Test.YtjgaglfinpeeoaaValidI
namespace Go.Proofs.Ytjgaglfinpeeoaa
open Go.RowKit

set_option maxHeartbeats 1000000 in
theorem inverseI_any (ao : Option Addr) (n cap : Nat) (xs : List Int) (w : World) (h : Sl w ao n cap xs) :
    Calls Try.prog 27 #[.slice ao n cap] w (Made w (onV xs (inv xs))) := by
  have hbig := h.big
  have hlen := hid h.len
  by_cases hv : Valid xs
  · have h7 : n ≤ 7 := by have := hv.len; rw [hlen.out] at this; exact this
    have Hv := hid hv
    go_enter Try.func27, Try.ntmps27
    go_wp2_with fail
    refine (validI_any _ _ _ xs _ h).mono ?_
    rintro e w1 ⟨rfl, hb1⟩
    have hsz := hb1.size
    go_wp2_with (at_make; refine make_ints _ rfl _ _ rfl _ _ n rfl rfl rfl rfl (by omega) ?_)
    intro w2 ho2 hb2
    clear hv
    have hb3 := hb1.trans (hb2.mono hb1.size)
    go_wp2
    go_loopw [14] (fun i wr => ∃ (k : Nat), k ≤ n ∧ i = .int .i64 k ∧ Below w.heap.size w wr ∧ OwS wr w1.heap.size w1.heap.size n n (iter (fun (a : List Int) k => a.set (el xs k).toNat (k : Int)) (List.replicate n 0) k))
      (fun i _ => n - (intOf i).toNat)
    case atStart => exact ⟨0, Nat.zero_le _, rfl, hb3, ho2⟩
    case round =>
      obtain ⟨k, hk, rfl, hbr, hr⟩ := hrel
      by_cases hlt : k < n
      · obtain ⟨b, off, rfl, hblt, hc⟩ := h.row (by omega)
        have hcell := (hbr.cell (p := ⟨b, off + k, none⟩) hblt).trans (hc k hlt)
        clear hc
        have hkx : k < xs.length := by rw [hlen.out]; exact hlt
        obtain ⟨v, hv⟩ := Int.eq_ofNat_of_zero_le (Hv.out.lo k hkx)
        have hvn : v < n := by have := Hv.out.hi k hkx; rw [hlen.out, hv] at this; omega
        rw [hv] at hcell
        have HV := hid hv
        clear hv hkx
        have hfr := hr.frozen v
        have hcur := hr.cell hvn
        go_wp2
        go_roundw
        case rel =>
          refine ⟨k + 1, by omega, by go_num, hbr.setCell hsz _, ?_⟩
          have := hr.set v (k : Int)
          rw [iter, HV.out]
          exact this
        case measure => simp [intOf]; omega
      · obtain rfl : k = n := by omega
        go_wp2
        go_ret
        refine ⟨_, rfl, ?_, hbr⟩
        rw [onV_yes Hv.out, inv, hlen.out]
        exact hr.own.mono hsz
  · have Hv := hid hv
    go_enter Try.func27, Try.ntmps27
    go_wp2_with fail
    refine (validI_any _ _ _ xs _ h).mono ?_
    rintro e w1 ⟨rfl, hb1⟩
    go_wp2
    go_ret
    refine ⟨_, rfl, ?_, hb1⟩
    rw [onV_no Hv.out]
    exact Own.nil