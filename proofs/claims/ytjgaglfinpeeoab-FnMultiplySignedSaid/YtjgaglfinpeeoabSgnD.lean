/- Sizes, signs, lengths, flags and falls of signed orders, as the model answers, and the sizes as the program does. Condition: the list's cells can be read and hold numbers of 64 bits. -/
import Derived.Test.YtjgaglfinpeeoabSgnC
namespace Go.Proofs.Ytjgaglfinpeeoab
open Go.RowKit

set_option maxHeartbeats 1000000 in
theorem sizesI_any (ao : Option Addr) (n cap : Nat) (xs : List Int) (w : World) (h : Sl w ao n cap xs) (Hr : Hid (R64 xs)) :
    Calls Try.prog 19 #[.slice ao n cap] w (Made w (onS xs (szL xs))) := by
  have hbig := h.big
  have hlen := hid h.len
  by_cases hv : SV xs
  · have h5 : n ≤ 5 := by have := hv.len; rw [hlen.out] at this; exact this
    have Hv := hid hv
    clear hv
    go_enter Try.func19, Try.ntmps19
    go_wp2_with fail
    refine (svI_any _ _ _ xs _ h Hr).mono ?_
    rintro e w1 ⟨rfl, hb1⟩
    rw [decide_eq_true Hv.out]
    have hsz := hb1.size
    go_wp2_with fail
    refine (sizesI0_any _ _ _ xs _ (h.later hb1) (by omega) Hr).mono ?_
    rintro e w2 ⟨u2, rfl, ho2, hb2⟩
    go_wp2
    go_ret
    refine ⟨_, rfl, ?_, hb1.trans (hb2.mono hsz)⟩
    rw [onS_yes Hv.out]
    exact ho2.mono hsz
  · have Hv := hid hv
    clear hv
    go_enter Try.func19, Try.ntmps19
    go_wp2_with fail
    refine (svI_any _ _ _ xs _ h Hr).mono ?_
    rintro e w1 ⟨rfl, hb1⟩
    rw [decide_eq_false Hv.out]
    go_wp2
    go_ret
    refine ⟨_, rfl, ?_, hb1⟩
    rw [onS_no Hv.out]
    exact Own.nil

theorem szL_cut (xs : List Int) {n : Nat} (h : xs.length = n) : szL xs = (List.range n).map fun k => ab (el xs k) - 1 := by rw [szL, h]

end Go.Proofs.Ytjgaglfinpeeoab
