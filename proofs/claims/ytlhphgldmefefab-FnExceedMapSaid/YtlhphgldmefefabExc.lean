/- Orders that are above where one falls, in the model and the program. Condition: the list's cells can be read. -/
import Derived.Test.YtlhphgldmefefabLin3
import Derived.Test.YtlhphgldmefefabFinL
namespace Go.Proofs.Ytlhphgldmefefab
open Go.RowKit

set_option maxHeartbeats 1000000 in
theorem excS_any (ao : Option Addr) (n cap : Nat) (xs : List Int) (w : World) (h : Sl w ao n cap xs) :
    Calls Try.prog 43 #[.slice ao n cap] w (Made w (onV xs (inv (frL xs)))) := by
  have hbig := h.big
  have hlen := hid h.len
  by_cases hv : Valid xs
  · have h7 : n ≤ 7 := by have := hv.len; rw [hlen.out] at this; exact this
    have Hv := hid hv
    go_enter Try.func43, Try.ntmps43
    go_wp2_with fail
    refine (validS_any _ _ _ xs _ h).mono ?_
    rintro e w1 ⟨rfl, hb1⟩
    have hsz := hb1.size
    rw [decide_eq_true Hv.out]
    clear hv
    go_wp2_with fail
    refine (frL0_any _ _ _ xs _ (h.later hb1) Hv.out).mono ?_
    rintro e w2 ⟨u2, rfl, o2, b2⟩
    obtain ⟨a2, c2, rfl, s2⟩ := o2.sl
    have t2 := hb1.trans (b2.mono hsz)
    go_wp2_with fail
    refine (inverse_any _ _ _ _ _ s2 (ln_facts Hv.out).1).mono ?_
    rintro e w3 ⟨u3, rfl, o3, b3⟩
    go_wp2
    go_ret
    refine ⟨_, rfl, ?_, t2.trans (b3.mono t2.size)⟩
    rw [onV_yes Hv.out]
    exact o3.mono t2.size
  · have Hv := hid hv
    go_enter Try.func43, Try.ntmps43
    go_wp2_with fail
    refine (validS_any _ _ _ xs _ h).mono ?_
    rintro e w1 ⟨rfl, hb1⟩
    go_wp2
    go_ret
    refine ⟨_, rfl, ?_, hb1⟩
    rw [onV_no Hv.out]
    exact Own.nil

set_option maxHeartbeats 1000000 in
theorem excI_any (ao : Option Addr) (n cap : Nat) (xs : List Int) (w : World) (h : Sl w ao n cap xs) :
    Calls Try.prog 42 #[.slice ao n cap] w (Made w (onV xs (inv (frL xs)))) := by
  have hbig := h.big
  have hlen := hid h.len
  by_cases hv : Valid xs
  · have h7 : n ≤ 7 := by have := hv.len; rw [hlen.out] at this; exact this
    have Hv := hid hv
    go_enter Try.func42, Try.ntmps42
    go_wp2_with fail
    refine (validI_any _ _ _ xs _ h).mono ?_
    rintro e w1 ⟨rfl, hb1⟩
    have hsz := hb1.size
    rw [decide_eq_true Hv.out]
    clear hv
    go_wp2_with fail
    refine (made_to (frLI_any _ _ _ xs _ (h.later hb1)) (onV_yes Hv.out)).mono ?_
    rintro e w2 ⟨u2, rfl, o2, b2⟩
    obtain ⟨a2, c2, rfl, s2⟩ := o2.sl
    have t2 := hb1.trans (b2.mono hsz)
    go_wp2_with fail
    refine (made_to (inverseI_any _ _ _ _ _ s2) (onV_yes (ln_facts Hv.out).1)).mono ?_
    rintro e w3 ⟨u3, rfl, o3, b3⟩
    go_wp2
    go_ret
    refine ⟨_, rfl, ?_, t2.trans (b3.mono t2.size)⟩
    rw [onV_yes Hv.out]
    exact o3.mono t2.size
  · have Hv := hid hv
    go_enter Try.func42, Try.ntmps42
    go_wp2_with fail
    refine (validI_any _ _ _ xs _ h).mono ?_
    rintro e w1 ⟨rfl, hb1⟩
    go_wp2
    go_ret
    refine ⟨_, rfl, ?_, hb1⟩
    rw [onV_no Hv.out]
    exact Own.nil

end Go.Proofs.Ytlhphgldmefefab
