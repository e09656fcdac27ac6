/- Places above, fixed places, records and shifts, in the program and in its model. Condition: the list's cells can be read. -/
import Derived.Test.YtepikmkkbecdaacOrd1I
import Derived.Test.YtepikmkkbecdaacOrd1S
import Derived.Test.YtepikmkkbecdaacMirC
namespace Go.Proofs.Ytepikmkkbecdaac
open Go.RowKit

set_option maxHeartbeats 1000000 in
theorem above_any (ao : Option Addr) (n cap : Nat) (xs : List Int) (w : World) (h : Sl w ao n cap xs) (h7 : n ≤ 1000) :
    Calls Try.prog 70 #[.slice ao n cap] w (Made w (above xs)) := by
  have hbig := h.big
  have hlen := hid h.len
  go_enter Try.func70, Try.ntmps70
  go_wp2
  go_loopw [3, 4] (fun v i wr => ∃ (k m : Nat) (ao' : Option Addr) (cap' : Nat), k ≤ n ∧ v = .slice ao' m cap' ∧ i = .int .i64 k ∧ Below w.heap.size w wr ∧ Own wr w.heap.size (.slice ao' m cap') (plP upF xs k))
    (fun _ i _ => n - (intOf i).toNat)
  case atStart => exact ⟨0, _, _, _, Nat.zero_le _, rfl, rfl, (Below.refl _ _).alloc (Nat.le_refl _) _, own_lit w⟩
  case round =>
    obtain ⟨k, m, ao', cap', hk, rfl, rfl, hbr, ho⟩ := hrel
    have hsz := hbr.size
    have hl : (plP upF xs k).length ≤ 2000000 := by have := plP_len upF xs k; omega
    by_cases hlt : k < n
    · obtain ⟨b, off, rfl, hblt, hc⟩ := h.row (by omega)
      have hcell := (hbr.cell (p := ⟨b, off + k, none⟩) hblt).trans (hc k hlt)
      have hi1 : (k : Int) < n := by omega
      clear hc
      by_cases he : (k : Int) < el xs k
      · have Hf := hid he
        go_wp2_with (at_builtin; refine app_int _ _ rfl _ _ rfl w.heap.size _ _ rfl ho rfl hl hsz ?_)
        intro u' w' ho' hg'
        have hb' := below_app hbr ho hg'
        rw [← plP_yes (f := upF) (by simp [upF, Hf.out])] at ho'
        have hl' := hid (rfl : (plP upF xs (k + 1)).length = (plP upF xs (k + 1)).length)
        obtain ⟨ao', cap', rfl, hs'⟩ := ho'.sl
        go_wp2
        go_roundw
        case rel => exact ⟨k + 1, _, _, _, by omega, rfl, by go_num, hb', ho'⟩
        case measure => simp [intOf]; omega
      · have Hf := hid he
        have he' : el xs k ≤ k := by omega
        go_wp2
        go_roundw
        case rel => exact ⟨k + 1, _, _, _, by omega, rfl, by go_num, hbr, by rw [plP_no (by simp [upF]; have := Hf.out; omega)]; exact ho⟩
        case measure => simp [intOf]; omega
    · obtain rfl : k = n := by omega
      go_wp2
      go_ret
      refine ⟨_, rfl, ?_, hbr⟩
      rw [above, hlen.out]
      exact ho

set_option maxHeartbeats 1000000 in
theorem aboveS_any (ao : Option Addr) (n cap : Nat) (xs : List Int) (w : World) (h : Sl w ao n cap xs) :
    Calls Try.prog 25 #[.slice ao n cap] w (Made w (onV xs (above xs))) := by
  have hbig := h.big
  have hlen := hid h.len
  by_cases hv : Valid xs
  · have h7 : n ≤ 7 := by have := hv.len; rw [hlen.out] at this; exact this
    have Hv := hid hv
    go_enter Try.func25, Try.ntmps25
    go_wp2_with fail
    refine (validS_any _ _ _ xs _ h).mono ?_
    rintro e w1 ⟨rfl, hb1⟩
    have hsz := hb1.size
    go_wp2_with fail
    refine (above_any _ _ _ xs _ (h.later hb1) (by omega)).mono ?_
    rintro e w2 ⟨u2, rfl, ho2, hb2⟩
    go_wp2
    go_ret
    refine ⟨_, rfl, ?_, hb1.trans (hb2.mono hsz)⟩
    rw [onV_yes Hv.out]
    exact ho2.mono hsz
  · have Hv := hid hv
    go_enter Try.func25, Try.ntmps25
    go_wp2_with fail
    refine (validS_any _ _ _ xs _ h).mono ?_
    rintro e w1 ⟨rfl, hb1⟩
    go_wp2
    go_ret
    refine ⟨_, rfl, ?_, hb1⟩
    rw [onV_no Hv.out]
    exact Own.nil

set_option maxHeartbeats 1000000 in
theorem fixedS_any (ao : Option Addr) (n cap : Nat) (xs : List Int) (w : World) (h : Sl w ao n cap xs) :
    Calls Try.prog 29 #[.slice ao n cap] w (Made w (onV xs (fixed xs))) := by
  have hbig := h.big
  have hlen := hid h.len
  by_cases hv : Valid xs
  · have h7 : n ≤ 7 := by have := hv.len; rw [hlen.out] at this; exact this
    have Hv := hid hv
    go_enter Try.func29, Try.ntmps29
    go_wp2_with fail
    refine (validS_any _ _ _ xs _ h).mono ?_
    rintro e w1 ⟨rfl, hb1⟩
    have hsz := hb1.size
    go_wp2
    clear hsz
    go_loopw [3, 4] (fun v i wr => ∃ (k m : Nat) (ao' : Option Addr) (cap' : Nat), k ≤ n ∧ v = .slice ao' m cap' ∧ i = .int .i64 k ∧ Below w.heap.size w wr ∧ Own wr w.heap.size (.slice ao' m cap') (plP fixF xs k))
      (fun _ i _ => n - (intOf i).toNat)
    case atStart => exact ⟨0, _, _, _, Nat.zero_le _, rfl, rfl, hb1.alloc hb1.size _, own_lit_at hb1.size⟩
    case round =>
      obtain ⟨k, m, ao', cap', hk, rfl, rfl, hbr, ho⟩ := hrel
      have hsz := hbr.size
      have hl : (plP fixF xs k).length ≤ 2000000 := by have := plP_len fixF xs k; omega
      by_cases hlt : k < n
      · obtain ⟨b, off, rfl, hblt, hc⟩ := h.row (by omega)
        have hcell := (hbr.cell (p := ⟨b, off + k, none⟩) hblt).trans (hc k hlt)
        have hi1 : (k : Int) < n := by omega
        clear hc
        by_cases he : el xs k = k
        · have Hf := hid he
          have ht : (el xs k == (k : Int)) = true := by simpa using he
          go_wp2_with (at_builtin; refine app_int _ _ rfl _ _ rfl w.heap.size _ _ rfl ho rfl hl hsz ?_)
          intro u' w' ho' hg'
          have hb' := below_app hbr ho hg'
          rw [← plP_yes (f := fixF) (by simp [fixF, Hf.out])] at ho'
          have hl' := hid (rfl : (plP fixF xs (k + 1)).length = (plP fixF xs (k + 1)).length)
          obtain ⟨ao', cap', rfl, hs'⟩ := ho'.sl
          go_wp2
          go_roundw
          case rel => exact ⟨k + 1, _, _, _, by omega, rfl, by go_num, hb', ho'⟩
          case measure => simp [intOf]; omega
        · have Hf := hid he
          have ht : (el xs k == (k : Int)) = false := by simpa using he
          go_wp2
          go_roundw
          case rel => exact ⟨k + 1, _, _, _, by omega, rfl, by go_num, hbr, by rw [plP_no (by simp [fixF]; have := Hf.out; omega)]; exact ho⟩
          case measure => simp [intOf]; omega
      · obtain rfl : k = n := by omega
        go_wp2
        go_ret
        refine ⟨_, rfl, ?_, hbr⟩
        rw [onV_yes Hv.out, fixed, hlen.out]
        exact ho
  · have Hv := hid hv
    go_enter Try.func29, Try.ntmps29
    go_wp2_with fail
    refine (validS_any _ _ _ xs _ h).mono ?_
    rintro e w1 ⟨rfl, hb1⟩
    go_wp2
    go_ret
    refine ⟨_, rfl, ?_, hb1⟩
    rw [onV_no Hv.out]
    exact Own.nil

theorem aboveC (i u : Int) (w : World) : Calls Try.prog 69 #[.int .i64 i, .int .i64 u] w fun e w' => e = .returned (.bool (upF i u)) ∧ w' = w := by
  go_enter Try.func69, Try.ntmps69
  go_wp2
  go_ret
  exact ⟨ret_eq (by congr 1), rfl⟩

set_option maxHeartbeats 1000000 in
theorem aboveW_any (ao : Option Addr) (n cap : Nat) (xs : List Int) (w : World) (h : Sl w ao n cap xs) :
    Calls Try.prog 68 #[.slice ao n cap, .func (.func 69) #[] #[]] w (Made w (onV xs (above xs))) := by
  have hbig := h.big
  have hlen := hid h.len
  by_cases hv : Valid xs
  · have h7 : n ≤ 7 := by have := hv.len; rw [hlen.out] at this; exact this
    have Hv := hid hv
    go_enter Try.func68, Try.ntmps68
    go_wp2_with fail
    refine (validI_any _ _ _ xs _ h).mono ?_
    rintro e w1 ⟨rfl, hb1⟩
    have hsz := hb1.size
    go_wp2
    clear hsz
    go_loopw [5, 14] (fun v i wr => ∃ (k m : Nat) (ao' : Option Addr) (cap' : Nat), k ≤ n ∧ v = .slice ao' m cap' ∧ i = .int .i64 k ∧ Below w.heap.size w wr ∧ Own wr w.heap.size (.slice ao' m cap') (plP upF xs k))
      (fun _ i _ => n - (intOf i).toNat)
    case atStart => exact ⟨0, _, _, _, Nat.zero_le _, rfl, rfl, hb1.alloc hb1.size _, own_lit_at hb1.size⟩
    case round =>
      obtain ⟨k, m, ao', cap', hk, rfl, rfl, hbr, ho⟩ := hrel
      have hsz := hbr.size
      have hl : (plP upF xs k).length ≤ 2000000 := by have := plP_len upF xs k; omega
      by_cases hlt : k < n
      · obtain ⟨b, off, rfl, hblt, hc⟩ := h.row (by omega)
        have hcell := (hbr.cell (p := ⟨b, off + k, none⟩) hblt).trans (hc k hlt)
        have hi1 : (k : Int) < n := by omega
        clear hc
        by_cases he : (k : Int) < el xs k
        · have Hf := hid he
          clear he 
          go_wp2_with fail
          refine (aboveC _ _ _).mono ?_
          rintro e w' ⟨rfl, hww⟩
          subst hww
          rw [show upF k (el xs k) = true by simp [upF]; first | exact Hf.out | (have := Hf.out; omega)]
          go_wp2_with (at_builtin; refine app_int _ _ rfl _ _ rfl w.heap.size _ _ rfl ho rfl hl hsz ?_)
          intro u' w' ho' hg'
          have hb' := below_app hbr ho hg'
          rw [← plP_yes (f := upF) (by simp [upF, Hf.out])] at ho'
          have hl' := hid (rfl : (plP upF xs (k + 1)).length = (plP upF xs (k + 1)).length)
          obtain ⟨ao', cap', rfl, hs'⟩ := ho'.sl
          go_wp2
          go_roundw
          case rel => exact ⟨k + 1, _, _, _, by omega, rfl, by go_num, hb', ho'⟩
          case measure => simp [intOf]; omega
        · have Hf := hid he
          have he' : el xs k ≤ k := by omega
          clear he he'
          go_wp2_with fail
          refine (aboveC _ _ _).mono ?_
          rintro e w' ⟨rfl, hww⟩
          subst hww
          rw [show upF k (el xs k) = false by simp [upF]; first | exact Hf.out | (have := Hf.out; omega)]
          go_wp2
          go_roundw
          case rel => exact ⟨k + 1, _, _, _, by omega, rfl, by go_num, hbr, by rw [plP_no (by simp [upF]; have := Hf.out; omega)]; exact ho⟩
          case measure => simp [intOf]; omega
      · obtain rfl : k = n := by omega
        go_wp2
        go_ret
        refine ⟨_, rfl, ?_, hbr⟩
        rw [onV_yes Hv.out, above, hlen.out]
        exact ho
  · have Hv := hid hv
    go_enter Try.func68, Try.ntmps68
    go_wp2_with fail
    refine (validI_any _ _ _ xs _ h).mono ?_
    rintro e w1 ⟨rfl, hb1⟩
    go_wp2
    go_ret
    refine ⟨_, rfl, ?_, hb1⟩
    rw [onV_no Hv.out]
    exact Own.nil

set_option maxHeartbeats 1000000 in
theorem aboveI_any (ao : Option Addr) (n cap : Nat) (xs : List Int) (w : World) (h : Sl w ao n cap xs) :
    Calls Try.prog 24 #[.slice ao n cap] w (Made w (onV xs (above xs))) := by
  have hbig := h.big
  have hlen := hid h.len
  go_enter Try.func24, Try.ntmps24
  go_wp2_with fail
  refine (aboveW_any _ _ _ xs _ h).mono ?_
  rintro e w2 ⟨u2, rfl, ho2, hb2⟩
  go_wp2
  go_ret
  exact ⟨_, rfl, ho2, hb2⟩

theorem fixedC (i u : Int) (w : World) : Calls Try.prog 71 #[.int .i64 i, .int .i64 u] w fun e w' => e = .returned (.bool (fixF i u)) ∧ w' = w := by
  go_enter Try.func71, Try.ntmps71
  go_wp2
  go_ret
  exact ⟨ret_eq (by congr 1), rfl⟩

set_option maxHeartbeats 1000000 in
theorem fixedW_any (ao : Option Addr) (n cap : Nat) (xs : List Int) (w : World) (h : Sl w ao n cap xs) :
    Calls Try.prog 68 #[.slice ao n cap, .func (.func 71) #[] #[]] w (Made w (onV xs (fixed xs))) := by
  have hbig := h.big
  have hlen := hid h.len
  by_cases hv : Valid xs
  · have h7 : n ≤ 7 := by have := hv.len; rw [hlen.out] at this; exact this
    have Hv := hid hv
    go_enter Try.func68, Try.ntmps68
    go_wp2_with fail
    refine (validI_any _ _ _ xs _ h).mono ?_
    rintro e w1 ⟨rfl, hb1⟩
    have hsz := hb1.size
    go_wp2
    clear hsz
    go_loopw [5, 14] (fun v i wr => ∃ (k m : Nat) (ao' : Option Addr) (cap' : Nat), k ≤ n ∧ v = .slice ao' m cap' ∧ i = .int .i64 k ∧ Below w.heap.size w wr ∧ Own wr w.heap.size (.slice ao' m cap') (plP fixF xs k))
      (fun _ i _ => n - (intOf i).toNat)
    case atStart => exact ⟨0, _, _, _, Nat.zero_le _, rfl, rfl, hb1.alloc hb1.size _, own_lit_at hb1.size⟩
    case round =>
      obtain ⟨k, m, ao', cap', hk, rfl, rfl, hbr, ho⟩ := hrel
      have hsz := hbr.size
      have hl : (plP fixF xs k).length ≤ 2000000 := by have := plP_len fixF xs k; omega
      by_cases hlt : k < n
      · obtain ⟨b, off, rfl, hblt, hc⟩ := h.row (by omega)
        have hcell := (hbr.cell (p := ⟨b, off + k, none⟩) hblt).trans (hc k hlt)
        have hi1 : (k : Int) < n := by omega
        clear hc
        by_cases he : el xs k = k
        · have Hf := hid he
          have ht : (el xs k == (k : Int)) = true := by simpa using he
          clear he ht
          go_wp2_with fail
          refine (fixedC _ _ _).mono ?_
          rintro e w' ⟨rfl, hww⟩
          subst hww
          rw [show fixF k (el xs k) = true by simp [fixF]; first | exact Hf.out | (have := Hf.out; omega)]
          go_wp2_with (at_builtin; refine app_int _ _ rfl _ _ rfl w.heap.size _ _ rfl ho rfl hl hsz ?_)
          intro u' w' ho' hg'
          have hb' := below_app hbr ho hg'
          rw [← plP_yes (f := fixF) (by simp [fixF, Hf.out])] at ho'
          have hl' := hid (rfl : (plP fixF xs (k + 1)).length = (plP fixF xs (k + 1)).length)
          obtain ⟨ao', cap', rfl, hs'⟩ := ho'.sl
          go_wp2
          go_roundw
          case rel => exact ⟨k + 1, _, _, _, by omega, rfl, by go_num, hb', ho'⟩
          case measure => simp [intOf]; omega
        · have Hf := hid he
          have ht : (el xs k == (k : Int)) = false := by simpa using he
          clear he ht
          go_wp2_with fail
          refine (fixedC _ _ _).mono ?_
          rintro e w' ⟨rfl, hww⟩
          subst hww
          rw [show fixF k (el xs k) = false by simp [fixF]; first | exact Hf.out | (have := Hf.out; omega)]
          go_wp2
          go_roundw
          case rel => exact ⟨k + 1, _, _, _, by omega, rfl, by go_num, hbr, by rw [plP_no (by simp [fixF]; have := Hf.out; omega)]; exact ho⟩
          case measure => simp [intOf]; omega
      · obtain rfl : k = n := by omega
        go_wp2
        go_ret
        refine ⟨_, rfl, ?_, hbr⟩
        rw [onV_yes Hv.out, fixed, hlen.out]
        exact ho
  · have Hv := hid hv
    go_enter Try.func68, Try.ntmps68
    go_wp2_with fail
    refine (validI_any _ _ _ xs _ h).mono ?_
    rintro e w1 ⟨rfl, hb1⟩
    go_wp2
    go_ret
    refine ⟨_, rfl, ?_, hb1⟩
    rw [onV_no Hv.out]
    exact Own.nil

set_option maxHeartbeats 1000000 in
theorem fixedI_any (ao : Option Addr) (n cap : Nat) (xs : List Int) (w : World) (h : Sl w ao n cap xs) :
    Calls Try.prog 26 #[.slice ao n cap] w (Made w (onV xs (fixed xs))) := by
  have hbig := h.big
  have hlen := hid h.len
  go_enter Try.func26, Try.ntmps26
  go_wp2_with fail
  refine (fixedW_any _ _ _ xs _ h).mono ?_
  rintro e w2 ⟨u2, rfl, ho2, hb2⟩
  go_wp2
  go_ret
  exact ⟨_, rfl, ho2, hb2⟩

set_option maxHeartbeats 1000000 in
theorem records_any (ao : Option Addr) (n cap : Nat) (xs : List Int) (w : World) (h : Sl w ao n cap xs) (h7 : n ≤ 1000) :
    Calls Try.prog 72 #[.slice ao n cap] w (Made w (records xs)) := by
  have hbig := h.big
  have hlen := hid h.len
  go_enter Try.func72, Try.ntmps72
  go_wp2
  go_loopw [3, 4, 5] (fun v g i wr => ∃ (k m : Nat) (ao' : Option Addr) (cap' : Nat), k ≤ n ∧ v = .slice ao' m cap' ∧ g = .int .i64 (mxP xs k) ∧ i = .int .i64 k ∧ Below w.heap.size w wr ∧ Own wr w.heap.size (.slice ao' m cap') (rcP xs k))
    (fun _ _ i _ => n - (intOf i).toNat)
  case atStart => exact ⟨0, _, _, _, Nat.zero_le _, rfl, rfl, rfl, (Below.refl _ _).alloc (Nat.le_refl _) _, own_lit w⟩
  case round =>
    obtain ⟨k, m, ao', cap', hk, rfl, rfl, rfl, hbr, ho⟩ := hrel
    have hsz := hbr.size
    have hl : (rcP xs k).length ≤ 2000000 := by have := rcP_len xs k; omega
    by_cases hlt : k < n
    · obtain ⟨b, off, rfl, hblt, hc⟩ := h.row (by omega)
      have hcell := (hbr.cell (p := ⟨b, off + k, none⟩) hblt).trans (hc k hlt)
      have hi1 : (k : Int) < n := by omega
      have hcc := hid hc
      clear hc
      by_cases he : mxP xs k < el xs k
      · have He := hid he
        go_wp2_with (at_builtin; refine app_int _ _ rfl _ _ rfl w.heap.size _ _ rfl ho rfl hl hsz ?_)
        intro u' w' ho' hg'
        have hb' := below_app hbr ho hg'
        rw [← rcP_yes He.out] at ho'
        have hl' := hid (rfl : (rcP xs (k + 1)).length = (rcP xs (k + 1)).length)
        obtain ⟨ao', cap', rfl, hs'⟩ := ho'.sl
        have hcell' := (hb'.cell (p := ⟨b, off + k, none⟩) hblt).trans (hcc.out k hlt)
        go_wp2
        go_roundw
        case rel => exact ⟨k + 1, _, _, _, by omega, rfl, by rw [mxP_yes He.out], by go_num, hb', ho'⟩
        case measure => simp [intOf]; omega
      · have he' : el xs k ≤ mxP xs k := by omega
        have He := hid he'
        go_wp2
        go_roundw
        case rel => exact ⟨k + 1, _, _, _, by omega, rfl, by rw [mxP_no He.out], by go_num, hbr, by rw [rcP_no He.out]; exact ho⟩
        case measure => simp [intOf]; omega
    · obtain rfl : k = n := by omega
      go_wp2
      go_ret
      refine ⟨_, rfl, ?_, hbr⟩
      rw [records, hlen.out]
      exact ho

set_option maxHeartbeats 1000000 in
theorem recordsS_any (ao : Option Addr) (n cap : Nat) (xs : List Int) (w : World) (h : Sl w ao n cap xs) :
    Calls Try.prog 32 #[.slice ao n cap] w (Made w (onV xs (records xs))) := by
  have hbig := h.big
  have hlen := hid h.len
  by_cases hv : Valid xs
  · have h7 : n ≤ 7 := by have := hv.len; rw [hlen.out] at this; exact this
    have Hv := hid hv
    go_enter Try.func32, Try.ntmps32
    go_wp2_with fail
    refine (validS_any _ _ _ xs _ h).mono ?_
    rintro e w1 ⟨rfl, hb1⟩
    have hsz := hb1.size
    go_wp2_with fail
    refine (records_any _ _ _ xs _ (h.later hb1) (by omega)).mono ?_
    rintro e w2 ⟨u2, rfl, ho2, hb2⟩
    go_wp2
    go_ret
    refine ⟨_, rfl, ?_, hb1.trans (hb2.mono hsz)⟩
    rw [onV_yes Hv.out]
    exact ho2.mono hsz
  · have Hv := hid hv
    go_enter Try.func32, Try.ntmps32
    go_wp2_with fail
    refine (validS_any _ _ _ xs _ h).mono ?_
    rintro e w1 ⟨rfl, hb1⟩
    go_wp2
    go_ret
    refine ⟨_, rfl, ?_, hb1⟩
    rw [onV_no Hv.out]
    exact Own.nil

set_option maxHeartbeats 1000000 in
theorem recordsI_any (ao : Option Addr) (n cap : Nat) (xs : List Int) (w : World) (h : Sl w ao n cap xs) :
    Calls Try.prog 31 #[.slice ao n cap] w (Made w (onV xs (records xs))) := by
  have hbig := h.big
  have hlen := hid h.len
  by_cases hv : Valid xs
  · have h7 : n ≤ 7 := by have := hv.len; rw [hlen.out] at this; exact this
    have Hv := hid hv
    go_enter Try.func31, Try.ntmps31
    go_wp2_with fail
    refine (validI_any _ _ _ xs _ h).mono ?_
    rintro e w1 ⟨rfl, hb1⟩
    have hsz := hb1.size
    go_wp2
    clear hsz
    go_loopw [3, 4, 13] (fun v g i wr => ∃ (k m : Nat) (ao' : Option Addr) (cap' : Nat), k ≤ n ∧ v = .slice ao' m cap' ∧ g = .int .i64 (mxP xs k) ∧ i = .int .i64 k ∧ Below w.heap.size w wr ∧ Own wr w.heap.size (.slice ao' m cap') (rcP xs k))
      (fun _ _ i _ => n - (intOf i).toNat)
    case atStart => exact ⟨0, _, _, _, Nat.zero_le _, rfl, rfl, rfl, hb1.alloc hb1.size _, own_lit_at hb1.size⟩
    case round =>
      obtain ⟨k, m, ao', cap', hk, rfl, rfl, rfl, hbr, ho⟩ := hrel
      have hsz := hbr.size
      have hl : (rcP xs k).length ≤ 2000000 := by have := rcP_len xs k; omega
      by_cases hlt : k < n
      · obtain ⟨b, off, rfl, hblt, hc⟩ := h.row (by omega)
        have hcell := (hbr.cell (p := ⟨b, off + k, none⟩) hblt).trans (hc k hlt)
        have hi1 : (k : Int) < n := by omega
        have hcc := hid hc
        clear hc
        by_cases he : mxP xs k < el xs k
        · have He := hid he
          go_wp2_with (at_builtin; refine app_int _ _ rfl _ _ rfl w.heap.size _ _ rfl ho rfl hl hsz ?_)
          intro u' w' ho' hg'
          have hb' := below_app hbr ho hg'
          rw [← rcP_yes He.out] at ho'
          have hl' := hid (rfl : (rcP xs (k + 1)).length = (rcP xs (k + 1)).length)
          obtain ⟨ao', cap', rfl, hs'⟩ := ho'.sl
          have hcell' := (hb'.cell (p := ⟨b, off + k, none⟩) hblt).trans (hcc.out k hlt)
          go_wp2
          go_roundw
          case rel => exact ⟨k + 1, _, _, _, by omega, rfl, by rw [mxP_yes He.out], by go_num, hb', ho'⟩
          case measure => simp [intOf]; omega
        · have he' : el xs k ≤ mxP xs k := by omega
          have He := hid he'
          go_wp2
          go_roundw
          case rel => exact ⟨k + 1, _, _, _, by omega, rfl, by rw [mxP_no He.out], by go_num, hbr, by rw [rcP_no He.out]; exact ho⟩
          case measure => simp [intOf]; omega
      · obtain rfl : k = n := by omega
        go_wp2
        go_ret
        refine ⟨_, rfl, ?_, hbr⟩
        rw [onV_yes Hv.out, records, hlen.out]
        exact ho
  · have Hv := hid hv
    go_enter Try.func31, Try.ntmps31
    go_wp2_with fail
    refine (validI_any _ _ _ xs _ h).mono ?_
    rintro e w1 ⟨rfl, hb1⟩
    go_wp2
    go_ret
    refine ⟨_, rfl, ?_, hb1⟩
    rw [onV_no Hv.out]
    exact Own.nil

theorem max_lt (a b : Int) : (if a < b then b else a) = max a b := by rw [Int.max_def]; split <;> split <;> omega

set_option maxHeartbeats 1000000 in
theorem shift_any (ao : Option Addr) (n cap : Nat) (xs : List Int) (w : World) (h : Sl w ao n cap xs) (hv : Valid xs) :
    Calls Try.prog 76 #[.slice ao n cap] w (Says w (.int .i64 (shift xs))) := by
  have hbig := h.big
  have hlen := hid h.len
  have h7 : n ≤ 7 := by have := hv.len; rw [hlen.out] at this; exact this
  have Hv := hid hv
  clear hv
  go_enter Try.func76, Try.ntmps76
  go_wp2
  go_loopw [3, 4] (fun v i wr => ∃ (k : Nat), k ≤ n ∧ v = .int .i64 (shP xs k) ∧ i = .int .i64 k ∧ Below w.heap.size w wr)
    (fun _ i _ => n - (intOf i).toNat)
  case atStart => exact ⟨0, Nat.zero_le _, rfl, rfl, Below.refl _ _⟩
  case round =>
    obtain ⟨k, hk, rfl, rfl, hbr⟩ := hrel
    have hbd := shP_bd Hv.out k (by rw [hlen.out]; exact hk)
    have hb1' := hbd.1
    have hb2' : shP xs k ≤ 49 := by have := hbd.2; omega
    clear hbd
    by_cases hlt : k < n
    · obtain ⟨b, off, rfl, hblt, hc⟩ := h.row (by omega)
      have hcell := (hbr.cell (p := ⟨b, off + k, none⟩) hblt).trans (hc k hlt)
      have hv1 := Hv.out.lo k (by rw [hlen.out]; exact hlt)
      have hv2 : el xs k < 7 := by have := Hv.out.hi k (by rw [hlen.out]; exact hlt); rw [hlen.out] at this; omega
      have hi1 : (k : Int) < n := by omega
      clear hc
      go_wp2_with fail
      go_quiet (fail)
      go_wp2
      go_roundw
      case rel => exact ⟨k + 1, by omega, by rw [shP, ← max_lt], by go_num, drewN_below hbr _⟩
      case measure => simp [intOf]; omega
    · obtain rfl : k = n := by omega
      go_wp2
      go_ret
      exact says_int (by rw [shift, hlen.out]) hbr

set_option maxHeartbeats 1000000 in
theorem shiftS_any (ao : Option Addr) (n cap : Nat) (xs : List Int) (w : World) (h : Sl w ao n cap xs) :
    Calls Try.prog 38 #[.slice ao n cap] w (Says w (.int .i64 (onVi xs (shift xs) (-1)))) := by
  have hbig := h.big
  have hlen := hid h.len
  by_cases hv : Valid xs
  · have h7 : n ≤ 7 := by have := hv.len; rw [hlen.out] at this; exact this
    have Hv := hid hv
    go_enter Try.func38, Try.ntmps38
    go_wp2_with fail
    refine (validS_any _ _ _ xs _ h).mono ?_
    rintro e w1 ⟨rfl, hb1⟩
    have hsz := hb1.size
    go_wp2_with fail
    refine (shift_any _ _ _ xs _ (h.later hb1) Hv.out).mono ?_
    rintro e w2 ⟨rfl, hb2⟩
    go_wp2
    go_ret
    rw [onVi_yes Hv.out]
    exact ⟨rfl, hb1.trans (hb2.mono hsz)⟩
  · have Hv := hid hv
    go_enter Try.func38, Try.ntmps38
    go_wp2_with fail
    refine (validS_any _ _ _ xs _ h).mono ?_
    rintro e w1 ⟨rfl, hb1⟩
    go_wp2
    go_ret
    rw [onVi_no Hv.out]
    exact ⟨rfl, hb1⟩

set_option maxHeartbeats 1000000 in
theorem shiftI_any (ao : Option Addr) (n cap : Nat) (xs : List Int) (w : World) (h : Sl w ao n cap xs) :
    Calls Try.prog 21 #[.slice ao n cap] w (Says w (.int .i64 (onVi xs (shift xs) (-1)))) := by
  have hbig := h.big
  have hlen := hid h.len
  by_cases hv : Valid xs
  · have h7 : n ≤ 7 := by have := hv.len; rw [hlen.out] at this; exact this
    have Hv := hid hv
    go_enter Try.func21, Try.ntmps21
    go_wp2_with fail
    refine (validI_any _ _ _ xs _ h).mono ?_
    rintro e w1 ⟨rfl, hb1⟩
    have hsz := hb1.size
    go_wp2
    clear hv
    go_loopw [3, 11] (fun v i wr => ∃ (k : Nat), k ≤ n ∧ v = .int .i64 (shP xs k) ∧ i = .int .i64 k ∧ Below w.heap.size w wr)
      (fun _ i _ => n - (intOf i).toNat)
    case atStart => exact ⟨0, Nat.zero_le _, rfl, rfl, hb1⟩
    case round =>
      obtain ⟨k, hk, rfl, rfl, hbr⟩ := hrel
      have hbd := shP_bd Hv.out k (by rw [hlen.out]; exact hk)
      have hb1' := hbd.1
      have hb2' : shP xs k ≤ 49 := by have := hbd.2; omega
      clear hbd
      by_cases hlt : k < n
      · obtain ⟨b, off, rfl, hblt, hc⟩ := h.row (by omega)
        have hcell := (hbr.cell (p := ⟨b, off + k, none⟩) hblt).trans (hc k hlt)
        have hv1 := Hv.out.lo k (by rw [hlen.out]; exact hlt)
        have hv2 : el xs k < 7 := by have := Hv.out.hi k (by rw [hlen.out]; exact hlt); rw [hlen.out] at this; omega
        have hi1 : (k : Int) < n := by omega
        clear hc
        go_wp2
        go_roundw
        case rel => exact ⟨k + 1, by omega, by rw [shP, ← max_lt], by go_num, hbr⟩
        case measure => simp [intOf]; omega
      · obtain rfl : k = n := by omega
        go_wp2
        go_ret
        rw [onVi_yes Hv.out]
        exact says_int (by rw [shift, hlen.out]) hbr
  · have Hv := hid hv
    go_enter Try.func21, Try.ntmps21
    go_wp2_with fail
    refine (validI_any _ _ _ xs _ h).mono ?_
    rintro e w1 ⟨rfl, hb1⟩
    go_wp2
    go_ret
    rw [onVi_no Hv.out]
    exact ⟨rfl, hb1⟩

end Go.Proofs.Ytepikmkkbecdaac
