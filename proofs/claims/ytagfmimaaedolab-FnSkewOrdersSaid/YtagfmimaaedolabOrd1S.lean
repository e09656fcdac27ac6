/- The model's functions of one order that make a list: rising, RisingOrder, inverse, InverseOrder, turned, TurnOrder, OppositeOrder. Condition: the list's cells can be read. -/
import Derived.Test.YtagfmimaaedolabOps
import Derived.Test.YtagfmimaaedolabValid
namespace Go.Proofs.Ytagfmimaaedolab
open Go.RowKit

theorem own_lit (w : World) : Own (w.alloc (.cells #[] 3)) w.heap.size (.slice (some ⟨w.heap.size, 0, none⟩) 0 0) [] :=
  World.ownsRow_lit w #[] 0 (Nat.le_refl _) (Nat.zero_le _) rfl

theorem own_lit_at {w : World} {B : Nat} (hB : B ≤ w.heap.size) : Own (w.alloc (.cells #[] 3)) B (.slice (some ⟨w.heap.size, 0, none⟩) 0 0) [] := (own_lit w).mono hB

set_option maxHeartbeats 400000 in
theorem rising_any (n : Nat) (w : World) (h : n ≤ 1000) :
    Calls Try.prog 73 #[.int .i64 n] w (Made w (rise n)) := by
  go_enter Try.func73, Try.ntmps73
  go_wp2
  go_loopw [3] (fun v wr => ∃ (k : Nat) (ao : Option Addr) (cap : Nat), k ≤ n ∧ v = .slice ao k cap ∧ Below w.heap.size w wr ∧ Own wr w.heap.size (.slice ao k cap) (rise k))
    (fun v _ => n - lenOf v)
  case atStart => exact ⟨0, _, _, Nat.zero_le _, rfl, (Below.refl _ _).alloc (Nat.le_refl _) _, own_lit w⟩
  case round =>
    obtain ⟨k, ao, cap, hk, rfl, hbr, ho⟩ := hrel
    by_cases hlt : k < n
    · have hsz := hbr.size
      have hl : (rise k).length ≤ 2000000 := by rw [rise_len]; omega
      go_wp2_with (at_builtin; refine app_int _ _ rfl _ _ rfl w.heap.size _ _ rfl ho rfl hl hsz ?_)
      intro u' w' ho' hg'
      have hb' := below_app hbr ho hg'
      obtain ⟨ao', cap', rfl, hs'⟩ := ho'.sl
      rw [← rise_succ, rise_len] at *
      go_wp2
      go_roundw
      case rel => exact ⟨k + 1, _, _, by omega, rfl, hb', ho'⟩
      case measure => simp [lenOf]; omega
    · obtain rfl : k = n := by omega
      go_wp2
      go_ret
      exact ⟨_, rfl, ho, hbr⟩

theorem risingS_no (n : Int) (w : World) (h : n < 0 ∨ 7 < n) :
    Calls Try.prog 50 #[.int .i64 n] w (Made w []) := by
  by_cases h0 : n < 0
  · have h1 : ¬ 0 ≤ n := by omega
    clear h h0
    go_enter Try.func50, Try.ntmps50
    go_wp2
    go_ret
    exact ⟨_, rfl, Own.nil, Below.refl _ _⟩
  · have h1 : 0 ≤ n := by omega
    have h2 : ¬ n ≤ 7 := by omega
    clear h h0
    go_enter Try.func50, Try.ntmps50
    go_wp2
    go_ret
    exact ⟨_, rfl, Own.nil, Below.refl _ _⟩

theorem risingS_yes (n : Nat) (w : World) (h : n ≤ 7) :
    Calls Try.prog 50 #[.int .i64 n] w (Made w (rise n)) := by
  have hd : decide ((n : Int) ≤ 7) = true := by simp; omega
  go_enter Try.func50, Try.ntmps50
  go_wp2_with (first | (go_at_call 72; go_in) | fail)
  refine (rising_any n _ (by omega)).mono ?_
  rintro e w1 ⟨u, rfl, ho, hb⟩
  go_wp2
  go_ret
  exact ⟨_, rfl, ho, hb⟩

set_option maxHeartbeats 1000000 in
theorem inverse_any (ao : Option Addr) (n cap : Nat) (xs : List Int) (w : World) (h : Sl w ao n cap xs) (hv : Valid xs) :
    Calls Try.prog 71 #[.slice ao n cap] w (Made w (inv xs)) := by
  have hbig := h.big
  have hlen := hid h.len
  have h7 : n ≤ 7 := by have := hv.len; rw [hlen.out] at this; exact this
  have Hv := hid hv
  clear hv
  go_enter Try.func71, Try.ntmps71
  go_wp2_with (at_make; refine make_ints _ rfl _ _ rfl _ _ n rfl rfl rfl rfl (by omega) ?_)
  intro w2 ho2 hb2
  go_wp2
  go_loopw [4] (fun i wr => ∃ (k : Nat), k ≤ n ∧ i = .int .i64 k ∧ Below w.heap.size w wr ∧ OwS wr w.heap.size w.heap.size n n (iter (fun (a : List Int) k => a.set (el xs k).toNat (k : Int)) (List.replicate n 0) k))
    (fun i _ => n - (intOf i).toNat)
  case atStart => exact ⟨0, Nat.zero_le _, rfl, hb2, ho2⟩
  case round =>
    obtain ⟨k, hk, rfl, hbr, hr⟩ := hrel
    by_cases hlt : k < n
    · obtain ⟨b, off, rfl, hblt, hc⟩ := h.row (by omega)
      have hcell := (hbr.cell (p := ⟨b, off + k, none⟩) hblt).trans (hc k hlt)
      clear hc
      have hkx : k < xs.length := by rw [hlen.out]; exact hlt
      obtain ⟨v, hv⟩ := Int.eq_ofNat_of_zero_le (Hv.out.lo k hkx)
      have hvn : v < n := by have := Hv.out.hi k hkx; rw [hlen.out, hv] at this; omega
      rw [hv] at hcell
      have HV := hid hv
      clear hv hkx
      have hfr := hr.frozen v
      have hcur := hr.cell hvn
      go_wp2
      go_roundw
      case rel =>
        refine ⟨k + 1, by omega, by go_num, hbr.setCell (Nat.le_refl _) _, ?_⟩
        have := hr.set v (k : Int)
        rw [iter, HV.out]
        exact this
      case measure => simp [intOf]; omega
    · obtain rfl : k = n := by omega
      go_wp2
      go_ret
      refine ⟨_, rfl, ?_, hbr⟩
      rw [inv, hlen.out]
      exact hr.own

set_option maxHeartbeats 1000000 in
theorem inverseS_any (ao : Option Addr) (n cap : Nat) (xs : List Int) (w : World) (h : Sl w ao n cap xs) :
    Calls Try.prog 44 #[.slice ao n cap] w (Made w (onV xs (inv xs))) := by
  have hbig := h.big
  have hlen := hid h.len
  by_cases hv : Valid xs
  · have h7 : n ≤ 7 := by have := hv.len; rw [hlen.out] at this; exact this
    have Hv := hid hv
    go_enter Try.func44, Try.ntmps44
    go_wp2_with fail
    refine (validS_any _ _ _ xs _ h).mono ?_
    rintro e w1 ⟨rfl, hb1⟩
    have hsz := hb1.size
    go_wp2_with fail
    refine (inverse_any _ _ _ xs _ (h.later hb1) Hv.out).mono ?_
    rintro e w2 ⟨u2, rfl, ho2, hb2⟩
    go_wp2
    go_ret
    refine ⟨_, rfl, ?_, hb1.trans (hb2.mono hsz)⟩
    rw [onV_yes Hv.out]
    exact ho2.mono hsz
  · have Hv := hid hv
    go_enter Try.func44, Try.ntmps44
    go_wp2_with fail
    refine (validS_any _ _ _ xs _ h).mono ?_
    rintro e w1 ⟨rfl, hb1⟩
    go_wp2
    go_ret
    refine ⟨_, rfl, ?_, hb1⟩
    rw [onV_no Hv.out]
    exact Own.nil

set_option maxHeartbeats 1000000 in
theorem turned_any (ao : Option Addr) (n cap : Nat) (xs : List Int) (w : World) (h : Sl w ao n cap xs) (h7 : n ≤ 1000) :
    Calls Try.prog 74 #[.slice ao n cap] w (Made w (turn xs)) := by
  have hbig := h.big
  have hlen := hid h.len
  go_enter Try.func74, Try.ntmps74
  go_wp2
  go_loopw [3, 4] (fun v i wr => ∃ (k : Nat) (ao' : Option Addr) (cap' : Nat), k ≤ n ∧ v = .slice ao' k cap' ∧ i = .int .i64 ((n : Int) - 1 - (k : Nat)) ∧ Below w.heap.size w wr ∧ Own wr w.heap.size (.slice ao' k cap') ((List.range k).map (fun k => el xs (n - 1 - k))))
    (fun v _ _ => n - lenOf v)
  case atStart => exact ⟨0, _, _, Nat.zero_le _, rfl, by simp, (Below.refl _ _).alloc (Nat.le_refl _) _, own_lit w⟩
  case round =>
    obtain ⟨k, ao', cap', hk, rfl, rfl, hbr, ho⟩ := hrel
    by_cases hlt : k < n
    · obtain ⟨b, off, rfl, hblt, hc⟩ := h.row (by omega)
      have hsz := hbr.size
      have hl : ((List.range k).map (fun k => el xs (n - 1 - k))).length ≤ 2000000 := by rw [map_range_len]; omega
      have hcell := (hbr.cell (p := ⟨b, off + (n - 1 - k), none⟩) hblt).trans (hc (n - 1 - k) (by omega))
      have hi1 : (k : Int) < n := by omega
      clear hc
      go_wp2_with (at_builtin; refine app_int _ _ rfl _ _ rfl w.heap.size _ _ rfl ho rfl hl hsz ?_)
      intro u' w' ho' hg'
      have hb' := below_app hbr ho hg'
      obtain ⟨ao', cap', rfl, hs'⟩ := ho'.sl
      rw [← map_range_succ (fun k => el xs (n - 1 - k)), map_range_len] at *
      go_wp2
      go_roundw
      case rel => exact ⟨k + 1, _, _, by omega, rfl, by go_num, hb', ho'⟩
      case measure => simp [lenOf]; omega
    · obtain rfl : k = n := by omega
      go_wp2
      go_ret
      refine ⟨_, rfl, ?_, hbr⟩
      rw [turn, hlen.out]
      exact ho

set_option maxHeartbeats 1000000 in
theorem turnS_any (ao : Option Addr) (n cap : Nat) (xs : List Int) (w : World) (h : Sl w ao n cap xs) :
    Calls Try.prog 52 #[.slice ao n cap] w (Made w (onV xs (turn xs))) := by
  have hbig := h.big
  have hlen := hid h.len
  by_cases hv : Valid xs
  · have h7 : n ≤ 7 := by have := hv.len; rw [hlen.out] at this; exact this
    have Hv := hid hv
    go_enter Try.func52, Try.ntmps52
    go_wp2_with fail
    refine (validS_any _ _ _ xs _ h).mono ?_
    rintro e w1 ⟨rfl, hb1⟩
    have hsz := hb1.size
    go_wp2_with fail
    refine (turned_any _ _ _ xs _ (h.later hb1) (by omega)).mono ?_
    rintro e w2 ⟨u2, rfl, ho2, hb2⟩
    go_wp2
    go_ret
    refine ⟨_, rfl, ?_, hb1.trans (hb2.mono hsz)⟩
    rw [onV_yes Hv.out]
    exact ho2.mono hsz
  · have Hv := hid hv
    go_enter Try.func52, Try.ntmps52
    go_wp2_with fail
    refine (validS_any _ _ _ xs _ h).mono ?_
    rintro e w1 ⟨rfl, hb1⟩
    go_wp2
    go_ret
    refine ⟨_, rfl, ?_, hb1⟩
    rw [onV_no Hv.out]
    exact Own.nil

set_option maxHeartbeats 1000000 in
theorem oppS_any (ao : Option Addr) (n cap : Nat) (xs : List Int) (w : World) (h : Sl w ao n cap xs) :
    Calls Try.prog 54 #[.slice ao n cap] w (Made w (onV xs (opp xs))) := by
  have hbig := h.big
  have hlen := hid h.len
  by_cases hv : Valid xs
  · have h7 : n ≤ 7 := by have := hv.len; rw [hlen.out] at this; exact this
    have Hv := hid hv
    go_enter Try.func54, Try.ntmps54
    go_wp2_with fail
    refine (validS_any _ _ _ xs _ h).mono ?_
    rintro e w1 ⟨rfl, hb1⟩
    have hsz := hb1.size
    go_wp2
    go_loopw [3, 4] (fun v i wr => ∃ (k : Nat) (ao' : Option Addr) (cap' : Nat), k ≤ n ∧ v = .slice ao' k cap' ∧ i = .int .i64 ((k : Nat)) ∧ Below w.heap.size w wr ∧ Own wr w.heap.size (.slice ao' k cap') ((List.range k).map (fun k => (n : Int) - 1 - el xs k)))
      (fun v _ _ => n - lenOf v)
    case atStart => exact ⟨0, _, _, Nat.zero_le _, rfl, rfl, hb1.alloc hsz _, own_lit_at hsz⟩
    case round =>
      obtain ⟨k, ao', cap', hk, rfl, rfl, hbr, ho⟩ := hrel
      by_cases hlt : k < n
      · obtain ⟨b, off, rfl, hblt, hc⟩ := h.row (by omega)
        have hsz := hbr.size
        have hl : ((List.range k).map (fun k => (n : Int) - 1 - el xs k)).length ≤ 2000000 := by rw [map_range_len]; omega
        have hcell := (hbr.cell (p := ⟨b, off + k, none⟩) hblt).trans (hc k hlt)
        have hkx : k < xs.length := by rw [hlen.out]; exact hlt
        have hx0 := Hv.out.lo k hkx
        have hx1 := Hv.out.hi k hkx
        rw [hlen.out] at hx1
        clear hc hkx
        go_wp2_with (at_builtin; refine app_int _ _ rfl _ _ rfl w.heap.size _ _ rfl ho rfl hl hsz ?_)
        intro u' w' ho' hg'
        have hb' := below_app hbr ho hg'
        obtain ⟨ao', cap', rfl, hs'⟩ := ho'.sl
        rw [← map_range_succ (fun k => (n : Int) - 1 - el xs k), map_range_len] at *
        go_wp2
        go_roundw
        case rel => exact ⟨k + 1, _, _, by omega, rfl, by go_num, hb', ho'⟩
        case measure => simp [lenOf]; omega
      · obtain rfl : k = n := by omega
        go_wp2
        go_ret
        refine ⟨_, rfl, ?_, hbr⟩
        rw [onV_yes Hv.out, opp, hlen.out]
        exact ho
  · have Hv := hid hv
    go_enter Try.func54, Try.ntmps54
    go_wp2_with fail
    refine (validS_any _ _ _ xs _ h).mono ?_
    rintro e w1 ⟨rfl, hb1⟩
    go_wp2
    go_ret
    refine ⟨_, rfl, ?_, hb1⟩
    rw [onV_no Hv.out]
    exact Own.nil

end Go.Proofs.Ytagfmimaaedolab
