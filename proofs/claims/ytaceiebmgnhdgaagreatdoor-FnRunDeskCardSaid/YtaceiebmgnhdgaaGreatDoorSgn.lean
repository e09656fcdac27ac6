/- Whether numbers are a signed order, and their sizes, in the program and in its model. Condition: the list's cells can be read and hold numbers of 64 bits. -/
import Derived.Test.YtaceiebmgnhdgaaGreatDoorBnd
import Derived.Test.YtaceiebmgnhdgaaGreatDoorRowC
import Derived.Deep.RegionWith
namespace Go.Proofs.YtaceiebmgnhdgaaGreatDoor
open Go.RowKit

theorem ab_max {x : Int} : max x (-x) = ab x := by unfold ab; split <;> omega

theorem sizeS_any (x : Int) (w : World) (h : -9223372036854775807 ≤ x ∧ x ≤ 9223372036854775807) :
    Calls Tryz.prog 44 #[.int .i64 x] w fun e w' => e = .returned (.int .i64 (ab x)) ∧ w = w' := by
  obtain ⟨h1, h2⟩ := h
  go_enter Tryz.func44, Tryz.ntmps44
  all_goals go_wp2
  all_goals go_ret
  all_goals exact ⟨ret_eq (congrArg (Value.int .i64) (by unfold ab; split <;> omega)), rfl⟩

theorem sizeI_any (x : Int) (w : World) (h : -9223372036854775807 ≤ x ∧ x ≤ 9223372036854775807) :
    Calls Tryz.prog 130 #[.int .i64 x] w fun e w' => e = .returned (.int .i64 (ab x)) ∧ w = w' := by
  obtain ⟨h1, h2⟩ := h
  go_enter Tryz.func130, Tryz.ntmps130
  all_goals go_wp2
  all_goals go_ret
  all_goals exact ⟨ret_eq (congrArg (Value.int .i64) (by unfold ab; split <;> omega)), rfl⟩

theorem sizeI_min (w : World) :
    Calls Tryz.prog 130 #[.int .i64 (-9223372036854775808)] w fun e w' => e = .returned (.int .i64 (-9223372036854775808)) ∧ w = w' := by
  go_enter Tryz.func130, Tryz.ntmps130
  all_goals go_wp2
  all_goals go_ret
  all_goals exact ⟨ret_eq (congrArg (Value.int .i64) (by first | rfl | (unfold wrap64; omega))), rfl⟩

/-- size of any number, less 1. -/
theorem sizeI_less (x : Int) (w : World) (h : -9223372036854775808 ≤ x ∧ x ≤ 9223372036854775807) :
    Calls Tryz.prog 130 #[.int .i64 x] w fun e w' => ∃ y, e = .returned (.int .i64 y) ∧ wrap64 (y - 1) = ab x - 1 ∧ w = w' := by
  by_cases e : x = -9223372036854775808
  · subst e
    exact (sizeI_min w).mono (fun e w' h => ⟨_, h.1, by rw [ab_neg (by omega)]; unfold wrap64; omega, h.2⟩)
  · refine (sizeI_any x w ⟨by omega, h.2⟩).mono (fun e w' h3 => ⟨_, h3.1, ?_, h3.2⟩)
    have h1 := ab_nn x
    have h2 : ab x ≤ 9223372036854775807 := by unfold ab; split <;> omega
    exact IntWalk.wrap64_in _ ⟨by omega, by omega⟩

set_option maxHeartbeats 1000000 in
theorem sizesI0_any (ao : Option Addr) (n cap : Nat) (xs : List Int) (w : World) (h : Sl w ao n cap xs) (hn : n ≤ 1000000) (Hr : Hid (R64 xs)) :
    Calls Tryz.prog 129 #[.slice ao n cap] w (Made w (szL xs)) := by
  have hbig := h.big
  have hlen := hid h.len
  go_enter Tryz.func129, Tryz.ntmps129
  go_wp2_with (at_make; refine make_ints _ rfl _ _ rfl _ _ n rfl rfl rfl rfl (by omega) ?_)
  intro w2 ho2 hb2
  go_wp2
  go_loopw [11] (fun i wr => ∃ (k : Nat) (zs : List Int), k ≤ n ∧ i = .int .i64 k ∧ Below w.heap.size w wr ∧ OwS wr w.heap.size w.heap.size n n zs ∧ Hid (∀ j, j < k → el zs j = ab (el xs j) - 1))
    (fun i _ => n - (intOf i).toNat)
  case atStart => exact ⟨0, _, Nat.zero_le _, rfl, hb2, ho2, fun j hj => by omega⟩
  case round =>
    obtain ⟨k, zs, hk, rfl, hbr, hr, hz⟩ := hrel
    by_cases hlt : k < n
    · obtain ⟨b, off, rfl, hblt, hc⟩ := h.row (by omega)
      have hcell := (hbr.cell (p := ⟨b, off + k, none⟩) hblt).trans (hc k hlt)
      clear hc
      have hki : (k : Int) < n := by omega
      have hfr := hr.frozen k
      have hcur := hr.cell hlt
      have hzl := hid hr.len
      have hsub := hbr.size
      have hxr := Hr.out k (by rw [hlen.out]; exact hlt)
      have hxr := hid hxr
      go_wp2_with fail
      refine (sizeI_less _ _ hxr.out).mono ?_
      rintro e w3 ⟨y, rfl, hy, hw3⟩
      subst hw3
      have hyw : wrap64 (y - 1) = ab (el xs k) - 1 := hy
      have Hy := hid hyw
      clear hy hyw
      go_wp2
      go_roundw
      case rel =>
        refine ⟨k + 1, _, by omega, by go_num, hbr.setCell (Nat.le_refl _) _, hr.set k _, upto_step (fun j hj => ?_) ?_⟩
        · rw [el_set_ne (by omega)]; exact hz.out j hj
        · rw [el_set_same (by rw [hzl.out]; exact hlt)]; exact Hy.out
      case measure => simp [intOf]; omega
    · obtain rfl : k = n := by omega
      go_wp2
      go_ret
      refine ⟨_, rfl, ?_, hbr⟩
      have e : zs = szL xs := ext_el (by rw [hr.len, szL_len, hlen.out]) (fun j hj => by rw [hr.len] at hj; rw [hz.out j hj, el_szL (by rw [hlen.out]; exact hj)])
      rw [← e]
      exact hr.own

set_option maxHeartbeats 1000000 in
theorem svI_any (ao : Option Addr) (n cap : Nat) (xs : List Int) (w : World) (h : Sl w ao n cap xs) (Hr : Hid (R64 xs)) :
    Calls Tryz.prog 105 #[.slice ao n cap] w (Says w (.bool (decide (SV xs)))) := by
  have hbig := h.big
  have hlen := hid h.len
  by_cases h5 : n ≤ 5
  · go_enter Tryz.func105, Tryz.ntmps105
    go_wp2_with fail
    refine (sizesI0_any _ _ _ xs _ h (by omega) Hr).mono ?_
    rintro e w1 ⟨u1, rfl, ho1, hb1⟩
    obtain ⟨a1, c1, rfl, hs1⟩ := ho1.sl
    go_wp2_with fail
    refine (validI_any _ _ _ (szL xs) _ hs1).mono ?_
    rintro e w2 ⟨rfl, hb2⟩
    go_wp2
    go_ret
    exact says_bool (decide_eq_decide.2 ⟨fun hv => ⟨by rw [hlen.out]; omega, hv⟩, fun hv => hv.ord⟩) (hb1.trans (hb2.mono hb1.size))
  · have hno : Hid (¬ SV xs) := fun v => h5 (by have := v.len; rw [hlen.out] at this; exact this)
    go_enter Tryz.func105, Tryz.ntmps105
    go_wp2
    go_ret
    exact says_false hno.out (Below.refl _ _)

set_option maxRecDepth 20000 in
set_option maxHeartbeats 2000000 in
theorem svS0_any (ao : Option Addr) (n cap : Nat) (xs : List Int) (w : World) (h : Sl w ao n cap xs) :
    Calls Tryz.prog 27 #[.slice ao n cap] w (Says w (.bool (decide (SV xs)))) := by
  have hbig := h.big
  have hlen := hid h.len
  go_enter Tryz.func27, Tryz.ntmps27
  go_wp2
  go_loopw [3] (fun i wr => ∃ (k : Nat), k ≤ n ∧ i = .int .i64 k ∧ Below w.heap.size w wr ∧ Hid (∀ j, j < k → -(n : Int) ≤ el xs j ∧ el xs j ≤ n ∧ el xs j ≠ 0 ∧ ∀ t, t < j → ab (el xs t) ≠ ab (el xs j)))
    (fun i _ => n - (intOf i).toNat)
  case atStart => exact ⟨0, Nat.zero_le _, rfl, Below.refl _ _, fun j hj => by omega⟩
  case round =>
    obtain ⟨k, hk, rfl, hbr, hm⟩ := hrel
    by_cases hlt : k < n
    · obtain ⟨b, off, rfl, hblt, hc⟩ := h.row (by omega)
      have hcell := (hbr.cell (p := ⟨b, off + k, none⟩) hblt).trans (hc k hlt)
      have hkx : k < xs.length := by rw [hlen.out]; exact hlt
      have hkx := hid hkx
      by_cases hr : -(n : Int) ≤ el xs k ∧ el xs k ≤ n
      · by_cases h0 : el xs k = 0
        · have hno : Hid (¬ SV xs) := fun v => (v.lo hkx.out).2.2 h0
          have h00 : (el xs k == 0) = true := by simpa using h0
          have hr := hid hr
          clear h0 hc
          go_wp2_with fail
          refine (inRange_any _ _ _ _).mono ?_
          rintro e w' ⟨rfl, hww⟩
          subst hww
          rw [decide_eq_true hr.out]
          go_wp2
          go_ret
          exact says_false hno.out hbr
        · have h00 : (el xs k == 0) = false := by simpa using h0
          have hr := hid hr
          have h0 := hid h0
          have hcc := hid hc
          clear hc
          go_wp2_with fail
          refine (inRange_any _ _ _ _).mono ?_
          rintro e w' ⟨rfl, hww⟩
          subst hww
          rw [decide_eq_true hr.out]
          go_wp2
          obtain ⟨wo, hwo⟩ : ∃ wo : World, wo = wr := ⟨_, rfl⟩
          subst hwo
          go_loopw [4] (fun i wr => ∃ (j : Nat), j ≤ k ∧ i = .int .i64 j ∧ Below w.heap.size w wr ∧ Hid (∀ t, t < j → ab (el xs t) ≠ ab (el xs k)))
            (fun i _ => k - (intOf i).toNat)
          case atStart => exact ⟨0, Nat.zero_le _, rfl, hbr, fun j hj => by omega⟩
          case round =>
            obtain ⟨j, hj, rfl, hbr2, hm2⟩ := hrel
            by_cases hjlt : j < k
            · have hcellk : wr.drew.cell? ⟨b, off + k, none⟩ = some (.int .i64 (el xs k)) := (hbr2.cell (p := ⟨b, off + k, none⟩) hblt).trans (hcc.out k hlt)
              have hcell2 : wr.drew.cell? ⟨b, off + j, none⟩ = some (.int .i64 (el xs j)) := (hbr2.cell (p := ⟨b, off + j, none⟩) hblt).trans (hcc.out j (by omega))
              have hi1 : (k : Int) < n := by omega
              have hi2 : (j : Int) < n := by omega
              have hbk : Hid (-9223372036854775807 ≤ el xs k ∧ el xs k ≤ 9223372036854775807) := by have := hr.out; exact ⟨by omega, by omega⟩
              have hbj : Hid (-9223372036854775807 ≤ el xs j ∧ el xs j ≤ 9223372036854775807) := by have := hm.out j hjlt; exact ⟨by omega, by omega⟩
              clear hcell
              by_cases he : ab (el xs j) = ab (el xs k)
              · have he2 : (ab (el xs j) == ab (el xs k)) = true := by simpa using he
                have hno : Hid (¬ SV xs) := fun v => v.ne hjlt hkx.out he
                clear he
                go_wp2_with fail
                go_region_with (first
                  | (go_at_call 44; refine (sizeS_any (el xs j) _ hbj.out).mono ?_; rintro e wb ⟨rfl, hwb⟩; subst hwb)
                  | (go_at_call 44; refine (sizeS_any (el xs k) _ hbk.out).mono ?_; rintro e wb ⟨rfl, hwb⟩; subst hwb))
                all_goals go_wp2
                all_goals go_ret
                all_goals exact says_false hno.out hbr2.drew
              · have he2 : (ab (el xs j) == ab (el xs k)) = false := by simpa using he
                have he := hid he
                go_wp2_with fail
                go_region_with (first
                  | (go_at_call 44; refine (sizeS_any (el xs j) _ hbj.out).mono ?_; rintro e wb ⟨rfl, hwb⟩; subst hwb)
                  | (go_at_call 44; refine (sizeS_any (el xs k) _ hbk.out).mono ?_; rintro e wb ⟨rfl, hwb⟩; subst hwb))
                all_goals (
                  go_wp2
                  go_roundw
                  case rel => exact ⟨j + 1, by omega, by go_num, hbr2.drew, upto_step hm2.out he.out⟩
                  case measure => simp [intOf]; omega)
            · obtain rfl : j = k := by omega
              go_wp2
              go_roundw
              case rel => exact ⟨j + 1, by omega, by go_num, hbr2, upto_step hm.out ⟨hr.out.1, hr.out.2, h0.out, hm2.out⟩⟩
              case measure => simp [intOf]; omega
      · have hno : Hid (¬ SV xs) := fun v => hr (by have := v.lo hkx.out; rw [hlen.out] at this; exact ⟨this.1, this.2.1⟩)
        have hr := hid hr
        clear hc
        go_wp2_with fail
        refine (inRange_any _ _ _ _).mono ?_
        rintro e w' ⟨rfl, hww⟩
        subst hww
        rw [decide_eq_false hr.out]
        go_wp2
        go_ret
        exact says_false hno.out hbr
    · obtain rfl : k = n := by omega
      go_wp2
      go_ret
      refine says_bool (decide_eq_decide.2 ⟨fun h5 => SV.of (by rw [hlen.out]; omega) (fun j hj => ?_), fun v => ?_⟩) hbr
      · rw [hlen.out] at hj ⊢
        exact hm.out j hj
      · have := v.len
        rw [hlen.out] at this
        omega

end Go.Proofs.YtaceiebmgnhdgaaGreatDoor
