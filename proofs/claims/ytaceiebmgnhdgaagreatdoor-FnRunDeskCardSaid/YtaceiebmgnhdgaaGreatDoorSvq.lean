/- Whether numbers are a signed order, in the model: a call that only reads. Condition: the list's cells can be read. -/
import Derived.Test.YtaceiebmgnhdgaaGreatDoorSgn
namespace Go.Proofs.YtaceiebmgnhdgaaGreatDoor
open Go.RowKit

theorem Sl.drewG {w : World} {ao : Option Addr} {n cap : Nat} {xs : List Int} (h : Sl w ao n cap xs) (m : Nat) : Sl (w.drewN m) ao n cap xs := ⟨h.len, h.le, h.max, h.row⟩
theorem atQ {w wr : World} {a : Addr} {v : Value} (h : Hid (∃ q, wr = w.drewN q)) (hc : w.cell? a = some v) : wr.cell? a = some v := by
  obtain ⟨q, e⟩ := h.out
  rw [e]; exact hc
theorem drewQ {w wr : World} (h : Hid (∃ q, wr = w.drewN q)) : ∃ q, wr.drew = w.drewN q := by
  obtain ⟨q, e⟩ := h.out
  rw [e]
  exact ⟨q + 1, rfl⟩
theorem quietG_no {p : Prop} [Decidable p] {w w' : World} (h : ¬ p) (hw : ∃ q, w' = w.drewN q) : Ending.returned (.bool false) = .returned (.bool (decide p)) ∧ ∃ q, w' = w.drewN q := ⟨by rw [decide_eq_false h], hw⟩
theorem quietG_to {P : Program} {f : FuncId} {a : Array Value} {w : World} {v v' : Bool} (h : Calls P f a w fun e w' => e = .returned (.bool v) ∧ ∃ q, w' = w.drewN q) (e : v = v') : Calls P f a w fun e w' => e = .returned (.bool v') ∧ ∃ q, w' = w.drewN q := e ▸ h

set_option maxRecDepth 20000 in
set_option maxHeartbeats 2000000 in
theorem svQ_any (ao : Option Addr) (n cap : Nat) (xs : List Int) (w : World) (h : Sl w ao n cap xs) :
    Calls Tryz.prog 27 #[.slice ao n cap] w fun e w' => e = .returned (.bool (decide (SV xs))) ∧ ∃ q, w' = w.drewN q := by
  have hbig := h.big
  have hlen := hid h.len
  go_enter Tryz.func27, Tryz.ntmps27
  go_wp2
  go_loopw [3] (fun i wr => ∃ (k : Nat), k ≤ n ∧ i = .int .i64 k ∧ Hid (∃ q, wr = w.drewN q) ∧ Hid (∀ j, j < k → -(n : Int) ≤ el xs j ∧ el xs j ≤ n ∧ el xs j ≠ 0 ∧ ∀ t, t < j → ab (el xs t) ≠ ab (el xs j)))
    (fun i _ => n - (intOf i).toNat)
  case atStart => exact ⟨0, Nat.zero_le _, rfl, hid ⟨0, rfl⟩, fun j hj => by omega⟩
  case round =>
    obtain ⟨k, hk, rfl, hbr, hm⟩ := hrel
    by_cases hlt : k < n
    · obtain ⟨b, off, rfl, hblt, hc⟩ := h.row (by omega)
      have hcell := atQ hbr (hc k hlt)
      have hkx : k < xs.length := by rw [hlen.out]; exact hlt
      have hkx := hid hkx
      by_cases hr : -(n : Int) ≤ el xs k ∧ el xs k ≤ n
      · by_cases h0 : el xs k = 0
        · have hno : Hid (¬ SV xs) := fun v => (v.lo hkx.out).2.2 h0
          have h00 : (el xs k == 0) = true := by simpa using h0
          have hr := hid hr
          clear h0 hc
          go_wp2_with fail
          refine (inRange_any _ _ _ _).mono ?_
          rintro e w' ⟨rfl, hww⟩
          subst hww
          rw [decide_eq_true hr.out]
          go_wp2
          go_ret
          exact quietG_no hno.out hbr.out
        · have h00 : (el xs k == 0) = false := by simpa using h0
          have hr := hid hr
          have h0 := hid h0
          have hcc := hid hc
          clear hc
          go_wp2_with fail
          refine (inRange_any _ _ _ _).mono ?_
          rintro e w' ⟨rfl, hww⟩
          subst hww
          rw [decide_eq_true hr.out]
          go_wp2
          obtain ⟨wo, hwo⟩ : ∃ wo : World, wo = wr := ⟨_, rfl⟩
          subst hwo
          go_loopw [4] (fun i wr => ∃ (j : Nat), j ≤ k ∧ i = .int .i64 j ∧ Hid (∃ q, wr = w.drewN q) ∧ Hid (∀ t, t < j → ab (el xs t) ≠ ab (el xs k)))
            (fun i _ => k - (intOf i).toNat)
          case atStart => exact ⟨0, Nat.zero_le _, rfl, hbr, fun j hj => by omega⟩
          case round =>
            obtain ⟨j, hj, rfl, hbr2, hm2⟩ := hrel
            by_cases hjlt : j < k
            · have hcellk : wr.drew.cell? ⟨b, off + k, none⟩ = some (.int .i64 (el xs k)) := atQ (hid (drewQ hbr2)) (hcc.out k hlt)
              have hcell2 : wr.drew.cell? ⟨b, off + j, none⟩ = some (.int .i64 (el xs j)) := atQ (hid (drewQ hbr2)) (hcc.out j (by omega))
              have hi1 : (k : Int) < n := by omega
              have hi2 : (j : Int) < n := by omega
              have hbk : Hid (-9223372036854775807 ≤ el xs k ∧ el xs k ≤ 9223372036854775807) := by have := hr.out; exact ⟨by omega, by omega⟩
              have hbj : Hid (-9223372036854775807 ≤ el xs j ∧ el xs j ≤ 9223372036854775807) := by have := hm.out j hjlt; exact ⟨by omega, by omega⟩
              clear hcell
              by_cases he : ab (el xs j) = ab (el xs k)
              · have he2 : (ab (el xs j) == ab (el xs k)) = true := by simpa using he
                have hno : Hid (¬ SV xs) := fun v => v.ne hjlt hkx.out he
                clear he
                go_wp2_with fail
                go_region_with (first
                  | (go_at_call 44; refine (sizeS_any (el xs j) _ hbj.out).mono ?_; rintro e wb ⟨rfl, hwb⟩; subst hwb)
                  | (go_at_call 44; refine (sizeS_any (el xs k) _ hbk.out).mono ?_; rintro e wb ⟨rfl, hwb⟩; subst hwb))
                all_goals go_wp2
                all_goals go_ret
                all_goals exact quietG_no hno.out (drewQ hbr2)
              · have he2 : (ab (el xs j) == ab (el xs k)) = false := by simpa using he
                have he := hid he
                go_wp2_with fail
                go_region_with (first
                  | (go_at_call 44; refine (sizeS_any (el xs j) _ hbj.out).mono ?_; rintro e wb ⟨rfl, hwb⟩; subst hwb)
                  | (go_at_call 44; refine (sizeS_any (el xs k) _ hbk.out).mono ?_; rintro e wb ⟨rfl, hwb⟩; subst hwb))
                all_goals (
                  go_wp2
                  go_roundw
                  case rel => exact ⟨j + 1, by omega, by go_num, hid (drewQ hbr2), upto_step hm2.out he.out⟩
                  case measure => simp [intOf]; omega)
            · obtain rfl : j = k := by omega
              go_wp2
              go_roundw
              case rel => exact ⟨j + 1, by omega, by go_num, hbr2, upto_step hm.out ⟨hr.out.1, hr.out.2, h0.out, hm2.out⟩⟩
              case measure => simp [intOf]; omega
      · have hno : Hid (¬ SV xs) := fun v => hr (by have := v.lo hkx.out; rw [hlen.out] at this; exact ⟨this.1, this.2.1⟩)
        have hr := hid hr
        clear hc
        go_wp2_with fail
        refine (inRange_any _ _ _ _).mono ?_
        rintro e w' ⟨rfl, hww⟩
        subst hww
        rw [decide_eq_false hr.out]
        go_wp2
        go_ret
        exact quietG_no hno.out hbr.out
    · obtain rfl : k = n := by omega
      go_wp2
      go_ret
      refine ⟨ret_eq (congrArg Value.bool (decide_eq_decide.2 ⟨fun h5 => SV.of (by rw [hlen.out]; omega) (fun j hj => ?_), fun v => ?_⟩)), hbr.out⟩
      · rw [hlen.out] at hj ⊢
        exact hm.out j hj
      · have := v.len
        rw [hlen.out] at this
        omega

end Go.Proofs.YtaceiebmgnhdgaaGreatDoor
