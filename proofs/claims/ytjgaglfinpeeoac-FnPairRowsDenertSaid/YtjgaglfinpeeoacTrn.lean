/- The columns of rows. Condition: the rows can be read, and are of one length. -/
import Derived.Test.YtjgaglfinpeeoacBnd
import Derived.Test.YtjgaglfinpeeoacPrr
namespace Go.Proofs.Ytjgaglfinpeeoac
open Go.RowKit

theorem turnR_len (L M : Nat) (yss : List (List Int)) : (turnR L M yss).length = M := by simp [turnR]
theorem take_turnR {L M k : Nat} {yss : List (List Int)} (h : k < M) : (turnR L M yss).take (k + 1) = (turnR L M yss).take k ++ [(List.range L).map fun x => el (ell yss x) k] := by
  rw [List.take_succ_eq_append_getElem (by rw [turnR_len]; exact h)]
  congr 1
  simp [turnR]

theorem turned_nil (ao : Option Addr) (cap : Nat) (w : World) : Calls Try.prog 36 #[.slice ao 0 cap] w (MadeL w []) := by
  go_enter Try.func36, Try.ntmps36
  go_wp2
  go_loopw [3, 4] (fun v i wr => v = .slice (some ⟨w.heap.size, 0, none⟩) 0 0 ∧ i = .int .i64 0 ∧ wr = w.alloc (.cells #[] 28)) (fun _ _ _ => 0)
  case atStart => exact ⟨rfl, rfl, rfl⟩
  case round =>
    obtain ⟨rfl, rfl, rfl⟩ := hrel
    go_wp2
    go_ret
    exact ⟨_, rfl, (ownL_lit (Nat.le_refl _)).now, (Below.refl _ _).alloc (Nat.le_refl _) _⟩

set_option maxHeartbeats 2000000 in
theorem turned_any (ao : Option Addr) (n cap : Nat) (yss : List (List Int)) (w : World) (h : SlL w ao n cap yss) (M : Nat) (hn0 : 0 < n) (hn : n ≤ 1000) (hM : M ≤ 1000) (HM : Hid (∀ j, j < n → (ell yss j).length = M)) :
    Calls Try.prog 36 #[.slice ao n cap] w (MadeL w (turnR n M yss)) := by
  have hbig := h.big
  have hn0i : (0 : Int) < n := by omega
  go_enter Try.func36, Try.ntmps36
  go_wp2
  go_loopw [3, 4] (fun v i wr => ∃ (k : Nat) (ao' : Option Addr) (cap' : Nat), k ≤ M ∧ v = .slice ao' k cap' ∧ i = .int .i64 k ∧ Below w.heap.size w wr ∧ Hid (OwnL wr w.heap.size wr.heap.size (.slice ao' k cap') ((turnR n M yss).take k)))
    (fun _ i _ => M - (intOf i).toNat)
  case atStart => exact ⟨0, _, _, Nat.zero_le _, rfl, rfl, (Below.refl _ _).alloc (Nat.le_refl _) _, hid (by rw [List.take_zero]; exact (ownL_lit (Nat.le_refl _)).now)⟩
  case round =>
    obtain ⟨k, ao', cap', hk, rfl, rfl, hbr, HO⟩ := hrel
    obtain ⟨b, off, rfl, hblt, hc⟩ := (h.later hbr).row hn0
    obtain ⟨a0, c0, hcell0, -⟩ := hc 0 hn0
    rw [HM.out 0 hn0, Nat.add_zero] at hcell0
    have Hc := hid hc
    clear hc
    by_cases hlt : k < M
    · have hki : (k : Int) < M := by omega
      have Ht := hid (take_turnR (L := n) (M := M) (yss := yss) hlt)
      have hl0 : ((turnR n M yss).take k).length ≤ 2000000 := by rw [List.length_take]; omega
      go_wp2
      obtain ⟨wo, hwo⟩ : ∃ wo : World, wo = wr := ⟨_, rfl⟩
      subst hwo
      go_loopw [5, 6] (fun v i wr => ∃ (t : Nat) (ao4 : Option Addr) (cap4 : Nat), t ≤ n ∧ v = .slice ao4 t cap4 ∧ i = .int .i64 t ∧ Below wo.heap.size wo wr ∧ Own wr wo.heap.size (.slice ao4 t cap4) ((List.range t).map fun x => el (ell yss x) k))
        (fun _ i _ => n - (intOf i).toNat)
      case atStart => exact ⟨0, _, _, Nat.zero_le _, rfl, rfl, (Below.refl _ _).alloc (Nat.le_refl _) _, own_lit wo⟩
      case round =>
        obtain ⟨t, ao4, cap4, ht, rfl, rfl, hb4, ho4⟩ := hrel
        by_cases htn : t < n
        · have hti : (t : Int) < n := by omega
          obtain ⟨ai, ci, hci, hsi⟩ := Hc.out t htn
          rw [HM.out t htn] at hci hsi
          have hcell := (hb4.cell (p := ⟨b, off + t, none⟩) hblt).trans hci
          obtain ⟨b2, off2, rfl, hblt2, hc2⟩ := (hsi.later hb4).row (by omega)
          have hel := hc2 k hlt
          have hl4 : ((List.range t).map fun x => el (ell yss x) k).length ≤ 2000000 := by rw [map_range_len]; omega
          have hsz4 := hb4.size
          clear hc2 hci hsi
          go_wp2_with (at_builtin; refine app_int _ _ rfl _ _ rfl wo.heap.size _ _ rfl ho4 rfl hl4 hsz4 ?_)
          intro u' w' ho' hg'
          have hb' := below_app hb4 ho4 hg'
          rw [← map_range_succ (fun x => el (ell yss x) k)] at ho'
          obtain ⟨ao6, cap6, rfl, -⟩ := ho'.sl
          rw [map_range_len] at ho' ⊢
          clear hcell hel ho4 hg'
          go_wp2
          go_roundw
          case rel => exact ⟨t + 1, _, _, by omega, rfl, by go_num, hb', ho'⟩
          case measure => simp [intOf]; omega
        · obtain rfl : t = n := by omega
          have hb5 := hbr.trans (hb4.mono hbr.size)
          go_wp2_with (at_builtin; refine app_lst wo _ _ ((List.range t).map fun x => el (ell yss x) k) rfl _ _ rfl w.heap.size _ _ _ HO.out hb4 ho4 rfl rfl hl0 ?_)
          intro u' w5 ho5 hb6
          rw [← Ht.out] at ho5
          obtain ⟨ao5, cp5, rfl, -⟩ := ho5.sl
          have hl5 : ((turnR t M yss).take (k + 1)).length = k + 1 := by rw [List.length_take, turnR_len]; omega
          rw [hl5] at ho5 ⊢
          have HO5 := hid ho5
          have hb7 := hb5.trans hb6
          clear ho5 ho4 hb6 hb4 hb5 hl5
          go_wp2
          go_roundw
          case rel => exact ⟨k + 1, _, _, by omega, rfl, by go_num, hb7, HO5⟩
          case measure => simp [intOf]; omega
    · obtain rfl : k = M := by omega
      have HO9 : Hid (OwnL wr w.heap.size wr.heap.size (.slice ao' k cap') (turnR n k yss)) := hid (by have h9 := HO.out; rwa [List.take_of_length_le (by rw [turnR_len]; exact Nat.le_refl _)] at h9)
      clear HO
      go_wp2
      go_ret
      exact ⟨_, rfl, HO9.out, hbr⟩

end Go.Proofs.Ytjgaglfinpeeoac
