/- Orders out of texts, in the program and in its model. Condition: at most 2^20 bytes. -/
import Derived.Test.YtaceiebmgnhdgaaGreatDoorBnd
namespace Go.Proofs.YtaceiebmgnhdgaaGreatDoor
open Go.RowKit

def prs (s : ByteArray) : List Int := s.data.toList.map fun c => (c.toNat : Int) - 48
theorem prs_len (s : ByteArray) : (prs s).length = s.size := by unfold prs; rw [List.length_map, Array.length_toList]; rfl
theorem el_prs {s : ByteArray} {k : Nat} (h : k < s.size) : el (prs s) k = (s[k].toNat : Int) - 48 := by
  rw [el_lt (by rw [prs_len]; exact h)]
  unfold prs
  rw [List.getElem_map, Array.getElem_toList]
  rfl

set_option maxHeartbeats 1000000 in
theorem parse0_any (s : ByteArray) (w : World) (hs : s.size ≤ 1048576) :
    Calls Tryz.prog 33 #[.string s] w (Made2 w (prs s) (decide (Valid (prs s)))) := by
  go_enter Tryz.func33, Tryz.ntmps33
  go_wp2
  go_loopw [4, 5] (fun v i wr => ∃ (k : Nat) (ao' : Option Addr) (cap' : Nat), k ≤ s.size ∧ v = .slice ao' k cap' ∧ i = .int .i64 k ∧ Below w.heap.size w wr ∧ Own wr w.heap.size (.slice ao' k cap') ((List.range k).map (el (prs s))))
    (fun v _ _ => s.size - lenOf v)
  case atStart => exact ⟨0, _, _, Nat.zero_le _, rfl, rfl, (Below.refl _ _).alloc (Nat.le_refl _) _, own_lit w⟩
  case round =>
    obtain ⟨k, ao', cap', hk, rfl, rfl, hbr, ho⟩ := hrel
    by_cases hlt : k < s.size
    · have hsz := hbr.size
      have hl : ((List.range k).map (el (prs s))).length ≤ 2000000 := by rw [map_range_len]; omega
      have hep := hid (el_prs hlt)
      have h255 : (s[k].toNat : Int) ≤ 255 := by have := s[k].toNat_lt; omega
      go_wp2_with (at_builtin; refine app_int _ ((s[k].toNat : Int) - 48) rfl _ _ rfl w.heap.size _ _ rfl ho rfl hl hsz ?_)
      intro u' w' ho' hg'
      have hb' := below_app hbr ho hg'
      rw [← hep.out, ← map_range_succ (el (prs s))] at ho'
      obtain ⟨ao', cap', rfl, hs'⟩ := ho'.sl
      rw [map_range_len] at ho' ⊢
      clear hs'
      go_wp2
      go_roundw
      case rel => exact ⟨k + 1, _, _, by omega, rfl, by go_num, hb', ho'⟩
      case measure => simp [lenOf]; omega
    · have hks : k = s.size := by omega
      have e : (List.range k).map (el (prs s)) = prs s := by
        rw [hks]
        exact ext_el (by rw [map_range_len, prs_len]) (fun j hj => by rw [map_range_len] at hj; rw [el_map hj])
      rw [e] at ho
      have Hks := hid hks
      clear e hks
      go_wp2_with fail
      refine (validS_any _ _ _ (prs s) _ ho.read).mono ?_
      rintro e w2 ⟨rfl, hb2⟩
      go_wp2
      go_ret2
      exact ⟨_, rfl, ho.below (Nat.le_refl _) hb2, hbr.trans (hb2.mono hbr.size)⟩

set_option maxHeartbeats 1000000 in
theorem parseI_any (s : ByteArray) (w : World) (hs : s.size ≤ 1048576) :
    Calls Tryz.prog 66 #[.string s] w (Made2 w (onV (prs s) (prs s)) (decide (Valid (prs s)))) := by
  by_cases h7 : s.size ≤ 7
  · go_enter Tryz.func66, Tryz.ntmps66
    go_wp2_with (at_make; refine make_ints _ rfl _ _ rfl _ _ s.size rfl rfl rfl rfl (by omega) ?_)
    intro w2 ho2 hb2
    go_wp2
    go_loopw [14] (fun i wr => ∃ (k : Nat), k ≤ s.size ∧ i = .int .i64 k ∧ Below w.heap.size w wr ∧ OwS wr w.heap.size w.heap.size s.size s.size (iter (fun (a : List Int) k => a.set k (el (prs s) k)) (List.replicate s.size 0) k))
      (fun i _ => s.size - (intOf i).toNat)
    case atStart => exact ⟨0, Nat.zero_le _, rfl, hb2, ho2⟩
    case round =>
      obtain ⟨k, hk, rfl, hbr, hr⟩ := hrel
      by_cases hlt : k < s.size
      · have hfr := hr.frozen k
        have hcur := hr.cell hlt
        have hep := hid (el_prs hlt)
        have h255 : (s[k].toNat : Int) ≤ 255 := by have := s[k].toNat_lt; omega
        go_wp2
        go_roundw
        case rel =>
          refine ⟨k + 1, by omega, by go_num, hbr.setCell (Nat.le_refl _) _, ?_⟩
          have := hr.set k ((s[k].toNat : Int) - 48)
          rw [iter, hep.out]
          exact this
        case measure => simp [intOf]; omega
      · have hks : k = s.size := by omega
        have e : iter (fun (a : List Int) k => a.set k (el (prs s) k)) (List.replicate s.size 0) k = prs s := by
          rw [hks, iter_set]
          exact ext_el (by rw [map_range_len, prs_len]) (fun j hj => by rw [map_range_len] at hj; rw [el_map hj])
        rw [e] at hr
        have Hks := hid hks
        clear e hks
        go_wp2_with fail
        refine (validI_any _ _ _ (prs s) _ hr.sl).mono ?_
        rintro e w3 ⟨rfl, hb3⟩
        have hb4 := hbr.trans (hb3.mono hbr.size)
        by_cases hv : Valid (prs s)
        · have Hv := hid hv
          go_wp2
          go_ret2
          exact made2_yes Hv.out (by rw [onV_yes Hv.out]; exact hr.own.below (Nat.le_refl _) hb3) hb4
        · have Hv := hid hv
          go_wp2
          go_ret2
          exact made2_no Hv.out (onV_no Hv.out) hb4
  · have hno : Hid (¬ Valid (prs s)) := fun v => h7 (by have := v.len; rw [prs_len] at this; exact this)
    go_enter Tryz.func66, Tryz.ntmps66
    go_wp2
    go_ret2
    exact made2_no hno.out (onV_no hno.out) (Below.refl _ _)

end Go.Proofs.YtaceiebmgnhdgaaGreatDoor
