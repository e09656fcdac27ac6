/- Values taken out, in the model. Condition: the lists' cells can be read. -/
import Derived.Test.YthaiodjeamjjnaaIns
namespace Go.Proofs.Ythaiodjeamjjnaa
open Go.RowKit

/-- How many numbers among the first k come ahead of that at i. -/
def rkC (xs : List Int) (i : Nat) : Int := cntP (rkF xs i) xs.length

set_option maxHeartbeats 4000000 in
theorem rankAll_any (ao : Option Addr) (n cap : Nat) (xs : List Int) (w : World) (h : Sl w ao n cap xs) (h7 : n ≤ 1000) :
    Calls Try.prog 47 #[.slice ao n cap] w (Made w (rkA xs)) := by
  have hbig := h.big
  have hlen := hid h.len
  go_enter Try.func47, Try.ntmps47
  go_wp2
  go_loopw [3, 4] (fun v i wr => ∃ (k : Nat) (ao' : Option Addr) (cap' : Nat), k ≤ n ∧ v = .slice ao' k cap' ∧ i = .int .i64 k ∧ Below w.heap.size w wr ∧ Own wr w.heap.size (.slice ao' k cap') ((List.range k).map (rkC xs)))
    (fun v _ _ => n - lenOf v)
  case atStart => exact ⟨0, _, _, Nat.zero_le _, rfl, rfl, (Below.refl _ _).alloc (Nat.le_refl _) _, own_lit w⟩
  case round =>
    obtain ⟨k, ao', cap', hk, rfl, rfl, hbr, ho⟩ := hrel
    by_cases hlt : k < n
    · obtain ⟨b, off, rfl, hblt, hc⟩ := h.row (by omega)
      have hcc := hid hc
      have hi1 : (k : Int) < n := by omega
      clear hc
      go_wp2
      go_loopw [5, 6] (fun c i wr => ∃ (j : Nat), j ≤ n ∧ c = .int .i64 (cntP (rkF xs k) j) ∧ i = .int .i64 j ∧ Below w.heap.size w wr ∧ Own wr w.heap.size (.slice ao' k cap') ((List.range k).map (rkC xs)))
        (fun _ i _ => n - (intOf i).toNat)
      case atStart => exact ⟨0, Nat.zero_le _, rfl, rfl, hbr, ho⟩
      case round =>
        obtain ⟨j, hj, rfl, rfl, hbj, hoj⟩ := hrel
        have hsz := hbj.size
        by_cases hlt2 : j < n
        · have hcell := (hbj.cell (p := ⟨b, off + k, none⟩) hblt).trans (hcc.out k hlt)
          have hcell2 := (hbj.cell (p := ⟨b, off + j, none⟩) hblt).trans (hcc.out j hlt2)
          have hi2 : (j : Int) < n := by omega
          have hbd := cntP_bd (rkF xs k) j
          have hbd0 := hbd.1
          have hbd1 := hbd.2
          clear hbd
          by_cases c1 : el xs j < el xs k
          · have hf := hid (cntP_yes (p := rkF xs k) (k := j) (by simp [rkF, c1]))
            go_wp2
            go_quiet (fail)
            go_wp2
            go_roundw
            case rel => exact ⟨j + 1, by omega, by rw [hf.out], by go_num, drewN_below hbj _, hoj.drewN _⟩
            case measure => simp [intOf]; omega
          · by_cases c2 : el xs j = el xs k
            · by_cases c3 : j < k
              · have hf := hid (cntP_yes (p := rkF xs k) (k := j) (by simp [rkF, c2, c3]))
                have hi3 : (j : Int) < k := by omega
                have ht : (el xs j == el xs k) = true := by simpa using c2
                have c1' : el xs k ≤ el xs j := by omega
                clear c2
                go_wp2
                go_quiet (fail)
                go_wp2
                go_roundw
                case rel => exact ⟨j + 1, by omega, by rw [hf.out], by go_num, drewN_below hbj _, hoj.drewN _⟩
                case measure => simp [intOf]; omega
              · have hf := hid (cntP_no (p := rkF xs k) (k := j) (by simp [rkF, c2, c3]))
                have hi3 : (k : Int) ≤ j := by omega
                have ht : (el xs j == el xs k) = true := by simpa using c2
                have c1' : el xs k ≤ el xs j := by omega
                clear c2
                go_wp2
                go_quiet (fail)
                go_wp2
                go_roundw
                case rel => exact ⟨j + 1, by omega, by rw [hf.out], by go_num, drewN_below hbj _, hoj.drewN _⟩
                case measure => simp [intOf]; omega
            · have hf := hid (cntP_no (p := rkF xs k) (k := j) (by simp [rkF, c1, c2]))
              have ht : (el xs j == el xs k) = false := by simpa using c2
              have c1' : el xs k ≤ el xs j := by omega
              clear c2
              go_wp2
              go_quiet (fail)
              go_wp2
              go_roundw
              case rel => exact ⟨j + 1, by omega, by rw [hf.out], by go_num, drewN_below hbj _, hoj.drewN _⟩
              case measure => simp [intOf]; omega
        · obtain rfl : j = n := by omega
          have ec : cntP (rkF xs k) j = rkC xs k := by rw [rkC, hlen.out]
          rw [ec]
          have hl : ((List.range k).map (rkC xs)).length ≤ 2000000 := by rw [map_range_len]; omega
          clear ec
          go_wp2_with (at_builtin; refine app_int _ _ rfl _ _ rfl w.heap.size _ _ rfl hoj rfl hl hsz ?_)
          intro u' w' ho' hg'
          have hb' := below_app hbj hoj hg'
          rw [← map_range_succ (rkC xs)] at ho'
          have hl2 : ((List.range (k + 1)).map (rkC xs)).length = k + 1 := map_range_len _
          obtain ⟨ao', cap', rfl, hs'⟩ := ho'.sl
          rw [hl2] at ho' ⊢
          clear hl2 hs'
          go_wp2
          go_roundw
          case rel => exact ⟨k + 1, _, _, by omega, rfl, by go_num, hb', ho'⟩
          case measure => simp [lenOf]; omega
    · obtain rfl : k = n := by omega
      go_wp2
      go_ret
      refine ⟨_, rfl, ?_, hbr⟩
      rw [rkA, hlen.out]
      have : rkC xs = fun i => cntP (rkF xs i) k := by funext i; rw [rkC, hlen.out]
      rw [← this]
      exact ho

end Go.Proofs.Ythaiodjeamjjnaa
