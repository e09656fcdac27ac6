/- Values taken out, in the model. Condition: the lists' cells can be read. -/
import Derived.Test.YtlhphgldmefefabIns
namespace Go.Proofs.Ytlhphgldmefefab
open Go.RowKit

/-- How many numbers among the first k come ahead of that at i. -/
def rkC (xs : List Int) (i : Nat) : Int := cntP (rkF xs i) xs.length

set_option maxHeartbeats 4000000 in
theorem rankAll_any (ao : Option Addr) (n cap : Nat) (xs : List Int) (w : World) (h : Sl w ao n cap xs) (h7 : n ≤ 1000) :
    Calls Try.prog 92 #[.slice ao n cap] w (Made w (rkA xs)) := by
  have hbig := h.big
  have hlen := hid h.len
  go_enter Try.func92, Try.ntmps92
  go_wp2
  go_loopw [3, 4] (fun v i wr => ∃ (k : Nat) (ao' : Option Addr) (cap' : Nat), k ≤ n ∧ v = .slice ao' k cap' ∧ i = .int .i64 k ∧ Below w.heap.size w wr ∧ Own wr w.heap.size (.slice ao' k cap') ((List.range k).map (rkC xs)))
    (fun v _ _ => n - lenOf v)
  case atStart => exact ⟨0, _, _, Nat.zero_le _, rfl, rfl, (Below.refl _ _).alloc (Nat.le_refl _) _, own_lit w⟩
  case round =>
    obtain ⟨k, ao', cap', hk, rfl, rfl, hbr, ho⟩ := hrel
    by_cases hlt : k < n
    · obtain ⟨b, off, rfl, hblt, hc⟩ := h.row (by omega)
      have hcc := hid hc
      have hi1 : (k : Int) < n := by omega
      clear hc
      go_wp2
      go_loopw [5, 6] (fun c i wr => ∃ (j : Nat), j ≤ n ∧ c = .int .i64 (cntP (rkF xs k) j) ∧ i = .int .i64 j ∧ Below w.heap.size w wr ∧ Own wr w.heap.size (.slice ao' k cap') ((List.range k).map (rkC xs)))
        (fun _ i _ => n - (intOf i).toNat)
      case atStart => exact ⟨0, Nat.zero_le _, rfl, rfl, hbr, ho⟩
      case round =>
        obtain ⟨j, hj, rfl, rfl, hbj, hoj⟩ := hrel
        have hsz := hbj.size
        by_cases hlt2 : j < n
        · have hcell := (hbj.cell (p := ⟨b, off + k, none⟩) hblt).trans (hcc.out k hlt)
          have hcell2 := (hbj.cell (p := ⟨b, off + j, none⟩) hblt).trans (hcc.out j hlt2)
          have hi2 : (j : Int) < n := by omega
          have hbd := cntP_bd (rkF xs k) j
          have hbd0 := hbd.1
          have hbd1 := hbd.2
          clear hbd
          by_cases c1 : el xs j < el xs k
          · have hf := hid (cntP_yes (p := rkF xs k) (k := j) (by simp [rkF, c1]))
            go_wp2
            go_quiet (fail)
            go_wp2
            go_roundw
            case rel => exact ⟨j + 1, by omega, by rw [hf.out], by go_num, drewN_below hbj _, hoj.drewN _⟩
            case measure => simp [intOf]; omega
          · by_cases c2 : el xs j = el xs k
            · by_cases c3 : j < k
              · have hf := hid (cntP_yes (p := rkF xs k) (k := j) (by simp [rkF, c2, c3]))
                have hi3 : (j : Int) < k := by omega
                have ht : (el xs j == el xs k) = true := by simpa using c2
                have c1' : el xs k ≤ el xs j := by omega
                clear c2
                go_wp2
                go_quiet (fail)
                go_wp2
                go_roundw
                case rel => exact ⟨j + 1, by omega, by rw [hf.out], by go_num, drewN_below hbj _, hoj.drewN _⟩
                case measure => simp [intOf]; omega
              · have hf := hid (cntP_no (p := rkF xs k) (k := j) (by simp [rkF, c2, c3]))
                have hi3 : (k : Int) ≤ j := by omega
                have ht : (el xs j == el xs k) = true := by simpa using c2
                have c1' : el xs k ≤ el xs j := by omega
                clear c2
                go_wp2
                go_quiet (fail)
                go_wp2
                go_roundw
                case rel => exact ⟨j + 1, by omega, by rw [hf.out], by go_num, drewN_below hbj _, hoj.drewN _⟩
                case measure => simp [intOf]; omega
            · have hf := hid (cntP_no (p := rkF xs k) (k := j) (by simp [rkF, c1, c2]))
              have ht : (el xs j == el xs k) = false := by simpa using c2
              have c1' : el xs k ≤ el xs j := by omega
              clear c2
              go_wp2
              go_quiet (fail)
              go_wp2
              go_roundw
              case rel => exact ⟨j + 1, by omega, by rw [hf.out], by go_num, drewN_below hbj _, hoj.drewN _⟩
              case measure => simp [intOf]; omega
        · obtain rfl : j = n := by omega
          have ec : cntP (rkF xs k) j = rkC xs k := by rw [rkC, hlen.out]
          rw [ec]
          have hl : ((List.range k).map (rkC xs)).length ≤ 2000000 := by rw [map_range_len]; omega
          clear ec
          go_wp2_with (at_builtin; refine app_int _ _ rfl _ _ rfl w.heap.size _ _ rfl hoj rfl hl hsz ?_)
          intro u' w' ho' hg'
          have hb' := below_app hbj hoj hg'
          rw [← map_range_succ (rkC xs)] at ho'
          have hl2 : ((List.range (k + 1)).map (rkC xs)).length = k + 1 := map_range_len _
          obtain ⟨ao', cap', rfl, hs'⟩ := ho'.sl
          rw [hl2] at ho' ⊢
          clear hl2 hs'
          go_wp2
          go_roundw
          case rel => exact ⟨k + 1, _, _, by omega, rfl, by go_num, hb', ho'⟩
          case measure => simp [lenOf]; omega
    · obtain rfl : k = n := by omega
      go_wp2
      go_ret
      refine ⟨_, rfl, ?_, hbr⟩
      rw [rkA, hlen.out]
      have : rkC xs = fun i => cntP (rkF xs i) k := by funext i; rw [rkC, hlen.out]
      rw [← this]
      exact ho

set_option maxHeartbeats 1000000 in
theorem flatten_any (ao : Option Addr) (n cap : Nat) (xs : List Int) (w : World) (h : Sl w ao n cap xs) (h7 : n ≤ 1000) :
    Calls Try.prog 74 #[.slice ao n cap] w (Made w (rkA xs)) := by
  have hbig := h.big
  go_enter Try.func74, Try.ntmps74
  go_wp2_with fail
  refine (rankAll_any _ _ _ xs _ h h7).mono ?_
  rintro e w1 ⟨u1, rfl, o1, b1⟩
  go_wp2
  go_ret
  exact ⟨_, rfl, o1, b1⟩

set_option maxHeartbeats 2000000 in
theorem rmS_any (ao : Option Addr) (n cap : Nat) (xs : List Int) (k : Int) (w : World) (h : Sl w ao n cap xs) (hnil : ao = none → cap = 0) :
    Calls Try.prog 40 #[.slice ao n cap, .int .i64 k] w (Made2 w (onRT xs k) (decide (RT xs k))) := by
  have hbig := h.big
  have hlen := hid h.len
  have hle := h.le
  have hmax : cap ≤ 9223372036854775807 := by have := h.max; unfold maxLen at this; omega
  by_cases hv : Valid xs
  · have h7 : n ≤ 7 := by have := hv.len; rw [hlen.out] at this; exact this
    have Hv := hid hv
    clear hv
    by_cases hk : 0 ≤ k ∧ k ≤ (n : Int) - 1
    · have Hit : Hid (RT xs k) := hid ⟨Hv.out, hk.1, by rw [hlen.out]; omega⟩
      have Hk := hid hk
      obtain ⟨m, rfl⟩ := Int.eq_ofNat_of_zero_le hk.1
      have hmn : m < n := by omega
      clear hk
      go_enter Try.func40, Try.ntmps40
      go_wp2_with fail
      refine (validS_any _ _ _ xs _ h).mono ?_
      rintro e w1 ⟨rfl, hb1⟩
      rw [decide_eq_true Hv.out]
      go_wp2_with fail
      refine (inRg_any _ _ _ _).mono ?_
      rintro e w' ⟨rfl, hww⟩
      subst hww
      rw [decide_eq_true Hk.out]
      have h1 := h.later hb1
      have hsz := hb1.size
      have hi3 : (m : Int) ≤ cap := by omega
      have hi4 : (m : Int) + 1 ≤ n := by omega
      have hwt : IntKind.i64.wrap ((m : Int) + 1) = (m : Int) + 1 := IntWalk.i64_in _ ⟨by omega, by omega⟩
      have htn : ((m : Int) + 1).toNat = m + 1 := by omega
      have ht0 : 0 ≤ (m : Int) + 1 := by omega
      go_wp2_with fail
      go_region_law (first
        | (refine step_app rfl (.tmp 17) (.tmp 20) rfl w1 (.slice (some ⟨w1.heap.size, 0, none⟩) 0 0) [] rfl (by first | exact own_lit_at (Nat.le_refl _) | exact (own_lit_at (Nat.le_refl _)).drew) ao m cap (xs.take m) rfl (by first | exact ((h1.take (by omega)).drew).alloc _ | exact (((h1.take (by omega)).alloc _).drew)) hnil (by simp; omega) (by go_grown) ?_
           intro u1 wa ho1 hg1 hb1x)
        | (refine step_app rfl (.tmp 21) (.tmp 25) rfl w1 u1 (xs.take m) rfl (by first | exact ho1 | exact ho1.drew) _ (n - (m + 1)) (cap - (m + 1)) (xs.drop (m + 1)) rfl ((h1.below (Nat.le_refl _) hb1x).dropIf (by omega)) (drop_nil hnil) (by rw [List.length_take, hlen.out]; omega) hb1x ?_
           intro u2 wb ho2 hg2 hb2x
           obtain ⟨aL', cL', rfl, hsx⟩ := ho2.sl
           have hlx : ((xs.take m) ++ xs.drop (m + 1)).length = n - 1 := (by rw [List.length_append, List.length_take, List.length_drop, hlen.out]; omega)
           rw [hlx] at hsx ⊢)
        | (go_simp
           refine (flatten_any _ _ _ _ _ hsx (by omega)).mono ?_
           rintro e wc ⟨uc, rfl, oc, bc⟩))
      all_goals (
        have eF : rkA ((xs.take m) ++ xs.drop (m + 1)) = onRT xs (m : Int) := by
          rw [onRT_yes Hit.out, Int.toNat_natCast]
          exact rkA_rm Hv.out (by rw [hlen.out]; exact hmn)
        rw [eF] at oc
        have oF := (oc.mono hb2x.size).mono hsz
        have tF := hb1.trans ((hb2x.trans (bc.mono hb2x.size)).mono hsz)
        clear eF hlx hsx
        go_wp2
        all_goals go_ret2
        all_goals exact made2_yes Hit.out oF tF)
    · have Hit : Hid (¬ RT xs k) := hid fun t => hk ⟨t.2.1, by have := t.2.2; rw [hlen.out] at this; omega⟩
      have Hk := hid hk
      have hn0 : (n : Int) - 1 ≤ 9223372036854775807 := by omega
      clear hk
      go_enter Try.func40, Try.ntmps40
      go_wp2_with fail
      refine (validS_any _ _ _ xs _ h).mono ?_
      rintro e w1 ⟨rfl, hb1⟩
      rw [decide_eq_true Hv.out]
      go_wp2_with fail
      refine (inRg_any _ _ _ _).mono ?_
      rintro e w' ⟨rfl, hww⟩
      subst hww
      rw [decide_eq_false Hk.out]
      go_wp2
      go_ret2
      exact made2_no Hit.out (onRT_no Hit.out) hb1
  · have Hit : Hid (¬ RT xs k) := hid fun t => hv t.1
    have Hv := hid hv
    clear hv
    go_enter Try.func40, Try.ntmps40
    go_wp2_with fail
    refine (validS_any _ _ _ xs _ h).mono ?_
    rintro e w1 ⟨rfl, hb1⟩
    rw [decide_eq_false Hv.out]
    go_wp2
    go_ret2
    exact made2_no Hit.out (onRT_no Hit.out) hb1

end Go.Proofs.Ytlhphgldmefefab
