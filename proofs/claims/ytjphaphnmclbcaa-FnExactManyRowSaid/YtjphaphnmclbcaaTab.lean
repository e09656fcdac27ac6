/- Tables and their sums, in the program and in its model: lesserBehind, sum, TableOf, InversionsOf, SignOf. Condition: the list's cells can be read; of sum: few small numbers. -/
import Derived.Test.YtjphaphnmclbcaaBnf
namespace Go.Proofs.Ytjphaphnmclbcaa
open Go.RowKit

set_option maxHeartbeats 1000000 in
theorem lesser_any (ao : Option Addr) (n cap : Nat) (xs : List Int) (w : World) (h : Sl w ao n cap xs) (h7 : n ≤ 1000) :
    Calls Try.prog 99 #[.slice ao n cap] w (Made w (table xs)) := by
  have hbig := h.big
  have hlen := hid h.len
  go_enter Try.func99, Try.ntmps99
  go_wp2
  go_loopw [3, 4] (fun v i wr => ∃ (k : Nat) (ao' : Option Addr) (cap' : Nat), k ≤ n ∧ v = .slice ao' k cap' ∧ i = .int .i64 k ∧ Below w.heap.size w wr ∧ Own wr w.heap.size (.slice ao' k cap') ((List.range k).map (lb xs)))
    (fun v _ _ => n - lenOf v)
  case atStart => exact ⟨0, _, _, Nat.zero_le _, rfl, rfl, (Below.refl _ _).alloc (Nat.le_refl _) _, own_lit w⟩
  case round =>
    obtain ⟨k, ao', cap', hk, rfl, rfl, hbr, ho⟩ := hrel
    by_cases hlt : k < n
    · obtain ⟨b, off, rfl, hblt, hc⟩ := h.row (by omega)
      have hl : ((List.range k).map (lb xs)).length ≤ 2000000 := by rw [map_range_len]; omega
      have hcc := hid hc
      clear hc
      go_wp2
      obtain ⟨wo, hwo⟩ : ∃ wo : World, wo = wr := ⟨_, rfl⟩
      subst hwo
      go_loopw [5, 6] (fun c j wr => ∃ (t : Nat), t ≤ n - 1 - k ∧ c = .int .i64 (lbP xs k t) ∧ j = .int .i64 ((k : Int) + 1 + t) ∧ Below w.heap.size w wr ∧ Own wr w.heap.size (.slice ao' k cap') ((List.range k).map (lb xs)))
        (fun _ j _ => n - (intOf j).toNat)
      case atStart => exact ⟨0, Nat.zero_le _, rfl, by simp, hbr, ho⟩
      case round =>
        obtain ⟨t, ht, rfl, rfl, hbr, ho⟩ := hrel
        have hbd := lbP_bd xs k t
        have hsz := hbr.size
        by_cases htl : t < n - 1 - k
        · have hcell1 := (hbr.cell (p := ⟨b, off + (k + 1 + t), none⟩) hblt).trans (hcc.out (k + 1 + t) (by omega))
          have hcell2 := (hbr.cell (p := ⟨b, off + k, none⟩) hblt).trans (hcc.out k hlt)
          have hi1 : (k : Int) + 1 + t < n := by omega
          go_wp2
          go_quiet (fail)
          go_wp2
          · have he : el xs (k + 1 + t) < el xs k := by assumption
            go_roundw
            case rel => exact ⟨t + 1, by omega, by rw [lbP_yes he], by go_num, drewN_below hbr _, ho⟩
            case measure => simp [intOf]; omega
          · have he : el xs k ≤ el xs (k + 1 + t) := by assumption
            go_roundw
            case rel => exact ⟨t + 1, by omega, by rw [lbP_no he], by go_num, drewN_below hbr _, ho⟩
            case measure => simp [intOf]; omega
        · obtain rfl : t = n - 1 - k := by omega
          have hi1 : ¬ (k : Int) + 1 + (n - 1 - k : Nat) < n := by omega
          go_wp2_with (at_builtin; refine app_int _ _ rfl _ _ rfl w.heap.size _ _ rfl ho rfl hl hsz ?_)
          intro u' w' ho' hg'
          have hb' := below_app hbr ho hg'
          have e : lbP xs k (n - 1 - k) = lb xs k := by rw [lb, hlen.out]
          rw [e] at ho'
          obtain ⟨ao', cap', rfl, hs'⟩ := ho'.sl
          rw [← map_range_succ (lb xs), map_range_len] at *
          clear e hbd
          go_wp2
          go_roundw
          case rel => exact ⟨k + 1, _, _, by omega, rfl, by go_num, hb', ho'⟩
          case measure => simp [lenOf]; omega
    · obtain rfl : k = n := by omega
      go_wp2
      go_ret
      refine ⟨_, rfl, ?_, hbr⟩
      rw [table, hlen.out]
      exact ho

set_option maxHeartbeats 1000000 in
theorem sum_any (ao : Option Addr) (n cap : Nat) (xs : List Int) (w : World) (h : Sl w ao n cap xs) (h7 : n ≤ 1000) (hs : Hid (∀ j, j < xs.length → 0 ≤ el xs j ∧ el xs j ≤ (1000 : Nat))) :
    Calls Try.prog 81 #[.slice ao n cap] w (Says w (.int .i64 (sumL xs))) := by
  have hbig := h.big
  have hlen := hid h.len
  go_enter Try.func81, Try.ntmps81
  go_wp2
  go_loopw [3, 4] (fun v i wr => ∃ (k : Nat), k ≤ n ∧ v = .int .i64 (sumTo xs k) ∧ i = .int .i64 k ∧ Below w.heap.size w wr)
    (fun _ i _ => n - (intOf i).toNat)
  case atStart => exact ⟨0, Nat.zero_le _, rfl, rfl, Below.refl _ _⟩
  case round =>
    obtain ⟨k, hk, rfl, rfl, hbr⟩ := hrel
    have hbd := sumTo_bd hs.out k (by rw [hlen.out]; exact hk)
    have hb2 : sumTo xs k ≤ 1000000 := Int.le_trans hbd.2 (by have : (k : Int) * (1000 : Nat) ≤ 1000 * (1000 : Nat) := Int.mul_le_mul_of_nonneg_right (by omega) (by omega); omega)
    have hb1 := hbd.1
    clear hbd
    by_cases hlt : k < n
    · obtain ⟨b, off, rfl, hblt, hc⟩ := h.row (by omega)
      have hcell := (hbr.cell (p := ⟨b, off + k, none⟩) hblt).trans (hc k hlt)
      have he := hs.out k (by rw [hlen.out]; exact hlt)
      have he0 := he.1
      have he1 := he.2
      clear hc he
      go_wp2
      go_roundw
      case rel => exact ⟨k + 1, by omega, by rw [sumTo], by go_num, hbr⟩
      case measure => simp [intOf]; omega
    · obtain rfl : k = n := by omega
      go_wp2
      go_ret
      exact says_int (by rw [sumL, hlen.out]) hbr

set_option maxHeartbeats 1000000 in
theorem tableI_any (ao : Option Addr) (n cap : Nat) (xs : List Int) (w : World) (h : Sl w ao n cap xs) :
    Calls Try.prog 70 #[.slice ao n cap] w (Made w (onV xs (table xs))) := by
  have hbig := h.big
  have hlen := hid h.len
  by_cases hv : Valid xs
  · have h7 : n ≤ 7 := by have := hv.len; rw [hlen.out] at this; exact this
    have Hv := hid hv
    go_enter Try.func70, Try.ntmps70
    go_wp2_with fail
    refine (validI_any _ _ _ xs _ h).mono ?_
    rintro e w1 ⟨rfl, hb1⟩
    have hsz := hb1.size
    go_wp2_with (at_make; refine make_ints _ rfl _ _ rfl _ _ n rfl rfl rfl rfl (by omega) ?_)
    intro w2 ho2 hb2
    clear hv
    have hb3 := hb1.trans (hb2.mono hb1.size)
    go_wp2
    go_loopw [16] (fun i wr => ∃ (k : Nat) (zs : List Int), k ≤ n ∧ i = .int .i64 k ∧ Below w.heap.size w wr ∧ OwS wr w1.heap.size w1.heap.size n n zs ∧ Hid (∀ j, j < k → el zs j = lb xs j) ∧ Hid (∀ j, k ≤ j → j < n → el zs j = 0))
      (fun i _ => n - (intOf i).toNat)
    case atStart => exact ⟨0, _, Nat.zero_le _, rfl, hb3, ho2, fun j hj => by omega, fun j _ hj => by simp [el, hj]⟩
    case round =>
      obtain ⟨k, zs, hk, rfl, hbr, hr, hz1, hz2⟩ := hrel
      by_cases hlt : k < n
      · obtain ⟨b, off, rfl, hblt, hc⟩ := h.row (by omega)
        have hcell := (hbr.cell (p := ⟨b, off + k, none⟩) hblt).trans (hc k hlt)
        by_cases hcap : cap = k + 1
        · have hn1 : n = k + 1 := by have := h.le; omega
          have e : el zs k = lb xs k := by rw [hz2.out k (Nat.le_refl _) hlt, lb, hlen.out, hn1, show k + 1 - 1 - k = 0 by omega, lbP_zero]
          have He := hid e
          have Hn := hid hn1
          have hcap2 : (cap : Int) = k + 1 := by omega
          have hz0 : n - (k + 1) = 0 := by omega
          clear e hn1
          go_wp2
          go_rounds 1
          go_roundw
          case rel => exact ⟨k + 1, zs, by omega, by go_num, hbr, hr, upto_step hz1.out He.out, fun j hj hjn => hz2.out j (by omega) hjn⟩
          case measure => simp [intOf]; omega
        · have hcap2 : ¬ (cap : Int) = k + 1 := by omega
          have hcc := hid hc
          clear hc
          have hlk := hid (hz1.out k)
          go_wp2
          obtain ⟨wo, hwo⟩ : ∃ wo : World, wo = wr := ⟨_, rfl⟩
          subst hwo
          go_loopw [26] (fun j wr => ∃ (t : Nat) (zs : List Int), t ≤ n - 1 - k ∧ j = .int .i64 t ∧ Below w.heap.size w wr ∧ OwS wr w1.heap.size w1.heap.size n n zs ∧ Hid (∀ j, j < k → el zs j = lb xs j) ∧ Hid (∀ j, k < j → j < n → el zs j = 0) ∧ el zs k = lbP xs k t)
            (fun j _ => n - 1 - k - (intOf j).toNat)
          case atStart => exact ⟨0, zs, Nat.zero_le _, rfl, hbr, hr, hz1, fun j hj hjn => hz2.out j (by omega) hjn, hz2.out k (Nat.le_refl _) hlt⟩
          case round =>
            obtain ⟨t, zs, ht, rfl, hbr, hr, hz1, hz2, hzk⟩ := hrel
            have hbd := lbP_bd xs k t
            have hzl := hid hr.len
            by_cases htl : t < n - 1 - k
            · have hcell1 : wr.cell? ⟨b, off + (k + 1) + t, none⟩ = some (.int .i64 (el xs (k + 1 + t))) := (hbr.cell (p := ⟨b, off + (k + 1) + t, none⟩) hblt).trans (by have := hcc.out (k + 1 + t) (by omega); rw [← this, Nat.add_assoc off])
              have hfr := hr.frozen k
              have hcur := hr.cell hlt
              rw [hzk] at hcur
              have Hzk := hid hzk
              clear hzk
              go_wp2
              · have he : el xs (k + 1 + t) < el xs k := by assumption
                go_roundw
                case rel =>
                  refine ⟨t + 1, zs.set k (lbP xs k t + 1), by omega, by go_num, hbr.setCell hsz _, hr.set _ _, fun j hj => ?_, fun j hj hjn => ?_, ?_⟩
                  · rw [el_set_ne (by omega)]; exact hz1.out j hj
                  · rw [el_set_ne (by omega)]; exact hz2.out j hj hjn
                  · rw [el_set_same (by rw [hzl.out]; exact hlt), lbP_yes he]
                case measure => simp [intOf]; omega
              · have he : el xs k ≤ el xs (k + 1 + t) := by assumption
                go_roundw
                case rel => exact ⟨t + 1, zs, by omega, by go_num, hbr, hr, hz1, hz2, by rw [lbP_no he]; exact Hzk.out⟩
                case measure => simp [intOf]; omega
            · obtain rfl : t = n - 1 - k := by omega
              have e : lbP xs k (n - 1 - k) = lb xs k := by rw [lb, hlen.out]
              rw [e] at hzk
              have Hzk := hid hzk
              clear hzk e
              go_wp2
              go_roundw
              case rel => exact ⟨k + 1, zs, by omega, by go_num, hbr, hr, upto_step hz1.out Hzk.out, fun j hj hjn => hz2.out j (by omega) hjn⟩
              case measure => simp [intOf]; omega
      · obtain rfl : k = n := by omega
        go_wp2
        go_ret
        refine ⟨_, rfl, ?_, hbr⟩
        have e : zs = table xs := ext_el (by rw [hr.len, table_len, hlen.out]) (fun j hj => by rw [hr.len] at hj; rw [hz1.out j hj, el_table (by rw [hlen.out]; exact hj)])
        rw [onV_yes Hv.out, ← e]
        exact hr.own.mono hsz
  · have Hv := hid hv
    go_enter Try.func70, Try.ntmps70
    go_wp2_with fail
    refine (validI_any _ _ _ xs _ h).mono ?_
    rintro e w1 ⟨rfl, hb1⟩
    go_wp2
    go_ret
    refine ⟨_, rfl, ?_, hb1⟩
    rw [onV_no Hv.out]
    exact Own.nil

theorem table_small {xs : List Int} (h : Valid xs) : ∀ j, j < (table xs).length → 0 ≤ el (table xs) j ∧ el (table xs) j ≤ (1000 : Nat) := fun j hj => by
  have := table_bd xs j hj
  have := h.len
  omega

set_option maxHeartbeats 1000000 in
theorem invsI_any (ao : Option Addr) (n cap : Nat) (xs : List Int) (w : World) (h : Sl w ao n cap xs) :
    Calls Try.prog 21 #[.slice ao n cap] w (Says w (.int .i64 (onVi xs (sumL (table xs)) (-1)))) := by
  have hbig := h.big
  have hlen := hid h.len
  by_cases hv : Valid xs
  · have h7 : n ≤ 7 := by have := hv.len; rw [hlen.out] at this; exact this
    have Hv := hid hv
    go_enter Try.func21, Try.ntmps21
    go_wp2_with fail
    refine (validI_any _ _ _ xs _ h).mono ?_
    rintro e w1 ⟨rfl, hb1⟩
    have hsz := hb1.size
    go_wp2_with fail
    refine (tableI_any _ _ _ xs _ (h.later hb1)).mono ?_
    rintro e w2 ⟨u2, rfl, ho2, hb2⟩
    rw [onV_yes Hv.out] at ho2
    obtain ⟨a2, c2, rfl, hs2⟩ := ho2.sl
    have hl2 : (table xs).length ≤ 7 := by rw [table_len, hlen.out]; omega
    have hts := hid (table_small Hv.out)
    have hb3 := hb1.trans (hb2.mono hsz)
    clear hv
    obtain ⟨ts, Hts⟩ : ∃ ts, Hid (ts = table xs) := ⟨_, rfl⟩
    rw [← Hts.out] at hs2 hl2 hts ⊢
    obtain ⟨m, hm⟩ : ∃ m, ts.length = m := ⟨_, rfl⟩
    rw [hm] at hs2 hl2 ⊢
    have Hm := hid hm
    clear hm ho2
    go_wp2
    go_loopw [3, 12] (fun v i wr => ∃ (k : Nat), k ≤ m ∧ v = .int .i64 (sumTo ts k) ∧ i = .int .i64 k ∧ Below w2.heap.size w2 wr)
      (fun _ i _ => m - (intOf i).toNat)
    case atStart => exact ⟨0, Nat.zero_le _, rfl, rfl, Below.refl _ _⟩
    case round =>
      obtain ⟨k, hk, rfl, rfl, hbr⟩ := hrel
      have hbd := sumTo_bd hts.out k (by rw [Hm.out]; exact hk)
      have hbb2 : sumTo ts k ≤ 1000000 := Int.le_trans hbd.2 (by have : (k : Int) * (1000 : Nat) ≤ 1000 * (1000 : Nat) := Int.mul_le_mul_of_nonneg_right (by omega) (by omega); omega)
      have hbb1 := hbd.1
      clear hbd
      by_cases hlt : k < m
      · obtain ⟨b, off, rfl, hblt, hc⟩ := hs2.row (by omega)
        have hcell := (hbr.cell (p := ⟨b, off + k, none⟩) hblt).trans (hc k hlt)
        have he := hts.out k (by rw [Hm.out]; exact hlt)
        have he0 := he.1
        have he1 := he.2
        clear hc he
        go_wp2
        go_roundw
        case rel => exact ⟨k + 1, by omega, by rw [sumTo], by go_num, hbr⟩
        case measure => simp [intOf]; omega
      · obtain rfl : k = m := by omega
        go_wp2
        go_ret
        rw [onVi_yes Hv.out]
        exact says_int (by rw [← Hts.out, sumL, Hm.out]) (hb3.trans (hbr.mono hb3.size))
  · have Hv := hid hv
    go_enter Try.func21, Try.ntmps21
    go_wp2_with fail
    refine (validI_any _ _ _ xs _ h).mono ?_
    rintro e w1 ⟨rfl, hb1⟩
    go_wp2
    go_ret
    rw [onVi_no Hv.out]
    exact ⟨rfl, hb1⟩

end Go.Proofs.Ytjphaphnmclbcaa
