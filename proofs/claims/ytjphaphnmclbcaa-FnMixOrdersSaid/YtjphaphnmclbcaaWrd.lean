/- Words: whether numbers are one, contents, counts and orders of words, in the program and in its model. Condition: the list's cells can be read. -/
import Derived.Test.YtjphaphnmclbcaaBnd
import Derived.Test.YtjphaphnmclbcaaBng
import Derived.Test.YtjphaphnmclbcaaIns3
import Derived.Test.YtjphaphnmclbcaaDen
namespace Go.Proofs.Ytjphaphnmclbcaa
open Go.RowKit

set_option maxHeartbeats 1000000 in
theorem vwS0_any (ao : Option Addr) (n cap : Nat) (xs : List Int) (w : World) (h : Sl w ao n cap xs) :
    Calls Try.prog 75 #[.slice ao n cap] w (Says w (.bool (decide (VW xs)))) := by
  have hbig := h.big
  have hlen := hid h.len
  go_enter Try.func75, Try.ntmps75
  go_wp2
  go_loopw [3] (fun i wr => ∃ (k : Nat), k ≤ n ∧ i = .int .i64 k ∧ Below w.heap.size w wr ∧ Hid (∀ j, j < k → 0 ≤ el xs j ∧ el xs j ≤ 3))
    (fun i _ => n - (intOf i).toNat)
  case atStart => exact ⟨0, Nat.zero_le _, rfl, Below.refl _ _, fun j hj => by omega⟩
  case round =>
    obtain ⟨k, hk, rfl, hbr, hm⟩ := hrel
    by_cases hlt : k < n
    · obtain ⟨b, off, rfl, hblt, hc⟩ := h.row (by omega)
      have hcell := (hbr.cell (p := ⟨b, off + k, none⟩) hblt).trans (hc k hlt)
      have hkx : k < xs.length := by rw [hlen.out]; exact hlt
      clear hc
      by_cases h0 : 0 ≤ el xs k
      · by_cases h1 : el xs k ≤ 3
        · go_wp2_with fail
          refine (inRange_any _ _ _ _).mono ?_
          rintro e w' ⟨rfl, hww⟩
          subst hww
          rw [show decide ((0 : Int) ≤ el xs k ∧ el xs k ≤ 3) = true by simp; omega]
          go_wp2
          go_roundw
          case rel => exact ⟨k + 1, by omega, by go_num, hbr, upto_step hm.out ⟨h0, h1⟩⟩
          case measure => simp [intOf]; omega
        · have hno : Hid (¬ VW xs) := fun v => h1 (v.hi k hkx)
          go_wp2_with fail
          refine (inRange_any _ _ _ _).mono ?_
          rintro e w' ⟨rfl, hww⟩
          subst hww
          rw [show decide ((0 : Int) ≤ el xs k ∧ el xs k ≤ 3) = false by simp; omega]
          go_wp2
          go_ret
          exact says_false hno.out hbr
      · have hno : Hid (¬ VW xs) := fun v => h0 (v.lo k hkx)
        go_wp2_with fail
        refine (inRange_any _ _ _ _).mono ?_
        rintro e w' ⟨rfl, hww⟩
        subst hww
        rw [show decide ((0 : Int) ≤ el xs k ∧ el xs k ≤ 3) = false by simp; omega]
        go_wp2
        go_ret
        exact says_false hno.out hbr
    · obtain rfl : k = n := by omega
      go_wp2
      go_ret
      refine says_bool (decide_eq_decide.2 ⟨fun h7 => ⟨by rw [hlen.out]; omega, fun j hj => (hm.out j (by rw [hlen.out] at hj; exact hj)).1, fun j hj => by rw [hlen.out] at hj; exact (hm.out j hj).2⟩, fun v => ?_⟩) hbr
      have := v.len
      rw [hlen.out] at this
      omega

set_option maxHeartbeats 1000000 in
theorem vwI_any (ao : Option Addr) (n cap : Nat) (xs : List Int) (w : World) (h : Sl w ao n cap xs) :
    Calls Try.prog 31 #[.slice ao n cap] w (Says w (.bool (decide (VW xs)))) := by
  have hbig := h.big
  have hlen := hid h.len
  by_cases h7 : n ≤ 7
  · go_enter Try.func31, Try.ntmps31
    go_wp2
    go_loopw [10] (fun i wr => ∃ (k : Nat), k ≤ n ∧ i = .int .i64 k ∧ Below w.heap.size w wr ∧ Hid (∀ j, j < k → 0 ≤ el xs j ∧ el xs j ≤ 3))
      (fun i _ => n - (intOf i).toNat)
    case atStart => exact ⟨0, Nat.zero_le _, rfl, Below.refl _ _, fun j hj => by omega⟩
    case round =>
      obtain ⟨k, hk, rfl, hbr, hm⟩ := hrel
      by_cases hlt : k < n
      · obtain ⟨b, off, rfl, hblt, hc⟩ := h.row (by omega)
        have hcell := (hbr.cell (p := ⟨b, off + k, none⟩) hblt).trans (hc k hlt)
        have hkx : k < xs.length := by rw [hlen.out]; exact hlt
        clear hc
        by_cases h0 : 0 ≤ el xs k
        · by_cases h1 : el xs k ≤ 3
          · go_wp2
            go_roundw
            case rel => exact ⟨k + 1, by omega, by go_num, hbr, upto_step hm.out ⟨h0, h1⟩⟩
            case measure => simp [intOf]; omega
          · have hno : Hid (¬ VW xs) := fun v => h1 (v.hi k hkx)
            go_wp2
            go_ret
            exact says_false hno.out hbr
        · have hno : Hid (¬ VW xs) := fun v => h0 (v.lo k hkx)
          go_wp2
          go_ret
          exact says_false hno.out hbr
      · obtain rfl : k = n := by omega
        go_wp2
        go_ret
        exact says_true ⟨by rw [hlen.out]; exact h7, fun j hj => (hm.out j (by rw [hlen.out] at hj; exact hj)).1, fun j hj => by rw [hlen.out] at hj; exact (hm.out j hj).2⟩ hbr
  · have hno : Hid (¬ VW xs) := fun v => h7 (by have := v.len; rw [hlen.out] at this; exact this)
    go_enter Try.func31, Try.ntmps31
    go_wp2
    go_ret
    exact says_false hno.out (Below.refl _ _)

set_option maxHeartbeats 1000000 in
theorem cont0_any (ao : Option Addr) (n cap : Nat) (xs : List Int) (w : World) (h : Sl w ao n cap xs) (Hv : Hid (VW xs)) :
    Calls Try.prog 76 #[.slice ao n cap] w (Made w (cont xs)) := by
  have hbig := h.big
  have hlen := hid h.len
  have h7 : n ≤ 7 := by have := Hv.out.len; rw [hlen.out] at this; exact this
  go_enter Try.func76, Try.ntmps76
  go_wp2_with (at_make; refine make_ints _ rfl _ _ rfl _ _ 4 rfl rfl rfl rfl (by omega) ?_)
  intro w2 ho2 hb2
  go_wp2
  go_loopw [4] (fun i wr => ∃ (k : Nat) (zs : List Int), k ≤ n ∧ i = .int .i64 k ∧ Below w.heap.size w wr ∧ OwS wr w.heap.size w.heap.size 4 4 zs ∧ Hid (zs = ctP xs k))
    (fun i _ => n - (intOf i).toNat)
  case atStart => exact ⟨0, _, Nat.zero_le _, rfl, hb2, ho2, rfl⟩
  case round =>
    obtain ⟨k, zs, hk, rfl, hbr, hr, hz⟩ := hrel
    by_cases hlt : k < n
    · obtain ⟨b, off, rfl, hblt, hc⟩ := h.row (by omega)
      have hcell := (hbr.cell (p := ⟨b, off + k, none⟩) hblt).trans (hc k hlt)
      clear hc
      have hb := Hv.out.lo k (by rw [hlen.out]; exact hlt)
      have hb2 := Hv.out.hi k (by rw [hlen.out]; exact hlt)
      obtain ⟨v, hv⟩ := Int.eq_ofNat_of_zero_le hb
      have hv4 : v < 4 := by omega
      have hv4i : (v : Int) < 4 := by omega
      have hkni : (k : Int) < n := by omega
      rw [hv] at hcell
      have Hve := hid hv
      have hbd := ctP_bd xs k v
      rw [← hz.out] at hbd
      have hz1 := hbd.1
      have hz2 : el zs v ≤ 7 := by have := hbd.2; omega
      have hfr := hr.frozen v
      have hcur := hr.cell hv4
      clear hv hb hb2 hbd
      go_wp2_with fail
      go_still_tail 14, (by kernel_rfl)
      change wpList _ _ _ _ _ wr.drew
      go_wp2
      go_roundw
      case rel =>
        refine ⟨k + 1, _, by omega, by go_num, hbr.drew.setCell (Nat.le_refl _) _, hr.set v (el zs v + 1), ?_⟩
        show zs.set v _ = addAt _ _ _
        rw [addAt, ← hz.out, Hve.out]
        rfl
      case measure => simp [intOf]; omega
    · obtain rfl : k = n := by omega
      go_wp2
      go_ret
      refine ⟨_, rfl, ?_, hbr⟩
      rw [cont, hlen.out, ← hz.out]
      exact hr.own

set_option maxHeartbeats 1000000 in
theorem contS_any (ao : Option Addr) (n cap : Nat) (xs : List Int) (w : World) (h : Sl w ao n cap xs) :
    Calls Try.prog 30 #[.slice ao n cap] w (Made w (onW xs (cont xs))) := by
  have hbig := h.big
  have hlen := hid h.len
  by_cases hv : VW xs
  · have h7 : n ≤ 7 := by have := hv.len; rw [hlen.out] at this; exact this
    have Hv := hid hv
    go_enter Try.func30, Try.ntmps30
    go_wp2_with fail
    refine (vwS0_any _ _ _ xs _ h).mono ?_
    rintro e w1 ⟨rfl, hb1⟩
    have hsz := hb1.size
    go_wp2_with fail
    refine (cont0_any _ _ _ xs _ (h.later hb1) Hv).mono ?_
    rintro e w2 ⟨u2, rfl, ho2, hb2⟩
    go_wp2
    go_ret
    refine ⟨_, rfl, ?_, hb1.trans (hb2.mono hsz)⟩
    rw [onW_yes Hv.out]
    exact ho2.mono hsz
  · have Hv := hid hv
    go_enter Try.func30, Try.ntmps30
    go_wp2_with fail
    refine (vwS0_any _ _ _ xs _ h).mono ?_
    rintro e w1 ⟨rfl, hb1⟩
    go_wp2
    go_ret
    refine ⟨_, rfl, ?_, hb1⟩
    rw [onW_no Hv.out]
    exact Own.nil

set_option maxHeartbeats 1000000 in
theorem winvI_any (ao : Option Addr) (n cap : Nat) (xs : List Int) (w : World) (h : Sl w ao n cap xs) :
    Calls Try.prog 73 #[.slice ao n cap] w (Says w (.int .i64 (onWi xs (sumL (table xs)) (-1)))) := by
  have hbig := h.big
  have hlen := hid h.len
  by_cases hv : VW xs
  · have h7 : n ≤ 7 := by have := hv.len; rw [hlen.out] at this; exact this
    have Hv := hid hv
    go_enter Try.func73, Try.ntmps73
    go_wp2_with fail
    refine (vwI_any _ _ _ xs _ h).mono ?_
    rintro e w1 ⟨rfl, hb1⟩
    have hsz := hb1.size
    go_wp2
    clear hsz hv
    go_loopw [3, 13] (fun v i wr => ∃ (k : Nat), k ≤ n ∧ v = .int .i64 (prP gtF xs k) ∧ i = .int .i64 k ∧ Below w.heap.size w wr)
      (fun _ i _ => n - (intOf i).toNat)
    case atStart => exact ⟨0, Nat.zero_le _, rfl, rfl, hb1⟩
    case round =>
      obtain ⟨k, hk, rfl, rfl, hbr⟩ := hrel
      have hpb := prP_bd gtF xs k
      have hp1 := hpb.1
      have hp2 : prP gtF xs k ≤ 49 := Int.le_trans hpb.2 (by have : (k : Int) * k ≤ 7 * 7 := Int.mul_le_mul (by omega) (by omega) (by omega) (by omega); omega)
      clear hpb
      by_cases hlt : k < n
      · obtain ⟨b, off, rfl, hblt, hc⟩ := h.row (by omega)
        have hcell := (hbr.cell (p := ⟨b, off + k, none⟩) hblt).trans (hc k hlt)
        have hcc := hid hc
        have hkc : k ≤ cap := by have := h.le; omega
        have hcap2 : cap ≤ 9223372036854775807 := by have := h.max; unfold maxLen at this; omega
        clear hc
        go_wp2
        obtain ⟨wo, hwo⟩ : ∃ wo : World, wo = wr := ⟨_, rfl⟩
        subst hwo
        go_loopw [3, 22] (fun v j wr => ∃ (t : Nat), t ≤ k ∧ v = .int .i64 (prP gtF xs k + inP gtF xs k t) ∧ j = .int .i64 t ∧ Below w.heap.size w wr)
          (fun _ j _ => k - (intOf j).toNat)
        case atStart => exact ⟨0, Nat.zero_le _, by rw [show inP gtF xs k 0 = 0 from rfl, Int.add_zero], rfl, hbr⟩
        case round =>
          obtain ⟨t, ht, rfl, rfl, hbr⟩ := hrel
          have hib := inP_bd gtF xs k t
          have hi1 := hib.1
          have hi2 : inP gtF xs k t ≤ 7 := by have := hib.2; omega
          clear hib
          by_cases htl : t < k
          · have hcell1 := (hbr.cell (p := ⟨b, off + t, none⟩) hblt).trans (hcc.out t (by omega))
            have hti : (t : Int) < k := by omega
            by_cases he : el xs k < el xs t
            · go_wp2
              go_roundw
              case rel => exact ⟨t + 1, by omega, by rw [inP_yes (by simp [gtF, he])]; congr 1; omega, by go_num, hbr⟩
              case measure => simp [intOf]; omega
            · have he' : el xs t ≤ el xs k := by omega
              go_wp2
              go_roundw
              case rel => exact ⟨t + 1, by omega, by rw [inP_no (by simp [gtF]; omega)], by go_num, hbr⟩
              case measure => simp [intOf]; omega
          · obtain rfl : t = k := by omega
            go_wp2
            go_roundw
            case rel => exact ⟨t + 1, by omega, by rw [prP], by go_num, hbr⟩
            case measure => simp [intOf]; omega
      · obtain rfl : k = n := by omega
        go_wp2
        go_ret
        rw [onWi_yes Hv.out]
        exact says_int (by rw [← pairs_gt, pairs, hlen.out]) hbr
  · have Hv := hid hv
    go_enter Try.func73, Try.ntmps73
    go_wp2_with fail
    refine (vwI_any _ _ _ xs _ h).mono ?_
    rintro e w1 ⟨rfl, hb1⟩
    go_wp2
    go_ret
    rw [onWi_no Hv.out]
    exact ⟨rfl, hb1⟩

set_option maxHeartbeats 1000000 in
theorem wmajI_any (ao : Option Addr) (n cap : Nat) (xs : List Int) (w : World) (h : Sl w ao n cap xs) :
    Calls Try.prog 91 #[.slice ao n cap] w (Says w (.int .i64 (onWi xs (major xs) (-1)))) := by
  have hbig := h.big
  have hlen := hid h.len
  by_cases hv : VW xs
  · have h7 : n ≤ 7 := by have := hv.len; rw [hlen.out] at this; exact this
    have Hv := hid hv
    go_enter Try.func91, Try.ntmps91
    go_wp2_with fail
    refine (vwI_any _ _ _ xs _ h).mono ?_
    rintro e w1 ⟨rfl, hb1⟩
    have hsz := hb1.size
    go_wp2
    clear hsz hv
    go_loopw [3, 4] (fun v i wr => ∃ (k : Nat), k ≤ n - 1 ∧ v = .int .i64 (majP xs k) ∧ i = .int .i64 ((k : Int) + 1) ∧ Below w.heap.size w wr)
      (fun _ i _ => n - (intOf i).toNat)
    case atStart => exact ⟨0, Nat.zero_le _, rfl, by simp, hb1⟩
    case round =>
      obtain ⟨k, hk, rfl, rfl, hbr⟩ := hrel
      have hpb := majP_bd xs k
      have hp1 := hpb.1
      have hp2 : majP xs k ≤ 49 := Int.le_trans hpb.2 (by have : (k : Int) * k ≤ 7 * 7 := Int.mul_le_mul (by omega) (by omega) (by omega) (by omega); omega)
      clear hpb
      by_cases hlt : k + 1 < n
      · obtain ⟨b, off, rfl, hblt, hc⟩ := h.row (by omega)
        have hcell := (hbr.cell (p := ⟨b, off + k, none⟩) hblt).trans (hc k (by omega))
        have hcell1 := (hbr.cell (p := ⟨b, off + (k + 1), none⟩) hblt).trans (hc (k + 1) hlt)
        have hi1 : (k : Int) + 1 < n := by omega
        have hi2 : (k : Int) < n := by omega
        clear hc
        by_cases he : el xs (k + 1) < el xs k
        · go_wp2_with fail
          go_quiet (fail)
          go_wp2
          go_roundw
          case rel => exact ⟨k + 1, by omega, by rw [majP_yes he], by go_num, drewN_below hbr _⟩
          case measure => simp [intOf]; omega
        · have he' : el xs k ≤ el xs (k + 1) := by omega
          go_wp2_with fail
          go_quiet (fail)
          go_wp2
          go_roundw
          case rel => exact ⟨k + 1, by omega, by rw [majP_no he'], by go_num, drewN_below hbr _⟩
          case measure => simp [intOf]; omega
      · have hk1 : k = n - 1 := by omega
        have Hk1 := hid hk1
        clear hk1
        go_wp2
        go_ret
        rw [onWi_yes Hv.out]
        exact says_int (by rw [major_majP, hlen.out, ← Hk1.out]) hbr
  · have Hv := hid hv
    go_enter Try.func91, Try.ntmps91
    go_wp2_with fail
    refine (vwI_any _ _ _ xs _ h).mono ?_
    rintro e w1 ⟨rfl, hb1⟩
    go_wp2
    go_ret
    rw [onWi_no Hv.out]
    exact ⟨rfl, hb1⟩

set_option maxHeartbeats 1000000 in
theorem stdI_any (ao : Option Addr) (n cap : Nat) (xs : List Int) (w : World) (h : Sl w ao n cap xs) :
    Calls Try.prog 95 #[.slice ao n cap] w (Made w (onW xs (rkA xs))) := by
  have hbig := h.big
  have hlen := hid h.len
  by_cases hv : VW xs
  · have h7 : n ≤ 7 := by have := hv.len; rw [hlen.out] at this; exact this
    have Hv := hid hv
    go_enter Try.func95, Try.ntmps95
    go_wp2_with fail
    refine (vwI_any _ _ _ xs _ h).mono ?_
    rintro e w1 ⟨rfl, hb1⟩
    have hsz := hb1.size
    go_wp2_with (at_make; refine make_ints _ rfl _ _ rfl _ _ n rfl rfl rfl rfl (by omega) ?_)
    intro w2 ho2 hb2
    clear hv
    have hb3 := hb1.trans (hb2.mono hb1.size)
    go_wp2
    go_loopw [16] (fun i wr => ∃ (k : Nat) (zs : List Int), k ≤ n ∧ i = .int .i64 k ∧ Below w.heap.size w wr ∧ OwS wr w1.heap.size w1.heap.size n n zs ∧ Hid (∀ j, j < k → el zs j = cntP (rkF xs j) n) ∧ Hid (∀ j, k ≤ j → j < n → el zs j = 0))
      (fun i _ => n - (intOf i).toNat)
    case atStart => exact ⟨0, _, Nat.zero_le _, rfl, hb3, ho2, fun j hj => by omega, fun j _ hj => by simp [el, hj]⟩
    case round =>
      obtain ⟨k, zs, hk, rfl, hbr, hr, hz1, hz2⟩ := hrel
      by_cases hlt : k < n
      · obtain ⟨b, off, rfl, hblt, hc⟩ := h.row (by omega)
        have hcell := (hbr.cell (p := ⟨b, off + k, none⟩) hblt).trans (hc k hlt)
        have hcc := hid hc
        clear hc
        have hki : (k : Int) < n := by omega
        go_wp2
        obtain ⟨wo, hwo⟩ : ∃ wo : World, wo = wr := ⟨_, rfl⟩
        subst hwo
        go_loopw [23] (fun j wr => ∃ (t : Nat) (zs : List Int), t ≤ n ∧ j = .int .i64 t ∧ Below w.heap.size w wr ∧ OwS wr w1.heap.size w1.heap.size n n zs ∧ Hid (∀ j, j < k → el zs j = cntP (rkF xs j) n) ∧ Hid (∀ j, k < j → j < n → el zs j = 0) ∧ Hid (el zs k = cntP (rkF xs k) t))
          (fun j _ => n - (intOf j).toNat)
        case atStart => exact ⟨0, zs, Nat.zero_le _, rfl, hbr, hr, hz1, fun j hj hjn => hz2.out j (by omega) hjn, hid (hz2.out k (Nat.le_refl _) hlt)⟩
        case round =>
          obtain ⟨t, zs, ht, rfl, hbr, hr, hz1, hz2, hzk⟩ := hrel
          have hzl := hid hr.len
          by_cases htl : t < n
          · have hcell1 := (hbr.cell (p := ⟨b, off + t, none⟩) hblt).trans (hcc.out t htl)
            have hti : (t : Int) < n := by omega
            have hfr := hr.frozen k
            have hcur := hr.cell hlt
            have hbd := cntP_bd (rkF xs k) t
            rw [← hzk.out] at hbd
            have hbd1 := hbd.1
            have hbd2 : el zs k ≤ 7 := by have := hbd.2; omega
            clear hbd
            by_cases hq : rkF xs k t = true
            · have Hq := hid hq
              have hset : Hid (el (zs.set k (el zs k + 1)) k = cntP (rkF xs k) (t + 1)) := hid (by rw [el_set_same (by rw [hzl.out]; exact hlt), cntP_yes Hq.out, hzk.out])
              rw [rkF_iff] at hq
              rcases hq with he | ⟨he, hlt3⟩
              · go_wp2
                go_roundw
                case rel => exact ⟨t + 1, zs.set k (el zs k + 1), by omega, by go_num, hbr.setCell hb1.size _, hr.set _ _, fun j hj => by rw [el_set_ne (by omega)]; exact hz1.out j hj, fun j hj hjn => by rw [el_set_ne (by omega)]; exact hz2.out j hj hjn, hset⟩
                case measure => simp [intOf]; omega
              · have he1 : ¬ el xs t < el xs k := by omega
                have he2 : (el xs t == el xs k) = true := by simpa using he
                have he3 : (t : Int) < k := by omega
                clear he
                go_wp2
                go_roundw
                case rel => exact ⟨t + 1, zs.set k (el zs k + 1), by omega, by go_num, hbr.setCell hb1.size _, hr.set _ _, fun j hj => by rw [el_set_ne (by omega)]; exact hz1.out j hj, fun j hj hjn => by rw [el_set_ne (by omega)]; exact hz2.out j hj hjn, hset⟩
                case measure => simp [intOf]; omega
            · have Hq := hid hq
              have hkeep : Hid (el zs k = cntP (rkF xs k) (t + 1)) := hid (by rw [cntP_no (by simpa using Hq.out)]; exact hzk.out)
              rw [rkF_iff] at hq
              have he1 : ¬ el xs t < el xs k := by omega
              by_cases he : el xs t = el xs k
              · have he2 : (el xs t == el xs k) = true := by simpa using he
                have he3 : ¬ (t : Int) < k := by omega
                clear he hq
                go_wp2
                go_roundw
                case rel => exact ⟨t + 1, zs, by omega, by go_num, hbr, hr, hz1, hz2, hkeep⟩
                case measure => simp [intOf]; omega
              · have he2 : (el xs t == el xs k) = false := by simpa using he
                clear he hq
                go_wp2
                go_roundw
                case rel => exact ⟨t + 1, zs, by omega, by go_num, hbr, hr, hz1, hz2, hkeep⟩
                case measure => simp [intOf]; omega
          · obtain rfl : t = n := by omega
            go_wp2
            go_roundw
            case rel => exact ⟨k + 1, zs, by omega, by go_num, hbr, hr, upto_step hz1.out hzk.out, fun j hj hjn => hz2.out j (by omega) hjn⟩
            case measure => simp [intOf]; omega
      · obtain rfl : k = n := by omega
        go_wp2
        go_ret
        refine ⟨_, rfl, ?_, hbr⟩
        have e : zs = rkA xs := ext_el (by rw [hr.len, rkA_len, hlen.out]) (fun j hj => by rw [hr.len] at hj; rw [hz1.out j hj, el_rkA (by rw [hlen.out]; exact hj), hlen.out])
        rw [onW_yes Hv.out, ← e]
        exact hr.own.mono hsz
  · have Hv := hid hv
    go_enter Try.func95, Try.ntmps95
    go_wp2_with fail
    refine (vwI_any _ _ _ xs _ h).mono ?_
    rintro e w1 ⟨rfl, hb1⟩
    go_wp2
    go_ret
    refine ⟨_, rfl, ?_, hb1⟩
    rw [onW_no Hv.out]
    exact Own.nil

end Go.Proofs.Ytjphaphnmclbcaa
