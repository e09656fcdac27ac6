/- Descents, major indices and signs, in the program and in its model. Condition: the list's cells can be read. -/
import Derived.Test.YtjphaphnmclbcaaTab
namespace Go.Proofs.Ytjphaphnmclbcaa
open Go.RowKit

set_option maxHeartbeats 1000000 in
theorem descents_any (ao : Option Addr) (n cap : Nat) (xs : List Int) (w : World) (h : Sl w ao n cap xs) (h7 : n ≤ 1000) :
    Calls Try.prog 98 #[.slice ao n cap] w (Made w (desc xs)) := by
  have hbig := h.big
  have hlen := hid h.len
  go_enter Try.func98, Try.ntmps98
  go_wp2
  go_loopw [3, 4] (fun v i wr => ∃ (k m : Nat) (ao' : Option Addr) (cap' : Nat), k ≤ n - 1 ∧ v = .slice ao' m cap' ∧ i = .int .i64 ((k : Nat)) ∧ Below w.heap.size w wr ∧ Own wr w.heap.size (.slice ao' m cap') (dsP xs k))
    (fun _ i _ => n - (intOf i).toNat)
  case atStart => exact ⟨0, _, _, _, Nat.zero_le _, rfl, rfl, (Below.refl _ _).alloc (Nat.le_refl _) _, own_lit w⟩
  case round =>
    obtain ⟨k, m, ao', cap', hk, rfl, rfl, hbr, ho⟩ := hrel
    have hsz := hbr.size
    have hl : (dsP xs k).length ≤ 2000000 := by have := dsP_len xs k; omega
    by_cases hlt : k + 1 < n
    · obtain ⟨b, off, rfl, hblt, hc⟩ := h.row (by omega)
      have hcell := (hbr.cell (p := ⟨b, off + k, none⟩) hblt).trans (hc k (by omega))
      have hcell1 := (hbr.cell (p := ⟨b, off + (k + 1), none⟩) hblt).trans (hc (k + 1) hlt)
      have hi1 : (k : Int) + 1 < n := by omega
      have hi2 : (k : Int) < n := by omega
      clear hc
      by_cases he : el xs (k + 1) < el xs k
      · go_wp2_with fail
        go_quiet (fail)
        go_wp2_with (at_builtin; refine app_int _ _ rfl _ _ rfl w.heap.size _ _ rfl (ho.drewN _) rfl hl hsz ?_)
        intro u' w' ho' hg'
        have hb' := below_app (drewN_below hbr _) (ho.drewN _) hg'
        rw [← dsP_yes he] at ho'
        have hl' := hid (rfl : (dsP xs (k + 1)).length = (dsP xs (k + 1)).length)
        obtain ⟨ao', cap', rfl, hs'⟩ := ho'.sl
        go_wp2
        go_roundw
        case rel => exact ⟨k + 1, _, _, _, by omega, rfl, by go_num, hb', ho'⟩
        case measure => simp [intOf]; omega
      · have he' : el xs k ≤ el xs (k + 1) := by omega
        go_wp2_with fail
        go_quiet (fail)
        go_wp2
        go_roundw
        case rel => exact ⟨k + 1, _, _, _, by omega, rfl, by go_num, drewN_below hbr _, by rw [dsP_no he']; exact ho.drewN _⟩
        case measure => simp [intOf]; omega
    · have hk1 : k = n - 1 := by omega
      have Hk1 := hid hk1
      clear hk1
      go_wp2
      go_ret
      refine ⟨_, rfl, ?_, hbr⟩
      rw [desc, hlen.out, ← Hk1.out]
      exact ho

set_option maxHeartbeats 1000000 in
theorem descI_any (ao : Option Addr) (n cap : Nat) (xs : List Int) (w : World) (h : Sl w ao n cap xs) :
    Calls Try.prog 71 #[.slice ao n cap] w (Made w (onV xs (desc xs))) := by
  have hbig := h.big
  have hlen := hid h.len
  by_cases hv : Valid xs
  · have h7 : n ≤ 7 := by have := hv.len; rw [hlen.out] at this; exact this
    have Hv := hid hv
    go_enter Try.func71, Try.ntmps71
    go_wp2_with fail
    refine (validI_any _ _ _ xs _ h).mono ?_
    rintro e w1 ⟨rfl, hb1⟩
    have hsz := hb1.size
    go_wp2
    clear hsz
    go_loopw [3, 4] (fun v i wr => ∃ (k m : Nat) (ao' : Option Addr) (cap' : Nat), k ≤ n - 1 ∧ v = .slice ao' m cap' ∧ i = .int .i64 ((k : Int) + 1) ∧ Below w.heap.size w wr ∧ Own wr w.heap.size (.slice ao' m cap') (dsP xs k))
      (fun _ i _ => n - (intOf i).toNat)
    case atStart => exact ⟨0, _, _, _, Nat.zero_le _, rfl, by simp, hb1.alloc hb1.size _, own_lit_at hb1.size⟩
    case round =>
      obtain ⟨k, m, ao', cap', hk, rfl, rfl, hbr, ho⟩ := hrel
      have hsz := hbr.size
      have hl : (dsP xs k).length ≤ 2000000 := by have := dsP_len xs k; omega
      by_cases hlt : k + 1 < n
      · obtain ⟨b, off, rfl, hblt, hc⟩ := h.row (by omega)
        have hcell := (hbr.cell (p := ⟨b, off + k, none⟩) hblt).trans (hc k (by omega))
        have hcell1 := (hbr.cell (p := ⟨b, off + (k + 1), none⟩) hblt).trans (hc (k + 1) hlt)
        have hi1 : (k : Int) + 1 < n := by omega
        have hi2 : (k : Int) < n := by omega
        clear hc
        by_cases he : el xs (k + 1) < el xs k
        · go_wp2_with fail
          go_quiet (fail)
          go_wp2_with (at_builtin; refine app_int _ _ rfl _ _ rfl w.heap.size _ _ rfl (ho.drewN _) rfl hl hsz ?_)
          intro u' w' ho' hg'
          have hb' := below_app (drewN_below hbr _) (ho.drewN _) hg'
          rw [← dsP_yes he] at ho'
          have hl' := hid (rfl : (dsP xs (k + 1)).length = (dsP xs (k + 1)).length)
          obtain ⟨ao', cap', rfl, hs'⟩ := ho'.sl
          go_wp2
          go_roundw
          case rel => exact ⟨k + 1, _, _, _, by omega, rfl, by go_num, hb', ho'⟩
          case measure => simp [intOf]; omega
        · have he' : el xs k ≤ el xs (k + 1) := by omega
          go_wp2_with fail
          go_quiet (fail)
          go_wp2
          go_roundw
          case rel => exact ⟨k + 1, _, _, _, by omega, rfl, by go_num, drewN_below hbr _, by rw [dsP_no he']; exact ho.drewN _⟩
          case measure => simp [intOf]; omega
      · have hk1 : k = n - 1 := by omega
        have Hk1 := hid hk1
        clear hk1
        go_wp2
        go_ret
        refine ⟨_, rfl, ?_, hbr⟩
        rw [onV_yes Hv.out, desc, hlen.out, ← Hk1.out]
        exact ho
  · have Hv := hid hv
    go_enter Try.func71, Try.ntmps71
    go_wp2_with fail
    refine (validI_any _ _ _ xs _ h).mono ?_
    rintro e w1 ⟨rfl, hb1⟩
    go_wp2
    go_ret
    refine ⟨_, rfl, ?_, hb1⟩
    rw [onV_no Hv.out]
    exact Own.nil

set_option maxHeartbeats 1000000 in
theorem major_any (ao : Option Addr) (n cap : Nat) (xs : List Int) (w : World) (h : Sl w ao n cap xs) (h7 : n ≤ 1000) :
    Calls Try.prog 67 #[.slice ao n cap] w (Says w (.int .i64 (major xs))) := by
  have hbig := h.big
  have hlen := hid h.len
  have hl2 : (desc xs).length ≤ 1000 := by have := desc_len xs; rw [hlen.out] at this; omega
  have hds := hid (desc_small (xs := xs) (by rw [hlen.out]; exact h7))
  have hbd := sumL_bd hds.out hl2
  have hbd1 := hbd.1
  have hbd2 : sumL (desc xs) ≤ 1000000 := by have := hbd.2; omega
  clear hbd
  go_enter Try.func67, Try.ntmps67
  go_wp2_with fail
  refine (descents_any _ _ _ xs _ h h7).mono ?_
  rintro e w2 ⟨u2, rfl, ho2, hb2⟩
  obtain ⟨a2, c2, rfl, hs2⟩ := ho2.sl
  go_wp2_with fail
  refine (sum_any _ _ _ _ _ hs2 hl2 hds).mono ?_
  rintro e w3 ⟨rfl, hb3⟩
  go_wp2
  go_ret
  exact ⟨rfl, hb2.trans (hb3.mono hb2.size)⟩

set_option maxHeartbeats 1000000 in
theorem majorI_any (ao : Option Addr) (n cap : Nat) (xs : List Int) (w : World) (h : Sl w ao n cap xs) :
    Calls Try.prog 22 #[.slice ao n cap] w (Says w (.int .i64 (onVi xs (major xs) (-1)))) := by
  have hbig := h.big
  have hlen := hid h.len
  by_cases hv : Valid xs
  · have h7 : n ≤ 7 := by have := hv.len; rw [hlen.out] at this; exact this
    have Hv := hid hv
    go_enter Try.func22, Try.ntmps22
    go_wp2_with fail
    refine (validI_any _ _ _ xs _ h).mono ?_
    rintro e w1 ⟨rfl, hb1⟩
    have hsz := hb1.size
    go_wp2_with fail
    refine (descI_any _ _ _ xs _ (h.later hb1)).mono ?_
    rintro e w2 ⟨u2, rfl, ho2, hb2⟩
    rw [onV_yes Hv.out] at ho2
    obtain ⟨a2, c2, rfl, hs2⟩ := ho2.sl
    have hl2 : (desc xs).length ≤ 7 := by have := desc_len xs; rw [hlen.out] at this; omega
    have hts := hid (desc_small (xs := xs) (by rw [hlen.out]; omega))
    have hb3 := hb1.trans (hb2.mono hsz)
    clear hv
    obtain ⟨ts, Hts⟩ : ∃ ts, Hid (ts = desc xs) := ⟨_, rfl⟩
    rw [← Hts.out] at hs2 hl2 hts ⊢
    obtain ⟨m, hm⟩ : ∃ m, ts.length = m := ⟨_, rfl⟩
    rw [hm] at hs2 hl2 ⊢
    have Hm := hid hm
    clear hm ho2
    go_wp2
    go_loopw [3, 12] (fun v i wr => ∃ (k : Nat), k ≤ m ∧ v = .int .i64 (sumTo ts k + k) ∧ i = .int .i64 k ∧ Below w2.heap.size w2 wr)
      (fun _ i _ => m - (intOf i).toNat)
    case atStart => exact ⟨0, Nat.zero_le _, rfl, rfl, Below.refl _ _⟩
    case round =>
      obtain ⟨k, hk, rfl, rfl, hbr⟩ := hrel
      have hbd := sumTo_bd hts.out k (by rw [Hm.out]; exact hk)
      have hbb2 : sumTo ts k ≤ 1000000 := Int.le_trans hbd.2 (by have : (k : Int) * (1000 : Nat) ≤ 1000 * (1000 : Nat) := Int.mul_le_mul_of_nonneg_right (by omega) (by omega); omega)
      have hbb1 := hbd.1
      clear hbd
      by_cases hlt : k < m
      · obtain ⟨b, off, rfl, hblt, hc⟩ := hs2.row (by omega)
        have hcell := (hbr.cell (p := ⟨b, off + k, none⟩) hblt).trans (hc k hlt)
        have he := hts.out k (by rw [Hm.out]; exact hlt)
        have he0 := he.1
        have he1 := he.2
        clear hc he
        go_wp2
        go_roundw
        case rel => exact ⟨k + 1, by omega, by rw [sumTo]; congr 1; omega, by go_num, hbr⟩
        case measure => simp [intOf]; omega
      · obtain rfl : k = m := by omega
        go_wp2
        go_ret
        rw [onVi_yes Hv.out]
        exact says_int (by rw [major, ← Hts.out, sumL, Hm.out]) (hb3.trans (hbr.mono hb3.size))
  · have Hv := hid hv
    go_enter Try.func22, Try.ntmps22
    go_wp2_with fail
    refine (validI_any _ _ _ xs _ h).mono ?_
    rintro e w1 ⟨rfl, hb1⟩
    go_wp2
    go_ret
    rw [onVi_no Hv.out]
    exact ⟨rfl, hb1⟩

end Go.Proofs.Ytjphaphnmclbcaa
