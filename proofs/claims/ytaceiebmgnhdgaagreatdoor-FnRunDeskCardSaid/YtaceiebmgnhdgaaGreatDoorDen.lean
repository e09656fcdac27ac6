/- Denert's number, in the program and in its model. Condition: the list's cells can be read. -/
import Derived.Test.YtaceiebmgnhdgaaGreatDoorPrs
import Derived.Test.YtaceiebmgnhdgaaGreatDoorCnt
import Derived.Test.YtaceiebmgnhdgaaGreatDoorBnd
import Derived.Test.YtaceiebmgnhdgaaGreatDoorApp2
namespace Go.Proofs.YtaceiebmgnhdgaaGreatDoor
open Go.RowKit

theorem own_lit2 (w : World) (o : Obj) : Own ((w.alloc o).alloc (.cells #[] 3)) w.heap.size (.slice (some ⟨w.heap.size + 1, 0, none⟩) 0 0) [] := by
  have := own_lit_at (B := w.heap.size) (w := w.alloc o) (by simp)
  rw [World.size_alloc] at this
  exact this

set_option maxHeartbeats 1000000 in
theorem invs0_any (ao : Option Addr) (n cap : Nat) (xs : List Int) (w : World) (h : Sl w ao n cap xs) (h7 : n ≤ 7) :
    Calls Tryz.prog 54 #[.slice ao n cap] w (Says w (.int .i64 (sumL (table xs)))) := by
  have hbig := h.big
  have hlen := hid h.len
  have hl2 : (table xs).length ≤ 1000 := by rw [table_len, hlen.out]; omega
  have hts : Hid (∀ j, j < (table xs).length → 0 ≤ el (table xs) j ∧ el (table xs) j ≤ (1000 : Nat)) := fun j hj => by have := table_bd xs j hj; rw [hlen.out] at this; omega
  go_enter Tryz.func54, Tryz.ntmps54
  go_wp2_with fail
  refine (lesser_any _ _ _ xs _ h (by omega)).mono ?_
  rintro e w2 ⟨u2, rfl, ho2, hb2⟩
  obtain ⟨a2, c2, rfl, hs2⟩ := ho2.sl
  go_wp2_with fail
  refine (sum_any _ _ _ _ _ hs2 hl2 hts).mono ?_
  rintro e w3 ⟨rfl, hb3⟩
  go_wp2
  go_ret
  exact ⟨rfl, hb2.trans (hb3.mono hb2.size)⟩

set_option maxHeartbeats 1000000 in
theorem den0_any (ao : Option Addr) (n cap : Nat) (xs : List Int) (w : World) (h : Sl w ao n cap xs) (hv : Valid xs) :
    Calls Tryz.prog 58 #[.slice ao n cap] w (Says w (.int .i64 (den xs))) := by
  have hbig := h.big
  have hlen := hid h.len
  have h7 : n ≤ 7 := by have := hv.len; rw [hlen.out] at this; exact this
  have Hv := hid hv
  clear hv
  go_enter Tryz.func58, Tryz.ntmps58
  go_wp2
  go_loopw [3, 4, 5, 6] (fun u d o i wr => ∃ (k m1 : Nat) (ao1 : Option Addr) (c1 m2 : Nat) (ao2 : Option Addr) (c2 : Nat), k ≤ n ∧ u = .slice ao1 m1 c1 ∧ d = .slice ao2 m2 c2 ∧ o = .int .i64 (duP xs k) ∧ i = .int .i64 k ∧ Below w.heap.size w wr ∧ Own wr w.heap.size (.slice ao1 m1 c1) (uvP xs k) ∧ Own wr w.heap.size (.slice ao2 m2 c2) (dvP xs k) ∧ Apart (.slice ao1 m1 c1) (.slice ao2 m2 c2))
    (fun _ _ _ i _ => n - (intOf i).toNat)
  case atStart => exact ⟨0, _, _, _, _, _, _, Nat.zero_le _, rfl, rfl, rfl, rfl, ((Below.refl _ _).alloc (Nat.le_refl _) _).alloc (by simp) _, World.ownsRow.alloc (own_lit w) _, own_lit2 w _, Or.inr (by simp [Value.ownBlock])⟩
  case round =>
    obtain ⟨k, m1, ao1, c1, m2, ao2, c2, hk, rfl, rfl, rfl, rfl, hbr, ho1, ho2, hap⟩ := hrel
    have hsz := hbr.size
    have hl1 : (uvP xs k).length ≤ 2000000 := by have := uvP_len xs k; omega
    have hl2 : (dvP xs k).length ≤ 2000000 := by have := dvP_len xs k; omega
    have hbd := duP_bd xs k
    have hq1 := hbd.1
    have hq2 : duP xs k ≤ 49 := Int.le_trans hbd.2 (by have : (k : Int) * k ≤ 7 * 7 := Int.mul_le_mul (by omega) (by omega) (by omega) (by omega); omega)
    clear hbd
    by_cases hlt : k < n
    · obtain ⟨b, off, rfl, hblt, hc⟩ := h.row (by omega)
      have hcell := (hbr.cell (p := ⟨b, off + k, none⟩) hblt).trans (hc k hlt)
      have hi1 : (k : Int) < n := by omega
      clear hc
      by_cases he : (k : Int) < el xs k
      · have Hf := hid he
        go_wp2_with (at_builtin; refine app_int2 _ _ rfl _ _ rfl w.heap.size _ _ rfl ho1 rfl hl1 hsz ?_)
        intro u' w' ho' hg' hk'
        have hb' := below_app hbr ho1 hg'
        have ho2' := ho2.kept hg' hap.symm
        have hap' := hap.app ho2 hk'
        rw [← uvP_yes Hf.out] at ho'
        have hl' := hid (rfl : (uvP xs (k + 1)).length = (uvP xs (k + 1)).length)
        obtain ⟨ao', cap', rfl, hs'⟩ := ho'.sl
        go_wp2
        go_roundw
        case rel => exact ⟨k + 1, _, _, _, _, _, _, by omega, rfl, rfl, by rw [duP_yes Hf.out], by go_num, hb', ho', by rw [dvP_yes Hf.out]; exact ho2', hap'⟩
        case measure => simp [intOf]; omega
      · have he' : el xs k ≤ k := by omega
        have Hf := hid he'
        go_wp2_with (at_builtin; refine app_int2 _ _ rfl _ _ rfl w.heap.size _ _ rfl ho2 rfl hl2 hsz ?_)
        intro u' w' ho' hg' hk'
        have hb' := below_app hbr ho2 hg'
        have ho1' := ho1.kept hg' hap
        have hap' := (hap.symm.app ho1 hk').symm
        rw [← dvP_no Hf.out] at ho'
        have hl' := hid (rfl : (dvP xs (k + 1)).length = (dvP xs (k + 1)).length)
        obtain ⟨ao', cap', rfl, hs'⟩ := ho'.sl
        go_wp2
        go_roundw
        case rel => exact ⟨k + 1, _, _, _, _, _, _, by omega, rfl, rfl, by rw [duP_no Hf.out], by go_num, hb', by rw [uvP_no Hf.out]; exact ho1', ho', hap'⟩
        case measure => simp [intOf]; omega
    · obtain rfl : k = n := by omega
      have hs1 := ho1.read
      have hs2 := ho2.read
      have hm1 : m1 ≤ 7 := by have := hs1.len; have := uvP_len xs k; omega
      have hm2 : m2 ≤ 7 := by have := hs2.len; have := dvP_len xs k; omega
      have he1 := sumL_bd (xs := table (uvP xs k)) (M := 1000) (L := 7) (fun j hj => by have := table_bd _ j hj; have := uvP_len xs k; omega) (by rw [table_len]; have := uvP_len xs k; omega)
      have he2 := sumL_bd (xs := table (dvP xs k)) (M := 1000) (L := 7) (fun j hj => by have := table_bd _ j hj; have := dvP_len xs k; omega) (by rw [table_len]; have := dvP_len xs k; omega)
      have hx1 := he1.1
      have hx2 : sumL (table (uvP xs k)) ≤ 7000 := by have := he1.2; omega
      have hy1 := he2.1
      have hy2 : sumL (table (dvP xs k)) ≤ 7000 := by have := he2.2; omega
      clear he1 he2
      go_wp2_with fail
      refine (invs0_any _ _ _ _ _ hs1 hm1).mono ?_
      rintro e w3 ⟨rfl, hb3⟩
      go_wp2_with fail
      refine (invs0_any _ _ _ _ _ (hs2.later hb3) hm2).mono ?_
      rintro e w4 ⟨rfl, hb4⟩
      have hb5 := hbr.trans (hb3.mono hbr.size)
      go_wp2
      go_ret
      exact says_int (by rw [← den_eq, hlen.out]) (hb5.trans (hb4.mono hb5.size))

set_option maxHeartbeats 1000000 in
theorem denI_any (ao : Option Addr) (n cap : Nat) (xs : List Int) (w : World) (h : Sl w ao n cap xs) :
    Calls Tryz.prog 87 #[.slice ao n cap] w (Says w (.int .i64 (onVi xs (den xs) (-1)))) := by
  have hbig := h.big
  have hlen := hid h.len
  by_cases hv : Valid xs
  · have h7 : n ≤ 7 := by have := hv.len; rw [hlen.out] at this; exact this
    have Hv := hid hv
    go_enter Tryz.func87, Tryz.ntmps87
    go_wp2_with fail
    refine (validI_any _ _ _ xs _ h).mono ?_
    rintro e w1 ⟨rfl, hb1⟩
    have hsz := hb1.size
    go_wp2_with fail
    refine (says_to (denW_any _ _ _ xs _ (h.later hb1)) (onVi_yes Hv.out)).mono ?_
    rintro e w2 ⟨rfl, hb2⟩
    have hb12 := hb1.trans (hb2.mono hsz)
    go_wp2_with fail
    refine (made_to (aboveI_any _ _ _ xs _ (h.later hb12)) (onV_yes Hv.out)).mono ?_
    rintro e w3 ⟨u3, rfl, ho3, hb3⟩
    obtain ⟨a3, c3, rfl, hs3⟩ := ho3.sl
    have hb13 := hb12.trans (hb3.mono hb12.size)
    have hl2 : (above xs).length ≤ 7 := by have := above_len xs; rw [hlen.out] at this; omega
    have hts : Hid (∀ j, j < (above xs).length → 0 ≤ el (above xs) j ∧ el (above xs) j ≤ (7 : Nat)) := fun j hj => by
      have : 0 ≤ el (above xs) j ∧ el (above xs) j < (xs.length : Int) := plP_mem upF xs _ _ (el_mem hj)
      rw [hlen.out] at this; omega
    have hpb := prP_bd denF xs xs.length
    have hp1 : 0 ≤ pairs denF xs := hpb.1
    have hp2 : pairs denF xs ≤ 49 := Int.le_trans hpb.2 (by rw [hlen.out]; have : (n : Int) * n ≤ 7 * 7 := Int.mul_le_mul (by omega) (by omega) (by omega) (by omega); omega)
    clear hpb hv
    obtain ⟨pd, Hpd⟩ : ∃ pd, Hid (pd = pairs denF xs) := ⟨_, rfl⟩
    rw [← Hpd.out] at hp1 hp2 ⊢
    obtain ⟨ts, Hts⟩ : ∃ ts, Hid (ts = above xs) := ⟨_, rfl⟩
    rw [← Hts.out] at hs3 hl2 hts ⊢
    obtain ⟨m, hm⟩ : ∃ m, ts.length = m := ⟨_, rfl⟩
    rw [hm] at hs3 hl2 ⊢
    have Hm := hid hm
    clear hm ho3
    go_wp2
    go_loopw [3, 14] (fun v i wr => ∃ (k : Nat), k ≤ m ∧ v = .int .i64 (pd + (sumTo ts k + k)) ∧ i = .int .i64 k ∧ Below w3.heap.size w3 wr)
      (fun _ i _ => m - (intOf i).toNat)
    case atStart => exact ⟨0, Nat.zero_le _, by simp [sumTo], rfl, Below.refl _ _⟩
    case round =>
      obtain ⟨k, hk, rfl, rfl, hbr⟩ := hrel
      have hbd := sumTo_bd hts.out k (by rw [Hm.out]; exact hk)
      have hbb2 : sumTo ts k ≤ 49 := Int.le_trans hbd.2 (by have : (k : Int) * (7 : Nat) ≤ 7 * (7 : Nat) := Int.mul_le_mul_of_nonneg_right (by omega) (by omega); omega)
      have hbb1 := hbd.1
      clear hbd
      by_cases hlt : k < m
      · obtain ⟨b, off, rfl, hblt, hc⟩ := hs3.row (by omega)
        have hcell := (hbr.cell (p := ⟨b, off + k, none⟩) hblt).trans (hc k hlt)
        have he := hts.out k (by rw [Hm.out]; exact hlt)
        have he0 := he.1
        have he1 := he.2
        clear hc he
        go_wp2
        go_roundw
        case rel => exact ⟨k + 1, by omega, by rw [sumTo]; congr 1; omega, by go_num, hbr⟩
        case measure => simp [intOf]; omega
      · obtain rfl : k = m := by omega
        go_wp2
        go_ret
        rw [onVi_yes Hv.out]
        refine says_int ?_ (hb13.trans (hbr.mono hb13.size))
        have e := du_above xs xs.length
        have e2 : sumTo ts k + (k : Int) = duP xs xs.length := by rw [← e, ← above, ← Hts.out, sumL, Hm.out]
        rw [den, ← Hpd.out, e2]
  · have Hv := hid hv
    go_enter Tryz.func87, Tryz.ntmps87
    go_wp2_with fail
    refine (validI_any _ _ _ xs _ h).mono ?_
    rintro e w1 ⟨rfl, hb1⟩
    go_wp2
    go_ret
    rw [onVi_no Hv.out]
    exact ⟨rfl, hb1⟩

end Go.Proofs.YtaceiebmgnhdgaaGreatDoor
