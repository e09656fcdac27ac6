/- Signs, lengths, flags and falls of signed orders, in the program and in its model. Condition: the list's cells can be read and hold numbers of 64 bits. -/
import Derived.Test.YtaceiebmgnhdgaaGreatDoorSgnB
namespace Go.Proofs.YtaceiebmgnhdgaaGreatDoor
open Go.RowKit

theorem st_valid {xs : List Int} (h : SV xs) : Valid (stL xs) := by rw [st_rkA h]; exact rkA_valid (by have := h.len; omega)
theorem st_inv {xs : List Int} (h : SV xs) : onVi (stL xs) (sumL (table (stL xs))) (-1) = sumL (table xs) := by rw [onVi_yes (st_valid h), st_rkA h, table_rkA]
theorem st_maj {xs : List Int} (h : SV xs) : onVi (stL xs) (major (stL xs)) (-1) = major xs := by rw [onVi_yes (st_valid h), st_rkA h, major_rkA]
theorem st_desc {xs : List Int} (h : SV xs) : onV (stL xs) (desc (stL xs)) = desc xs := by
  rw [onV_yes (st_valid h), st_rkA h, desc, desc, rkA_len, dsP_rkA xs _ (Nat.le_refl _)]
theorem inv5 {xs : List Int} (h : xs.length ≤ 5) : 0 ≤ sumL (table xs) ∧ sumL (table xs) ≤ 25 := by
  have h1 := sumL_bd (xs := table xs) (M := 5) (L := 5) (fun j hj => by have := table_bd xs j hj; omega) (by rw [table_len]; exact h)
  omega
theorem maj5 {xs : List Int} (h : xs.length ≤ 5) : 0 ≤ major xs ∧ major xs ≤ 100 := by
  have hd := desc_len xs
  have h1 := sumL_bd (xs := desc xs) (M := 5) (L := 5) (fun j hj => by
    have : 0 ≤ el (desc xs) j ∧ el (desc xs) j < (xs.length - 1 : Nat) := dsP_mem xs _ _ (el_mem hj)
    omega) (by omega)
  unfold major
  omega

set_option maxHeartbeats 400000 in
theorem stInv_any (ao : Option Addr) (n cap : Nat) (xs : List Int) (w : World) (h : Sl w ao n cap xs) :
    Calls Tryz.prog 107 #[.slice ao n cap] w (Says w (.int .i64 (onVi xs (sumL (table xs)) (-1)))) := by
  go_enter Tryz.func107, Tryz.ntmps107
  go_wp2_with fail
  refine (invsI_any _ _ _ xs _ h).mono ?_
  rintro e w1 ⟨rfl, hb1⟩
  go_wp2
  go_ret
  exact ⟨rfl, hb1⟩

set_option maxHeartbeats 400000 in
theorem stMaj_any (ao : Option Addr) (n cap : Nat) (xs : List Int) (w : World) (h : Sl w ao n cap xs) :
    Calls Tryz.prog 109 #[.slice ao n cap] w (Says w (.int .i64 (onVi xs (major xs) (-1)))) := by
  go_enter Tryz.func109, Tryz.ntmps109
  go_wp2_with fail
  refine (majorI_any _ _ _ xs _ h).mono ?_
  rintro e w1 ⟨rfl, hb1⟩
  go_wp2
  go_ret
  exact ⟨rfl, hb1⟩

set_option maxHeartbeats 1000000 in
theorem bel_any (u : Value) (ao : Option Addr) (n cap : Nat) (xs : List Int) (w : World) (h : Sl w ao n cap xs) (Hv : Hid (SV xs)) :
    Calls Tryz.prog 108 #[.agg #[u, .slice ao n cap]] w (Made w (bwL xs xs.length)) := by
  have hbig := h.big
  have hlen := hid h.len
  have h5 : n ≤ 5 := by have := Hv.out.len; rw [hlen.out] at this; exact this
  have hO := Ord2.made w u (.slice ao n cap)
  have hc1 := hO.cell1
  have hlit : Own ((w.alloc (.cells #[u, .slice ao n cap] 130)).alloc (.cells #[] 3)) w.heap.size (.slice (some ⟨w.heap.size + 1, 0, none⟩) 0 0) [] := by
    have := own_lit_at (B := w.heap.size) (w := w.alloc (.cells #[u, .slice ao n cap] 130)) (by simp)
    rw [World.size_alloc] at this
    exact this
  have hc1' : ((w.alloc (.cells #[u, .slice ao n cap] 130)).alloc (.cells #[] 3)).cell? ⟨w.heap.size, 1, none⟩ = some (.slice ao n cap) := (hO.keep ((Below.refl _ _).alloc (Nat.le_refl _) _)).cell1
  clear hO
  go_enter Tryz.func108, Tryz.ntmps108
  go_wp2
  go_loopw [3, 10] (fun v i wr => ∃ (k m : Nat) (ao' : Option Addr) (cap' : Nat), k ≤ n ∧ v = .slice ao' m cap' ∧ i = .int .i64 k ∧ Below w.heap.size w wr ∧ Own wr w.heap.size (.slice ao' m cap') (bwL xs k))
    (fun _ i _ => n - (intOf i).toNat)
  case atStart => exact ⟨0, _, _, _, Nat.zero_le _, rfl, rfl, ((Below.refl _ _).alloc (Nat.le_refl _) _).alloc (by simp) _, hlit⟩
  case round =>
    obtain ⟨k, m, ao', cap', hk, rfl, rfl, hbr, ho⟩ := hrel
    have hsz := hbr.size
    have hl : (bwL xs k).length ≤ 2000000 := by have := bwL_le xs k; omega
    by_cases hlt : k < n
    · obtain ⟨b, off, rfl, hblt, hc⟩ := h.row (by omega)
      have hcell := (hbr.cell (p := ⟨b, off + k, none⟩) hblt).trans (hc k hlt)
      have hi1 : (k : Int) < n := by omega
      have hbk : Hid (-9223372036854775807 ≤ el xs k ∧ el xs k ≤ 9223372036854775807) := by have := Hv.out.lo (j := k) (by rw [hlen.out]; exact hlt); rw [hlen.out] at this; exact ⟨by omega, by omega⟩
      clear hc
      by_cases he : el xs k < 0
      · go_wp2_with fail
        refine (sizeI_any _ _ hbk.out).mono ?_
        rintro e w3 ⟨rfl, hw3⟩
        subst hw3
        go_wp2_with (at_builtin; refine app_int _ _ rfl _ _ rfl w.heap.size _ _ rfl ho rfl hl hsz ?_)
        intro u' w' ho' hg'
        have hb' := below_app hbr ho hg'
        rw [← bwL_yes he] at ho'
        have hl' := hid (rfl : (bwL xs (k + 1)).length = (bwL xs (k + 1)).length)
        obtain ⟨ao', cap', rfl, hs'⟩ := ho'.sl
        go_wp2
        go_roundw
        case rel => exact ⟨k + 1, _, _, _, by omega, rfl, by go_num, hb', ho'⟩
        case measure => simp [intOf]; omega
      · have hb0 : Hid (Own wr w.heap.size (.slice ao' m cap') (bwL xs (k + 1))) := by rw [bwL_no he]; exact ho
        go_wp2
        go_roundw
        case rel => exact ⟨k + 1, _, _, _, by omega, rfl, by go_num, hbr, hb0.out⟩
        case measure => simp [intOf]; omega
    · obtain rfl : k = n := by omega
      go_wp2
      go_ret
      refine ⟨_, rfl, ?_, hbr⟩
      rw [hlen.out]
      exact ho

set_option maxHeartbeats 1000000 in
theorem lenI_any (ao : Option Addr) (n cap : Nat) (xs : List Int) (w : World) (h : Sl w ao n cap xs) (Hr : Hid (R64 xs)) :
    Calls Tryz.prog 75 #[.slice ao n cap] w (Says w (.int .i64 (onSi xs (lenS xs) (-1)))) := by
  have hbig := h.big
  have hlen := hid h.len
  by_cases hv : SV xs
  · have h5 : n ≤ 5 := by have := hv.len; rw [hlen.out] at this; exact this
    have Hv := hid hv
    have hst : Hid ((stL xs).length = n) := hid (by rw [stL, map_range_len, hlen.out])
    clear hv
    go_enter Tryz.func75, Tryz.ntmps75
    go_wp2_with fail
    refine (sgoI_yes _ _ _ xs _ h Hv).mono ?_
    rintro e w1 ⟨u1, rfl, ho1, hb1⟩
    obtain ⟨a1, c1, rfl, hs1⟩ := ho1.sl
    rw [hst.out] at hs1
    rw [hst.out]
    clear ho1
    have hO := Ord2.made w1 (.slice a1 n c1) (.slice ao n cap)
    have hx := (Below.refl w1.heap.size w1).alloc (Nat.le_refl _) (.cells #[.slice a1 n c1, .slice ao n cap] 130)
    have hs2 := hs1.later hx
    have hp2 := (h.later hb1).later hx
    have hb2 := hb1.trans (hx.mono hb1.size)
    have c0 := hO.cell0
    have c1' := hO.cell1
    clear hx hs1
    go_wp2_with fail
    refine (says_to (stInv_any _ _ _ (stL xs) _ hs2) (st_inv Hv.out)).mono ?_
    rintro e w3 ⟨rfl, hb3⟩
    have hx := hb3
    replace hO := hO.keep hx
    replace hs2 := hs2.later hx
    replace hp2 := hp2.later hx
    replace hb2 := hb2.trans (hx.mono hb2.size)
    replace c0 := hO.cell0
    replace c1' := hO.cell1
    clear hx
    have hq := inv5 Hv.out.len
    have hq1 := hq.1
    have hq2 := hq.2
    clear hq
    go_wp2_with fail
    refine (bel_any _ _ _ _ xs _ hp2 Hv).mono ?_
    rintro e w4 ⟨u4, rfl, ho4, hb4⟩
    obtain ⟨a4, c4, rfl, hs4⟩ := ho4.sl
    have hb5 := hb2.trans (hb4.mono hb2.size)
    have hm1 := bwL_le xs xs.length
    have hm : (bwL xs xs.length).length ≤ 5 := by rw [hlen.out] at hm1 ⊢; omega
    clear hm1
    have hts : Hid (∀ j, j < (bwL xs xs.length).length → 0 ≤ el (bwL xs xs.length) j ∧ el (bwL xs xs.length) j ≤ (5 : Nat)) := fun j hj => bwL_mem Hv.out _ (Nat.le_refl _) _ (el_mem hj)
    obtain ⟨ts, Hts⟩ : ∃ ts, Hid (ts = bwL xs xs.length) := ⟨_, rfl⟩
    rw [← Hts.out] at hs4 hm hts ⊢
    obtain ⟨m, hme⟩ : ∃ m, ts.length = m := ⟨_, rfl⟩
    rw [hme] at hs4 hm ⊢
    have Hm := hid hme
    obtain ⟨I, HI⟩ : ∃ I, Hid (I = sumL (table xs)) := ⟨_, rfl⟩
    rw [← HI.out] at hq1 hq2
    rw [← HI.out]
    clear hme ho4 hs2 hp2 hO c0 c1' hb3 hb1
    go_wp2
    go_loopw [5, 21] (fun v i wr => ∃ (k : Nat), k ≤ m ∧ v = .int .i64 (I + sumTo ts k) ∧ i = .int .i64 k ∧ Below w4.heap.size w4 wr)
      (fun _ i _ => m - (intOf i).toNat)
    case atStart => exact ⟨0, Nat.zero_le _, by rw [sumTo, Int.add_zero], rfl, Below.refl _ _⟩
    case round =>
      obtain ⟨k, hk, rfl, rfl, hbr⟩ := hrel
      have hbd := sumTo_bd hts.out k (by rw [Hm.out]; exact hk)
      have hbb2 : sumTo ts k ≤ 25 := by omega
      have hbb1 := hbd.1
      clear hbd
      by_cases hlt : k < m
      · obtain ⟨b, off, rfl, hblt, hc⟩ := hs4.row (by omega)
        have hcell := (hbr.cell (p := ⟨b, off + k, none⟩) hblt).trans (hc k hlt)
        have he := hts.out k (by rw [Hm.out]; exact hlt)
        have he0 := he.1
        have he1 := he.2
        clear hc he
        go_wp2
        go_roundw
        case rel => exact ⟨k + 1, by omega, by rw [sumTo]; congr 1; omega, by go_num, hbr⟩
        case measure => simp [intOf]; omega
      · obtain rfl : k = m := by omega
        go_wp2
        go_ret
        rw [onSi_yes Hv.out]
        have e : I + sumTo ts k = lenS xs := by
          rw [HI.out, lenS, ← bwL_sum, ← Hts.out]
          show _ = _ + sumTo ts ts.length
          rw [Hm.out]
        exact says_int e (hb5.trans (hbr.mono hb5.size))
  · have Hv := hid hv
    clear hv
    go_enter Tryz.func75, Tryz.ntmps75
    go_wp2_with fail
    refine (sgoI_no _ _ _ xs _ h Hr Hv).mono ?_
    rintro e w1 ⟨rfl, hb1⟩
    go_wp2
    go_ret
    rw [onSi_no Hv.out]
    exact says_int rfl (hb1.alloc hb1.size _)

theorem belM_any (u : Value) (ao : Option Addr) (n cap : Nat) (xs : List Int) (w : World) (h : Sl w ao n cap xs) (Hv : Hid (SV xs)) (m : Nat) (hm : Hid ((bwL xs xs.length).length = m)) :
    Calls Tryz.prog 108 #[.agg #[u, .slice ao n cap]] w fun e w' => ∃ a c, e = .returned (.slice a m c) ∧ Below w.heap.size w w' := by
  refine (bel_any u ao n cap xs w h Hv).mono ?_
  rintro e w4 ⟨u4, rfl, ho4, hb4⟩
  obtain ⟨a4, c4, rfl, -⟩ := ho4.sl
  exact ⟨a4, c4, by rw [hm.out], hb4⟩

set_option maxHeartbeats 1000000 in
theorem flagI_any (ao : Option Addr) (n cap : Nat) (xs : List Int) (w : World) (h : Sl w ao n cap xs) (Hr : Hid (R64 xs)) :
    Calls Tryz.prog 76 #[.slice ao n cap] w (Says w (.int .i64 (onSi xs (flagS xs) (-1)))) := by
  have hbig := h.big
  have hlen := hid h.len
  by_cases hv : SV xs
  · have h5 : n ≤ 5 := by have := hv.len; rw [hlen.out] at this; exact this
    have Hv := hid hv
    have hst : Hid ((stL xs).length = n) := hid (by rw [stL, map_range_len, hlen.out])
    clear hv
    go_enter Tryz.func76, Tryz.ntmps76
    go_wp2_with fail
    refine (sgoI_yes _ _ _ xs _ h Hv).mono ?_
    rintro e w1 ⟨u1, rfl, ho1, hb1⟩
    obtain ⟨a1, c1, rfl, hs1⟩ := ho1.sl
    rw [hst.out] at hs1
    rw [hst.out]
    clear ho1
    have hO := Ord2.made w1 (.slice a1 n c1) (.slice ao n cap)
    have hx := (Below.refl w1.heap.size w1).alloc (Nat.le_refl _) (.cells #[.slice a1 n c1, .slice ao n cap] 130)
    have hs2 := hs1.later hx
    have hp2 := (h.later hb1).later hx
    have hb2 := hb1.trans (hx.mono hb1.size)
    have c0 := hO.cell0
    have c1' := hO.cell1
    clear hx hs1
    have hq := maj5 Hv.out.len
    have hq1 := hq.1
    have hq2 := hq.2
    clear hq
    have hm1 := bwL_le xs xs.length
    have hm : (bwL xs xs.length).length ≤ 5 := by rw [hlen.out] at hm1 ⊢; omega
    have hne := bwL_len xs xs.length
    obtain ⟨m, hme⟩ : ∃ m, (bwL xs xs.length).length = m := ⟨_, rfl⟩
    rw [hme] at hne hm
    have Hne := hid hne
    have Hme := hid hme
    obtain ⟨M, HM⟩ : ∃ M, Hid (M = major xs) := ⟨_, rfl⟩
    rw [← HM.out] at hq1 hq2
    have hw1 : IntKind.i64.wrap (2 * M) = 2 * M := IntWalk.i64_in _ ⟨by omega, by omega⟩
    have hw2 : IntKind.i64.wrap (2 * M + (m : Int)) = 2 * M + m := IntWalk.i64_in _ ⟨by omega, by omega⟩
    have Hmaj := hid ((st_maj Hv.out).trans HM.out.symm)
    have hs2D : Sl (w1.alloc (.cells #[.slice a1 n c1, .slice ao n cap] 130)).drew a1 n c1 (stL xs) := hs2.later (Below.refl _ _).drew
    have hp2D : Sl (w1.alloc (.cells #[.slice a1 n c1, .slice ao n cap] 130)).drew ao n cap xs := hp2.later (Below.refl _ _).drew
    have hOD : Ord2 (w1.alloc (.cells #[.slice a1 n c1, .slice ao n cap] 130)).drew w1.heap.size (.slice a1 n c1) (.slice ao n cap) := hO.keep (Below.refl _ _).drew
    have hb2D := hb2.drew
    have c0D := hOD.cell0
    have c1D := hOD.cell1
    clear hme hs2 hp2 hO c0 c1' hb1 hne hm1 hb2
    go_wp2_with fail
    go_region_with (first
      | (go_at_call 108; refine (belM_any _ _ _ _ xs _ hpx Hv m Hme).mono ?_; rintro e w4 ⟨a4, c4, rfl, hb4⟩; have hb5 := hbx.trans (hb4.mono hbx.size))
      | (go_at_call 109; refine (says_to (stMaj_any _ _ _ (stL xs) _ hs2D) Hmaj.out).mono ?_; rintro e w3 ⟨rfl, hb3⟩; have hOx := hOD.keep hb3; have hpx := hp2D.later hb3; have c0x := hOx.cell0; have c1x := hOx.cell1; have hbx := hb2D.trans (hb3.mono hb2D.size)))
    all_goals go_wp2
    all_goals go_ret
    all_goals rw [onSi_yes Hv.out]
    all_goals exact says_int (by rw [flagS, ngN, ← Hne.out, HM.out]) hb5
  · have Hv := hid hv
    clear hv
    go_enter Tryz.func76, Tryz.ntmps76
    go_wp2_with fail
    refine (sgoI_no _ _ _ xs _ h Hr Hv).mono ?_
    rintro e w1 ⟨rfl, hb1⟩
    go_wp2
    go_ret
    rw [onSi_no Hv.out]
    exact says_int rfl (hb1.alloc hb1.size _)

end Go.Proofs.YtaceiebmgnhdgaaGreatDoor
