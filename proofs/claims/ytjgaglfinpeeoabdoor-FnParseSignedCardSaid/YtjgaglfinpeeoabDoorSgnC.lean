/- Signs, lengths, flags and falls of signed orders, in the program and in its model. Condition: the list's cells can be read and hold numbers of 64 bits. -/
import Derived.Test.YtjgaglfinpeeoabDoorSgnB
namespace Go.Proofs.YtjgaglfinpeeoabDoor
open Go.RowKit

theorem st_valid {xs : List Int} (h : SV xs) : Valid (stL xs) := by rw [st_rkA h]; exact rkA_valid (by have := h.len; omega)
theorem st_inv {xs : List Int} (h : SV xs) : onVi (stL xs) (sumL (table (stL xs))) (-1) = sumL (table xs) := by rw [onVi_yes (st_valid h), st_rkA h, table_rkA]
theorem st_maj {xs : List Int} (h : SV xs) : onVi (stL xs) (major (stL xs)) (-1) = major xs := by rw [onVi_yes (st_valid h), st_rkA h, major_rkA]
theorem st_desc {xs : List Int} (h : SV xs) : onV (stL xs) (desc (stL xs)) = desc xs := by
  rw [onV_yes (st_valid h), st_rkA h, desc, desc, rkA_len, dsP_rkA xs _ (Nat.le_refl _)]
theorem inv5 {xs : List Int} (h : xs.length ≤ 5) : 0 ≤ sumL (table xs) ∧ sumL (table xs) ≤ 25 := by
  have h1 := sumL_bd (xs := table xs) (M := 5) (L := 5) (fun j hj => by have := table_bd xs j hj; omega) (by rw [table_len]; exact h)
  omega
theorem maj5 {xs : List Int} (h : xs.length ≤ 5) : 0 ≤ major xs ∧ major xs ≤ 100 := by
  have hd := desc_len xs
  have h1 := sumL_bd (xs := desc xs) (M := 5) (L := 5) (fun j hj => by
    have : 0 ≤ el (desc xs) j ∧ el (desc xs) j < (xs.length - 1 : Nat) := dsP_mem xs _ _ (el_mem hj)
    omega) (by omega)
  unfold major
  omega

set_option maxHeartbeats 1000000 in
theorem bel_any (u : Value) (ao : Option Addr) (n cap : Nat) (xs : List Int) (w : World) (h : Sl w ao n cap xs) (Hv : Hid (SV xs)) :
    Calls Tryd.prog 28 #[.agg #[u, .slice ao n cap]] w (Made w (bwL xs xs.length)) := by
  have hbig := h.big
  have hlen := hid h.len
  have h5 : n ≤ 5 := by have := Hv.out.len; rw [hlen.out] at this; exact this
  have hO := Ord2.made w u (.slice ao n cap)
  have hc1 := hO.cell1
  have hlit : Own ((w.alloc (.cells #[u, .slice ao n cap] 50)).alloc (.cells #[] 3)) w.heap.size (.slice (some ⟨w.heap.size + 1, 0, none⟩) 0 0) [] := by
    have := own_lit_at (B := w.heap.size) (w := w.alloc (.cells #[u, .slice ao n cap] 50)) (by simp)
    rw [World.size_alloc] at this
    exact this
  have hc1' : ((w.alloc (.cells #[u, .slice ao n cap] 50)).alloc (.cells #[] 3)).cell? ⟨w.heap.size, 1, none⟩ = some (.slice ao n cap) := (hO.keep ((Below.refl _ _).alloc (Nat.le_refl _) _)).cell1
  clear hO
  go_enter Tryd.func28, Tryd.ntmps28
  go_wp2
  go_loopw [3, 10] (fun v i wr => ∃ (k m : Nat) (ao' : Option Addr) (cap' : Nat), k ≤ n ∧ v = .slice ao' m cap' ∧ i = .int .i64 k ∧ Below w.heap.size w wr ∧ Own wr w.heap.size (.slice ao' m cap') (bwL xs k))
    (fun _ i _ => n - (intOf i).toNat)
  case atStart => exact ⟨0, _, _, _, Nat.zero_le _, rfl, rfl, ((Below.refl _ _).alloc (Nat.le_refl _) _).alloc (by simp) _, hlit⟩
  case round =>
    obtain ⟨k, m, ao', cap', hk, rfl, rfl, hbr, ho⟩ := hrel
    have hsz := hbr.size
    have hl : (bwL xs k).length ≤ 2000000 := by have := bwL_le xs k; omega
    by_cases hlt : k < n
    · obtain ⟨b, off, rfl, hblt, hc⟩ := h.row (by omega)
      have hcell := (hbr.cell (p := ⟨b, off + k, none⟩) hblt).trans (hc k hlt)
      have hi1 : (k : Int) < n := by omega
      have hbk : Hid (-9223372036854775807 ≤ el xs k ∧ el xs k ≤ 9223372036854775807) := by have := Hv.out.lo (j := k) (by rw [hlen.out]; exact hlt); rw [hlen.out] at this; exact ⟨by omega, by omega⟩
      clear hc
      by_cases he : el xs k < 0
      · go_wp2_with fail
        refine (sizeI_any _ _ hbk.out).mono ?_
        rintro e w3 ⟨rfl, hw3⟩
        subst hw3
        go_wp2_with (at_builtin; refine app_int _ _ rfl _ _ rfl w.heap.size _ _ rfl ho rfl hl hsz ?_)
        intro u' w' ho' hg'
        have hb' := below_app hbr ho hg'
        rw [← bwL_yes he] at ho'
        have hl' := hid (rfl : (bwL xs (k + 1)).length = (bwL xs (k + 1)).length)
        obtain ⟨ao', cap', rfl, hs'⟩ := ho'.sl
        go_wp2
        go_roundw
        case rel => exact ⟨k + 1, _, _, _, by omega, rfl, by go_num, hb', ho'⟩
        case measure => simp [intOf]; omega
      · have hb0 : Hid (Own wr w.heap.size (.slice ao' m cap') (bwL xs (k + 1))) := by rw [bwL_no he]; exact ho
        go_wp2
        go_roundw
        case rel => exact ⟨k + 1, _, _, _, by omega, rfl, by go_num, hbr, hb0.out⟩
        case measure => simp [intOf]; omega
    · obtain rfl : k = n := by omega
      go_wp2
      go_ret
      refine ⟨_, rfl, ?_, hbr⟩
      rw [hlen.out]
      exact ho

set_option maxHeartbeats 1000000 in
theorem ngI_any (ao : Option Addr) (n cap : Nat) (xs : List Int) (w : World) (h : Sl w ao n cap xs) (Hr : Hid (R64 xs)) :
    Calls Tryd.prog 12 #[.slice ao n cap] w (Says w (.int .i64 (onSi xs (ngN xs) (-1)))) := by
  have hbig := h.big
  have hlen := hid h.len
  by_cases hv : SV xs
  · have h5 : n ≤ 5 := by have := hv.len; rw [hlen.out] at this; exact this
    have Hv := hid hv
    have hst : Hid ((stL xs).length = n) := hid (by rw [stL, map_range_len, hlen.out])
    clear hv
    go_enter Tryd.func12, Tryd.ntmps12
    go_wp2_with fail
    refine (sgoI_yes _ _ _ xs _ h Hv).mono ?_
    rintro e w1 ⟨u1, rfl, ho1, hb1⟩
    obtain ⟨a1, c1, rfl, hs1⟩ := ho1.sl
    rw [hst.out] at hs1
    rw [hst.out]
    clear ho1
    have hO := Ord2.made w1 (.slice a1 n c1) (.slice ao n cap)
    have hx := (Below.refl w1.heap.size w1).alloc (Nat.le_refl _) (.cells #[.slice a1 n c1, .slice ao n cap] 50)
    have hs2 := hs1.later hx
    have hp2 := (h.later hb1).later hx
    have hb2 := hb1.trans (hx.mono hb1.size)
    have c0 := hO.cell0
    have c1' := hO.cell1
    clear hx hs1
    go_wp2_with fail
    refine (bel_any _ _ _ _ xs _ hp2 Hv).mono ?_
    rintro e w3 ⟨u3, rfl, ho3, hb3⟩
    obtain ⟨a3, c3, rfl, hs3⟩ := ho3.sl
    go_wp2
    go_ret
    rw [onSi_yes Hv.out]
    exact says_int (by rw [ngN]; exact bwL_len _ _) (hb2.trans (hb3.mono hb2.size))
  · have Hv := hid hv
    clear hv
    go_enter Tryd.func12, Tryd.ntmps12
    go_wp2_with fail
    refine (sgoI_no _ _ _ xs _ h Hr Hv).mono ?_
    rintro e w1 ⟨rfl, hb1⟩
    go_wp2
    go_ret
    rw [onSi_no Hv.out]
    exact says_int rfl (hb1.alloc hb1.size _)

theorem belM_any (u : Value) (ao : Option Addr) (n cap : Nat) (xs : List Int) (w : World) (h : Sl w ao n cap xs) (Hv : Hid (SV xs)) (m : Nat) (hm : Hid ((bwL xs xs.length).length = m)) :
    Calls Tryd.prog 28 #[.agg #[u, .slice ao n cap]] w fun e w' => ∃ a c, e = .returned (.slice a m c) ∧ Below w.heap.size w w' := by
  refine (bel_any u ao n cap xs w h Hv).mono ?_
  rintro e w4 ⟨u4, rfl, ho4, hb4⟩
  obtain ⟨a4, c4, rfl, -⟩ := ho4.sl
  exact ⟨a4, c4, by rw [hm.out], hb4⟩

end Go.Proofs.YtjgaglfinpeeoabDoor
