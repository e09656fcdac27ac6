/- Sizes, signs, lengths, flags and falls of signed orders, as the model answers, and the sizes as the program does. Condition: the list's cells can be read and hold numbers of 64 bits. -/
import Derived.Test.YtaceiebmgnhdgaaGreatDoorSgnC
namespace Go.Proofs.YtaceiebmgnhdgaaGreatDoor
open Go.RowKit

set_option maxHeartbeats 1000000 in
theorem invs1_any (ao : Option Addr) (n cap : Nat) (xs : List Int) (w : World) (h : Sl w ao n cap xs) (h7 : n ≤ 7) :
    Calls Tryz.prog 54 #[.slice ao n cap] w (Says w (.int .i64 (sumL (table xs)))) := by
  have hbig := h.big
  have hlen := hid h.len
  have hl2 : (table xs).length ≤ 1000 := by rw [table_len, hlen.out]; omega
  have hts : Hid (∀ j, j < (table xs).length → 0 ≤ el (table xs) j ∧ el (table xs) j ≤ (1000 : Nat)) := fun j hj => by have := table_bd xs j hj; rw [hlen.out] at this; omega
  go_enter Tryz.func54, Tryz.ntmps54
  go_wp2_with fail
  refine (lesser_any _ _ _ xs _ h (by omega)).mono ?_
  rintro e w2 ⟨u2, rfl, ho2, hb2⟩
  obtain ⟨a2, c2, rfl, hs2⟩ := ho2.sl
  go_wp2_with fail
  refine (sum_any _ _ _ _ _ hs2 hl2 hts).mono ?_
  rintro e w3 ⟨rfl, hb3⟩
  go_wp2
  go_ret
  exact ⟨rfl, hb2.trans (hb3.mono hb2.size)⟩

set_option maxHeartbeats 1000000 in
theorem negS0_any (ao : Option Addr) (n cap : Nat) (xs : List Int) (w : World) (h : Sl w ao n cap xs) (Hv : Hid (SV xs)) :
    Calls Tryz.prog 63 #[.slice ao n cap] w (Says w (.tuple #[.int .i64 (ngN xs), .int .i64 (ngS xs xs.length)])) := by
  have hbig := h.big
  have hlen := hid h.len
  have h5 : n ≤ 5 := by have := Hv.out.len; rw [hlen.out] at this; exact this
  go_enter Tryz.func63, Tryz.ntmps63
  go_wp2
  go_loopw [4, 5, 6] (fun a b i wr => ∃ (k : Nat), k ≤ n ∧ a = .int .i64 (cntP (ngF xs) k) ∧ b = .int .i64 (ngS xs k) ∧ i = .int .i64 k ∧ Below w.heap.size w wr)
    (fun _ _ i _ => n - (intOf i).toNat)
  case atStart => exact ⟨0, Nat.zero_le _, rfl, rfl, rfl, Below.refl _ _⟩
  case round =>
    obtain ⟨k, hk, rfl, rfl, rfl, hbr⟩ := hrel
    have hc1 := cntP_bd (ngF xs) k
    have hc2 := ngS_bd Hv.out k (by rw [hlen.out]; exact hk)
    have hc11 := hc1.1
    have hc12 : cntP (ngF xs) k ≤ 5 := by omega
    have hc21 := hc2.1
    have hc22 : ngS xs k ≤ 25 := by omega
    clear hc1 hc2
    by_cases hlt : k < n
    · obtain ⟨b, off, rfl, hblt, hc⟩ := h.row (by omega)
      have hcell := (hbr.cell (p := ⟨b, off + k, none⟩) hblt).trans (hc k hlt)
      have hi1 : (k : Int) < n := by omega
      have hbk := Hv.out.lo (j := k) (by rw [hlen.out]; exact hlt)
      rw [hlen.out] at hbk
      have hb1 : -5 ≤ el xs k := by omega
      have hb2 : el xs k ≤ 5 := by omega
      clear hc hbk
      by_cases he : el xs k < 0
      · have e1 := ngC_yes he
        have e2 := ngS_yes he
        have E1 := hid e1
        have E2 := hid e2
        clear e1 e2
        go_wp2
        go_roundw
        case rel => exact ⟨k + 1, by omega, by rw [E1.out], by rw [E2.out], by go_num, hbr⟩
        case measure => simp [intOf]; omega
      · have E1 := hid (ngC_no he)
        have E2 := hid (ngS_no he)
        go_wp2
        go_roundw
        case rel => exact ⟨k + 1, by omega, by rw [E1.out], by rw [E2.out], by go_num, hbr⟩
        case measure => simp [intOf]; omega
    · obtain rfl : k = n := by omega
      go_wp2
      go_ret2
      rw [ngN, hlen.out]
      exact ⟨rfl, hbr⟩

set_option maxHeartbeats 1000000 in
theorem lenS0_any (ao : Option Addr) (n cap : Nat) (xs : List Int) (w : World) (h : Sl w ao n cap xs) (Hv : Hid (SV xs)) :
    Calls Tryz.prog 40 #[.slice ao n cap] w (Says w (.int .i64 (lenS xs))) := by
  have hbig := h.big
  have hlen := hid h.len
  have h5 : n ≤ 5 := by have := Hv.out.len; rw [hlen.out] at this; exact this
  go_enter Tryz.func40, Tryz.ntmps40
  go_wp2_with fail
  refine (negS0_any _ _ _ xs _ h Hv).mono ?_
  rintro e w1 ⟨rfl, hb1⟩
  have hn1 := cntP_bd (ngF xs) xs.length
  have hn2 : 0 ≤ ngN xs ∧ ngN xs ≤ 5 := by have := Hv.out.len; unfold ngN; omega
  have hs1 := ngS_bd Hv.out xs.length (Nat.le_refl _)
  have hs2 : 0 ≤ ngS xs xs.length ∧ ngS xs xs.length ≤ 25 := by have := Hv.out.len; omega
  obtain ⟨G, HG⟩ : ∃ G, Hid (G = ngN xs) := ⟨_, rfl⟩
  obtain ⟨S, HS⟩ : ∃ S, Hid (S = ngS xs xs.length) := ⟨_, rfl⟩
  rw [← HG.out] at hn2 ⊢
  rw [← HS.out] at hs2 ⊢
  obtain ⟨hg1, hg2⟩ := hn2
  obtain ⟨hs3, hs4⟩ := hs2
  clear hn1 hs1
  have hq := inv5 Hv.out.len
  obtain ⟨hq1, hq2⟩ := hq
  go_wp2_with fail
  refine (invs1_any _ _ _ xs _ (h.later hb1) (by omega)).mono ?_
  rintro e w2 ⟨rfl, hb2⟩
  obtain ⟨I, HI⟩ : ∃ I, Hid (I = sumL (table xs)) := ⟨_, rfl⟩
  rw [← HI.out] at hq1 hq2 ⊢
  go_wp2
  go_ret
  exact says_int (by rw [lenS, HI.out, HS.out]) (hb1.trans (hb2.mono hb1.size))

set_option maxHeartbeats 1000000 in
theorem flagS0_any (ao : Option Addr) (n cap : Nat) (xs : List Int) (w : World) (h : Sl w ao n cap xs) (Hv : Hid (SV xs)) :
    Calls Tryz.prog 41 #[.slice ao n cap] w (Says w (.int .i64 (flagS xs))) := by
  have hbig := h.big
  have hlen := hid h.len
  have h5 : n ≤ 5 := by have := Hv.out.len; rw [hlen.out] at this; exact this
  go_enter Tryz.func41, Tryz.ntmps41
  go_wp2_with fail
  refine (negS0_any _ _ _ xs _ h Hv).mono ?_
  rintro e w1 ⟨rfl, hb1⟩
  have hn1 := cntP_bd (ngF xs) xs.length
  have hn2 : 0 ≤ ngN xs ∧ ngN xs ≤ 5 := by have := Hv.out.len; unfold ngN; omega
  have hs1 := ngS_bd Hv.out xs.length (Nat.le_refl _)
  have hs2 : 0 ≤ ngS xs xs.length ∧ ngS xs xs.length ≤ 25 := by have := Hv.out.len; omega
  obtain ⟨G, HG⟩ : ∃ G, Hid (G = ngN xs) := ⟨_, rfl⟩
  obtain ⟨S, HS⟩ : ∃ S, Hid (S = ngS xs xs.length) := ⟨_, rfl⟩
  rw [← HG.out] at hn2 ⊢
  rw [← HS.out] at hs2 ⊢
  obtain ⟨hg1, hg2⟩ := hn2
  obtain ⟨hs3, hs4⟩ := hs2
  clear hn1 hs1
  have hq := maj5 Hv.out.len
  obtain ⟨hq1, hq2⟩ := hq
  go_wp2_with fail
  refine (major_any _ _ _ xs _ (h.later hb1) (by omega)).mono ?_
  rintro e w2 ⟨rfl, hb2⟩
  obtain ⟨I, HI⟩ : ∃ I, Hid (I = major xs) := ⟨_, rfl⟩
  rw [← HI.out] at hq1 hq2 ⊢
  go_wp2
  go_ret
  exact says_int (by rw [flagS, HI.out, HG.out]) (hb1.trans (hb2.mono hb1.size))

theorem szL_cut (xs : List Int) {n : Nat} (h : xs.length = n) : szL xs = (List.range n).map fun k => ab (el xs k) - 1 := by rw [szL, h]

end Go.Proofs.YtaceiebmgnhdgaaGreatDoor
