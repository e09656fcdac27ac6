/- Lines written back, in the model and the program. Condition: the list's cells can be read. -/
import Derived.Test.YtlhphgldmefefabLin
import Derived.Test.YtlhphgldmefefabCnt
import Derived.StillTailTactics
namespace Go.Proofs.Ytlhphgldmefefab
open Go.RowKit

theorem Own.at'' {w : World} {B n cap : Nat} {ao : Option Addr} {ys : List Int} (h : Own w B (.slice ao n cap) ys) (hn : 0 < n) : ∃ g, ao = some ⟨g, 0, none⟩ ∧ OwS w B g n cap ys := by
  rcases h.place with ⟨e, rfl⟩ | ⟨g, c, e, o⟩
  · simp only [Value.slice.injEq] at e
    omega
  · simp only [Value.slice.injEq] at e
    obtain ⟨rfl, rfl, rfl⟩ := e
    exact ⟨g, rfl, o⟩
theorem Own.cellAt {w : World} {B n cap g j : Nat} {ys : List Int} (h : Own w B (.slice (some ⟨g, 0, none⟩) n cap) ys) (hj : j < n) : w.cell? ⟨g, j, none⟩ = some (.int .i64 (el ys j)) := by
  obtain ⟨g', e, o⟩ := h.at'' (by omega)
  obtain rfl : g = g' := by simpa using e
  exact o.cell hj
theorem OwS.later' {w w' : World} {B g n cap : Nat} {ys : List Int} (h : OwS w B g n cap ys) (hb : Below w.heap.size w w') : OwS w' B g n cap ys :=
  ⟨h.1, by
    rcases h.2 with h2 | ⟨g', cap', cur, hv, hg, hh, r⟩
    · exact Or.inl h2
    · exact Or.inr ⟨g', cap', cur, hv, hg, (hb.block g' (Array.getElem?_eq_some_iff.1 hh).1).trans hh, r⟩⟩

set_option maxRecDepth 20000 in
set_option maxHeartbeats 8000000 in
theorem frL0_any (ao : Option Addr) (n cap : Nat) (xs : List Int) (w : World) (h : Sl w ao n cap xs) (hv : Valid xs) :
    Calls Try.prog 76 #[.slice ao n cap] w (Made w (frL xs)) := by
  have hbig := h.big
  have hlen := hid h.len
  have h7 : n ≤ 7 := by have := hv.len; rw [hlen.out] at this; exact this
  have Hv := hid hv
  clear hv
  go_enter Try.func76, Try.ntmps76
  go_wp2_with (at_make; refine make_ints _ rfl _ _ rfl _ _ n rfl rfl rfl rfl (by omega) ?_)
  intro w1 o1 b1
  go_wp2_with fail
  refine (records_any _ _ _ xs _ (h.later b1) (by omega)).mono ?_
  rintro e w2 ⟨uL, rfl, oL, b2⟩
  have hg1 : w.heap.size < w1.heap.size := o1.lt.2
  have t2 := b1.trans (b2.mono b1.size)
  have o2 := o1.later' b2
  have hL7 : (records xs).length ≤ 7 := by have := records_len xs; rw [hlen.out] at this; omega
  obtain ⟨aL, cL, rfl, -⟩ := oL.sl
  obtain ⟨L, hL⟩ : ∃ L, L = (records xs).length := ⟨_, rfl⟩
  rw [← hL] at oL hL7 ⊢
  have HL := hid hL
  have hst : Hid (if 0 < L then el (records xs) 0 = ((0 : Nat) : Int) else 0 = n) := hid (by
    by_cases e : n = 0
    · have : L = 0 := by rw [hL, List.length_eq_zero_iff.2]; exact (by have := records_len xs; exact List.eq_nil_of_length_eq_zero (by rw [hlen.out, e] at this; omega))
      rw [if_neg (by omega)]; exact e.symm
    · have := rec_first Hv.out (by rw [hlen.out]; omega)
      rw [← hL] at this
      rw [if_pos this.1]; exact this.2)
  clear hL
  go_wp2
  go_loopw [5] (fun i wr => ∃ (r a : Nat), r ≤ L ∧ a ≤ n ∧ i = .int .i64 r ∧ Hid (if r < L then el (records xs) r = (a : Int) else a = n) ∧ Below w.heap.size w wr ∧ OwS wr w.heap.size w.heap.size n n (frP xs a) ∧ Own wr w1.heap.size (.slice aL L cL) (records xs))
    (fun i _ => L - (intOf i).toNat)
  case atStart => exact ⟨0, 0, Nat.zero_le _, Nat.zero_le _, rfl, hst, t2, by rw [show frP xs 0 = List.replicate n 0 by rw [frP, iter, hlen.out]]; exact o2, oL⟩
  case round =>
    obtain ⟨r, a, hr, han, rfl, hpos, hbr, hr1, hoL⟩ := hrel
    by_cases hlt : r < L
    · have hri1 : (r : Int) < L := by omega
      obtain ⟨a', e, q1, q2, q3, q4, q5, q6⟩ := rec_block Hv.out (i := r) (by rw [← HL.out]; exact hlt)
      have q0 := hpos.out
      rw [if_pos hlt] at q0
      obtain rfl : a = a' := by omega
      rw [← HL.out, hlen.out] at q2
      rw [hlen.out] at q4
      obtain ⟨bL, ofL, rfl, hLlt, hLc⟩ := hoL.read.row (by omega)
      obtain ⟨gL, hgL, hoS⟩ := hoL.at'' (by omega)
      obtain ⟨rfl, rfl⟩ : bL = gL ∧ ofL = 0 := by simpa using hgL
      have hcr := hLc r hlt
      rw [q1, Nat.zero_add] at hcr
      have Q5 := hid q5
      have Q6 := hid q6
      have hLc2 := hid (fun (hh : r + 1 < L) => hLc (r + 1) hh)
      have hpos2 : Hid (if r + 1 < L then el (records xs) (r + 1) = (e : Int) else e = n) := hid (by
        by_cases hh : r + 1 < L
        · rw [if_pos hh] at q2 ⊢; exact q2
        · rw [if_neg hh] at q2 ⊢; omega)
      obtain ⟨b, off, rfl, hblt, hc⟩ := h.row (by omega)
      have hcc := hid hc
      have hri2 : (r : Int) + 1 ≤ L := by omega
      clear q0 q2 hc hLc hgL hoS
      by_cases hh : r + 1 < L
      · have hcr2 := hLc2.out hh
        have eE := hpos2.out
        rw [if_pos hh] at eE
        rw [eE, Nat.zero_add] at hcr2
        have hh1 : (r : Int) + 1 < L := by omega
        have hh2 : 0 ≤ (r : Int) + 1 := by omega
        have hh3 : ((r : Int) + 1).toNat = r + 1 := by omega
        clear eE
        go_wp2
        go_loopw [7] (fun kk wr => ∃ (k : Nat), a ≤ k ∧ k ≤ e ∧ kk = .int .i64 k ∧ Below w.heap.size w wr ∧ OwS wr w.heap.size w.heap.size n n (frP xs k) ∧ Own wr w1.heap.size (.slice (some ⟨bL, 0, none⟩) L cL) (records xs))
          (fun kk _ => e - (intOf kk).toNat)
        case atStart => exact ⟨a, Nat.le_refl _, by omega, rfl, hbr, hr1, hoL⟩
        case round =>
          obtain ⟨k, hk1, hk2, rfl, hbi, hri, hoLi⟩ := hrel
          by_cases hke : k < e
          · have hke1 : (k : Int) < e := by omega
            have hke2 : 0 ≤ (k : Int) + 1 := by omega
            have hke3 : ((k : Int) + 1).toNat = k + 1 := by omega
            have hkn : (k : Int) < n := by omega
            by_cases hkl : k + 1 < e
            · have hnx : el xs (k + 1) = nx xs k := (Q5.out k hk1 hkl).symm
              have ht : ((k : Int) + 1 == (e : Int)) = false := by
                have : ¬ (k : Int) + 1 = e := by omega
                simpa using this
              have hkn1 : (k : Int) + 1 < n := by omega
              have hcx := (hbi.cell (p := ⟨b, off + k, none⟩) hblt).trans (hcc.out k (by omega))
              have hcy := (hbi.cell (p := ⟨b, off + (k + 1), none⟩) hblt).trans (hcc.out (k + 1) (by omega))
              obtain ⟨x, hx⟩ := Int.eq_ofNat_of_zero_le (Hv.out.lo k (by rw [hlen.out]; omega))
              have hxn := Hv.out.hi k (by rw [hlen.out]; omega)
              rw [hlen.out] at hxn
              rw [hx] at hcx hxn
              have hxi : (x : Int) < n := hxn
              have hxn2 : x < n := by omega
              have hnx2 : Hid ((frP xs k).set x (el xs (k + 1)) = frP xs (k + 1)) := hid (by rw [frP_succ, hx, Int.toNat_natCast, hnx])
              clear hx hxn hnx
              go_wp2
              go_still_tail 10, (by kernel_rfl)
              change wpList _ _ _ _ _ wr.drew
              have hfr := hri.frozen x
              have hcl := hri.cell hxn2
              have hri2 := hri.set x (el xs (k + 1))
              rw [hnx2.out] at hri2
              have hoL2 := hoLi.kept (grown_set (w := wr) (g := w.heap.size) (j := x) (v := .int .i64 (el xs (k + 1)))) (Or.inr (fun e => by have := (hoLi.blocks _ e).1; omega))
              have hb2 := hbi.setCell (p := ⟨w.heap.size, x, none⟩) (Nat.le_refl _) (.int .i64 (el xs (k + 1)))
              have Hall := hid (And.intro hri2 (And.intro hoL2 hb2))
              clear hri2 hoL2 hb2 hnx2
              go_wp2
              go_roundw
              case rel => exact ⟨k + 1, by omega, by omega, by go_num, Hall.out.2.2.drew, Hall.out.1, Hall.out.2.1⟩
              case measure => simp [intOf]; omega
            · have hnx : el xs a = nx xs k := (Q6.out k (by omega)).symm
              have ht : ((k : Int) + 1 == (e : Int)) = true := by
                have : (k : Int) + 1 = e := by omega
                simpa using this
              have hkn1 : (a : Int) < n := by omega
              have hcri := hoLi.cellAt hlt
              rw [q1] at hcri
              have hcx := (hbi.cell (p := ⟨b, off + k, none⟩) hblt).trans (hcc.out k (by omega))
              have hcy := (hbi.cell (p := ⟨b, off + a, none⟩) hblt).trans (hcc.out a (by omega))
              obtain ⟨x, hx⟩ := Int.eq_ofNat_of_zero_le (Hv.out.lo k (by rw [hlen.out]; omega))
              have hxn := Hv.out.hi k (by rw [hlen.out]; omega)
              rw [hlen.out] at hxn
              rw [hx] at hcx hxn
              have hxi : (x : Int) < n := hxn
              have hxn2 : x < n := by omega
              have hnx2 : Hid ((frP xs k).set x (el xs a) = frP xs (k + 1)) := hid (by rw [frP_succ, hx, Int.toNat_natCast, hnx])
              clear hx hxn hnx
              go_wp2
              go_still_tail 10, (by kernel_rfl)
              change wpList _ _ _ _ _ wr.drew
              have hfr := hri.frozen x
              have hcl := hri.cell hxn2
              have hri2 := hri.set x (el xs a)
              rw [hnx2.out] at hri2
              have hoL2 := hoLi.kept (grown_set (w := wr) (g := w.heap.size) (j := x) (v := .int .i64 (el xs a))) (Or.inr (fun e => by have := (hoLi.blocks _ e).1; omega))
              have hb2 := hbi.setCell (p := ⟨w.heap.size, x, none⟩) (Nat.le_refl _) (.int .i64 (el xs a))
              have Hall := hid (And.intro hri2 (And.intro hoL2 hb2))
              clear hri2 hoL2 hb2 hnx2
              go_wp2
              go_roundw
              case rel => exact ⟨k + 1, by omega, by omega, by go_num, Hall.out.2.2.drew, Hall.out.1, Hall.out.2.1⟩
              case measure => simp [intOf]; omega
          · obtain rfl : k = e := by omega
            go_wp2
            go_roundw
            case rel => exact ⟨r + 1, k, by omega, by omega, by go_num, (by first | exact hpos2 | simpa using hpos2), hbi, hri, hoLi⟩
            case measure => simp [intOf]; omega
      · have eE := hpos2.out
        rw [if_neg hh] at eE
        have hh1 : ¬ (r : Int) + 1 < L := by omega
        obtain rfl : n = e := eE.symm
        go_wp2
        go_loopw [7] (fun kk wr => ∃ (k : Nat), a ≤ k ∧ k ≤ n ∧ kk = .int .i64 k ∧ Below w.heap.size w wr ∧ OwS wr w.heap.size w.heap.size n n (frP xs k) ∧ Own wr w1.heap.size (.slice (some ⟨bL, 0, none⟩) L cL) (records xs))
          (fun kk _ => n - (intOf kk).toNat)
        case atStart => exact ⟨a, Nat.le_refl _, by omega, rfl, hbr, hr1, hoL⟩
        case round =>
          obtain ⟨k, hk1, hk2, rfl, hbi, hri, hoLi⟩ := hrel
          by_cases hke : k < n
          · have hke1 : (k : Int) < n := by omega
            have hke2 : 0 ≤ (k : Int) + 1 := by omega
            have hke3 : ((k : Int) + 1).toNat = k + 1 := by omega
            have hkn : (k : Int) < n := by omega
            by_cases hkl : k + 1 < n
            · have hnx : el xs (k + 1) = nx xs k := (Q5.out k hk1 hkl).symm
              have ht : ((k : Int) + 1 == (n : Int)) = false := by
                have : ¬ (k : Int) + 1 = n := by omega
                simpa using this
              have hkn1 : (k : Int) + 1 < n := by omega
              have hcx := (hbi.cell (p := ⟨b, off + k, none⟩) hblt).trans (hcc.out k (by omega))
              have hcy := (hbi.cell (p := ⟨b, off + (k + 1), none⟩) hblt).trans (hcc.out (k + 1) (by omega))
              obtain ⟨x, hx⟩ := Int.eq_ofNat_of_zero_le (Hv.out.lo k (by rw [hlen.out]; omega))
              have hxn := Hv.out.hi k (by rw [hlen.out]; omega)
              rw [hlen.out] at hxn
              rw [hx] at hcx hxn
              have hxi : (x : Int) < n := hxn
              have hxn2 : x < n := by omega
              have hnx2 : Hid ((frP xs k).set x (el xs (k + 1)) = frP xs (k + 1)) := hid (by rw [frP_succ, hx, Int.toNat_natCast, hnx])
              clear hx hxn hnx
              go_wp2
              go_still_tail 10, (by kernel_rfl)
              change wpList _ _ _ _ _ wr.drew
              have hfr := hri.frozen x
              have hcl := hri.cell hxn2
              have hri2 := hri.set x (el xs (k + 1))
              rw [hnx2.out] at hri2
              have hoL2 := hoLi.kept (grown_set (w := wr) (g := w.heap.size) (j := x) (v := .int .i64 (el xs (k + 1)))) (Or.inr (fun e => by have := (hoLi.blocks _ e).1; omega))
              have hb2 := hbi.setCell (p := ⟨w.heap.size, x, none⟩) (Nat.le_refl _) (.int .i64 (el xs (k + 1)))
              have Hall := hid (And.intro hri2 (And.intro hoL2 hb2))
              clear hri2 hoL2 hb2 hnx2
              go_wp2
              go_roundw
              case rel => exact ⟨k + 1, by omega, by omega, by go_num, Hall.out.2.2.drew, Hall.out.1, Hall.out.2.1⟩
              case measure => simp [intOf]; omega
            · have hnx : el xs a = nx xs k := (Q6.out k (by omega)).symm
              have ht : ((k : Int) + 1 == (n : Int)) = true := by
                have : (k : Int) + 1 = n := by omega
                simpa using this
              have hkn1 : (a : Int) < n := by omega
              have hcri := hoLi.cellAt hlt
              rw [q1] at hcri
              have hcx := (hbi.cell (p := ⟨b, off + k, none⟩) hblt).trans (hcc.out k (by omega))
              have hcy := (hbi.cell (p := ⟨b, off + a, none⟩) hblt).trans (hcc.out a (by omega))
              obtain ⟨x, hx⟩ := Int.eq_ofNat_of_zero_le (Hv.out.lo k (by rw [hlen.out]; omega))
              have hxn := Hv.out.hi k (by rw [hlen.out]; omega)
              rw [hlen.out] at hxn
              rw [hx] at hcx hxn
              have hxi : (x : Int) < n := hxn
              have hxn2 : x < n := by omega
              have hnx2 : Hid ((frP xs k).set x (el xs a) = frP xs (k + 1)) := hid (by rw [frP_succ, hx, Int.toNat_natCast, hnx])
              clear hx hxn hnx
              go_wp2
              go_still_tail 10, (by kernel_rfl)
              change wpList _ _ _ _ _ wr.drew
              have hfr := hri.frozen x
              have hcl := hri.cell hxn2
              have hri2 := hri.set x (el xs a)
              rw [hnx2.out] at hri2
              have hoL2 := hoLi.kept (grown_set (w := wr) (g := w.heap.size) (j := x) (v := .int .i64 (el xs a))) (Or.inr (fun e => by have := (hoLi.blocks _ e).1; omega))
              have hb2 := hbi.setCell (p := ⟨w.heap.size, x, none⟩) (Nat.le_refl _) (.int .i64 (el xs a))
              have Hall := hid (And.intro hri2 (And.intro hoL2 hb2))
              clear hri2 hoL2 hb2 hnx2
              go_wp2
              go_roundw
              case rel => exact ⟨k + 1, by omega, by omega, by go_num, Hall.out.2.2.drew, Hall.out.1, Hall.out.2.1⟩
              case measure => simp [intOf]; omega
          · obtain rfl : k = n := by omega
            go_wp2
            go_roundw
            case rel => exact ⟨r + 1, k, by omega, by omega, by go_num, (by first | exact hpos2 | simpa using hpos2), hbi, hri, hoLi⟩
            case measure => simp [intOf]; omega
    · obtain rfl : r = L := by omega
      have eA := hpos.out
      rw [if_neg hlt] at eA
      obtain rfl : a = n := eA
      go_wp2
      go_ret
      refine ⟨_, rfl, ?_, hbr⟩
      rw [frL, hlen.out]
      exact hr1.own

end Go.Proofs.Ytlhphgldmefefab
