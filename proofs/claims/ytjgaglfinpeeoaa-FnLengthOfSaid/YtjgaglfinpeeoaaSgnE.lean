/- Inverses and products of signed orders, in the program and in its model. Condition: the lists' cells can be read and hold numbers of 64 bits. -/
import Derived.Test.YtjgaglfinpeeoaaSgnD
namespace Go.Proofs.Ytjgaglfinpeeoaa
open Go.RowKit

theorem sglI_any (x y : Int) (w : World) (h : -1000 ≤ y ∧ y ≤ 1000) :
    Calls Try.prog 46 #[.int .i64 x, .int .i64 y] w fun e w' => e = .returned (.int .i64 (sgl x y)) ∧ w = w' := by
  obtain ⟨h1, h2⟩ := h
  by_cases e : x < 0
  · have E := hid (sgl_yes (y := y) e)
    go_enter Try.func46, Try.ntmps46
    go_wp2
    go_ret
    exact ⟨ret_eq (congrArg (Value.int .i64) E.out.symm), rfl⟩
  · have E := hid (sgl_no (y := y) e)
    go_enter Try.func46, Try.ntmps46
    go_wp2
    go_ret
    exact ⟨ret_eq (congrArg (Value.int .i64) E.out.symm), rfl⟩

set_option maxHeartbeats 1000000 in
theorem isgI_any (ao : Option Addr) (n cap : Nat) (xs : List Int) (w : World) (h : Sl w ao n cap xs) (Hr : Hid (R64 xs)) :
    Calls Try.prog 18 #[.slice ao n cap] w (Made w (onS xs (invS xs))) := by
  have hbig := h.big
  have hlen := hid h.len
  by_cases hv : SV xs
  · have h5 : n ≤ 5 := by have := hv.len; rw [hlen.out] at this; exact this
    have Hv := hid hv
    clear hv
    go_enter Try.func18, Try.ntmps18
    go_wp2_with fail
    refine (svI_any _ _ _ xs _ h Hr).mono ?_
    rintro e w1 ⟨rfl, hb1⟩
    rw [decide_eq_true Hv.out]
    have hsz := hb1.size
    go_wp2_with (at_make; refine make_ints _ rfl _ _ rfl _ _ n rfl rfl rfl rfl (by omega) ?_)
    intro w2 ho2 hb2
    have hb3 := hb1.trans (hb2.mono hb1.size)
    have Hsz := hid hsz
    clear hsz
    go_wp2
    go_loopw [14] (fun i wr => ∃ (k : Nat) (zs : List Int), k ≤ n ∧ i = .int .i64 k ∧ Below w.heap.size w wr ∧ OwS wr w1.heap.size w1.heap.size n n zs ∧ Hid (zs = iter (invSF xs) (List.replicate xs.length 0) k))
      (fun i _ => n - (intOf i).toNat)
    case atStart => exact ⟨0, _, Nat.zero_le _, rfl, hb3, ho2, by rw [hlen.out]; rfl⟩
    case round =>
      obtain ⟨k, zs, hk, rfl, hbr, hr, hz⟩ := hrel
      by_cases hlt : k < n
      · obtain ⟨b, off, rfl, hblt, hc⟩ := h.row (by omega)
        have hcell := (hbr.cell (p := ⟨b, off + k, none⟩) hblt).trans (hc k hlt)
        obtain ⟨v, hv⟩ : ∃ v : Nat, ab (el xs k) = (v : Int) + 1 := ⟨(ab (el xs k) - 1).toNat, by have := (Hv.out.bd (j := k) (by rw [hlen.out]; exact hlt)).1; omega⟩
        have hvn : v < n := by have := (Hv.out.bd (j := k) (by rw [hlen.out]; exact hlt)).2; rw [hlen.out] at this; omega
        have hvi : (v : Int) < n := by omega
        have Hab := hid hv
        have hstep : Hid (iter (invSF xs) (List.replicate xs.length 0) (k + 1) = (iter (invSF xs) (List.replicate xs.length 0) k).set v (sgl (el xs k) ((k : Int) + 1))) := by
          show invSF xs _ k = _
          rw [invSF, Hab.out, Int.add_sub_cancel, Int.toNat_natCast]
        have hbk : Hid (-9223372036854775807 ≤ el xs k ∧ el xs k ≤ 9223372036854775807) := by have := Hv.out.lo (j := k) (by rw [hlen.out]; exact hlt); rw [hlen.out] at this; exact ⟨by omega, by omega⟩
        have hi1 : (k : Int) < n := by omega
        have hfr := hr.frozen v
        have hcur := hr.cell hvn
        clear hv hc
        have hks : (k : Int) + 1 ≤ 1000 := by omega
        go_wp2_with fail
        refine (sizeI_any _ _ hbk.out).mono ?_
        rintro e w3 ⟨rfl, hw3⟩
        subst hw3
        rw [Hab.out]
        go_wp2_with fail
        refine (sglI_any _ _ _ ⟨by omega, hks⟩).mono ?_
        rintro e w3 ⟨rfl, hw3⟩
        subst hw3
        go_wp2
        go_roundw
        case rel => exact ⟨k + 1, _, by omega, by go_num, hbr.setCell Hsz.out _, hr.set v _, hid (by rw [hstep.out, ← hz.out])⟩
        case measure => simp [intOf]; omega
      · obtain rfl : k = n := by omega
        go_wp2
        go_ret
        refine ⟨_, rfl, ?_, hbr⟩
        have e : zs = invS xs := by rw [hz.out, invS, hlen.out]
        rw [onS_yes Hv.out, ← e]
        exact hr.own.mono Hsz.out
  · have Hv := hid hv
    clear hv
    go_enter Try.func18, Try.ntmps18
    go_wp2_with fail
    refine (svI_any _ _ _ xs _ h Hr).mono ?_
    rintro e w1 ⟨rfl, hb1⟩
    rw [decide_eq_false Hv.out]
    go_wp2
    go_ret
    refine ⟨_, rfl, ?_, hb1⟩
    rw [onS_no Hv.out]
    exact Own.nil

theorem mulS_cut (xs ys : List Int) {n : Nat} (h : ys.length = n) : mulS xs ys = (List.range n).map (mulF xs ys) := by rw [mulS, h]

end Go.Proofs.Ytjgaglfinpeeoaa
