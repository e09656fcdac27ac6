/- Products of orders, in the program and in its model. Condition: the lists' cells can be read. -/
import Derived.Test.YtjgaglfinpeeoabOrd1I
import Derived.Test.YtjgaglfinpeeoabOrd1S
namespace Go.Proofs.Ytjgaglfinpeeoab
open Go.RowKit

set_option maxHeartbeats 2000000 in
theorem multI_any (ao : Option Addr) (n cap : Nat) (xs : List Int) (bo : Option Addr) (m cap2 : Nat) (ys : List Int) (w : World) (h : Sl w ao n cap xs) (g : Sl w bo m cap2 ys) :
    Calls Try.prog 18 #[.slice ao n cap, .slice bo m cap2] w (Made2 w (onM xs ys (comp xs ys)) (decide (Mat xs ys))) := by
  have hlen := hid h.len
  have glen := hid g.len
  have hbig := h.big
  have gbig := g.big
  by_cases hx : Valid xs
  · have Hx := hid hx
    by_cases hy : Valid ys
    · have Hy := hid hy
      have h7 : n ≤ 7 := by have := hx.len; rw [hlen.out] at this; exact this
      by_cases hs : n = m
      · subst hs
        have hT : Hid (Mat xs ys) := ⟨hx, hy, by rw [hlen.out, glen.out]⟩
        have hbe : ((n : Int) == (n : Int)) = true := by simp
        go_enter Try.func18, Try.ntmps18
        go_wp2_with fail
        refine (validI_any _ _ _ xs _ h).mono ?_
        rintro e w1 ⟨rfl, hb1⟩
        go_wp2_with fail
        refine (validI_any _ _ _ ys _ (g.later hb1)).mono ?_
        rintro e w2 ⟨rfl, hb2⟩
        have hb3 := hb1.trans (hb2.mono hb1.size)
        have hsz3 := hb3.size
        clear hb1 hb2
        go_wp2_with (at_make; refine make_ints _ rfl _ _ rfl _ _ n rfl rfl rfl rfl (by omega) ?_)
        intro w4 ho4 hb4
        have hb5 := hb3.trans (hb4.mono hsz3)
        clear hx hy
        go_wp2
        go_loopw [29] (fun i wr => ∃ (k : Nat), k ≤ n ∧ i = .int .i64 k ∧ Below w.heap.size w wr ∧ OwS wr w2.heap.size w2.heap.size n n (iter (fun (a : List Int) k => a.set k (el xs (el ys k).toNat)) (List.replicate n 0) k))
          (fun i _ => n - (intOf i).toNat)
        case atStart => exact ⟨0, Nat.zero_le _, rfl, hb5, ho4⟩
        case round =>
          obtain ⟨k, hk, rfl, hbr, hr⟩ := hrel
          by_cases hlt : k < n
          · obtain ⟨b, off, rfl, hblt, hc⟩ := g.row (by omega)
            have hcell := (hbr.cell (p := ⟨b, off + k, none⟩) hblt).trans (hc k hlt)
            obtain ⟨b2, off2, rfl, hblt2, hc2⟩ := h.row (by omega)
            have hky : k < ys.length := by rw [glen.out]; exact hlt
            obtain ⟨v, hv⟩ := Int.eq_ofNat_of_zero_le (Hy.out.lo k hky)
            have hvn : v < n := by have := Hy.out.hi k hky; rw [glen.out, hv] at this; omega
            rw [hv] at hcell
            have hcell2 := (hbr.cell (p := ⟨b2, off2 + v, none⟩) hblt2).trans (hc2 v hvn)
            have HV := hid hv
            clear hv hky hc hc2
            have hfr := hr.frozen k
            have hcur := hr.cell hlt
            go_wp2
            all_goals (try (go_quiet (fail); go_wp2))
            go_roundw
            case rel =>
              refine ⟨k + 1, by omega, by go_num, hbr.setCell hsz3 _, ?_⟩
              have := hr.set k (el xs v)
              rw [iter, HV.out]
              exact this
            case measure => simp [intOf]; omega
          · obtain rfl : k = n := by omega
            go_wp2
            go_ret2
            refine made2_yes hT.out ?_ hbr
            rw [onM_yes hT.out, comp, glen.out, ← iter_set]
            exact hr.own.mono hsz3
      ·
        have hT : Hid (¬ Mat xs ys) := fun t => hs (by have := t.2.2; rw [hlen.out, glen.out] at this; exact this)
        have hne : ¬ (n : Int) = m := by omega
        have hbe : ((n : Int) == (m : Int)) = false := by simp; omega
        go_enter Try.func18, Try.ntmps18
        go_wp2_with fail
        refine (validI_any _ _ _ xs _ h).mono ?_
        rintro e w1 ⟨rfl, hb1⟩
        go_wp2_with fail
        refine (validI_any _ _ _ ys _ (g.later hb1)).mono ?_
        rintro e w2 ⟨rfl, hb2⟩
        go_wp2
        go_ret2
        exact made2_no hT.out (onM_no hT.out) (hb1.trans (hb2.mono hb1.size))
    ·
      have hT : Hid (¬ Mat xs ys) := fun t => hy t.2.1
      go_enter Try.func18, Try.ntmps18
      go_wp2_with fail
      refine (validI_any _ _ _ xs _ h).mono ?_
      rintro e w1 ⟨rfl, hb1⟩
      go_wp2_with fail
      refine (validI_any _ _ _ ys _ (g.later hb1)).mono ?_
      rintro e w2 ⟨rfl, hb2⟩
      go_wp2
      go_ret2
      exact made2_no hT.out (onM_no hT.out) (hb1.trans (hb2.mono hb1.size))
  ·
    have hT : Hid (¬ Mat xs ys) := fun t => hx t.1
    go_enter Try.func18, Try.ntmps18
    go_wp2_with fail
    refine (validI_any _ _ _ xs _ h).mono ?_
    rintro e w1 ⟨rfl, hb1⟩
    go_wp2
    go_ret2
    exact made2_no hT.out (onM_no hT.out) hb1

end Go.Proofs.Ytjgaglfinpeeoab
