/- The walks of the exact laws of DoubleRow and FallRow. No condition. -/
import Derived.Test.YtjgaglfinpeeoabDbl
import Derived.Test.YtjgaglfinpeeoabFal
import Derived.Test.YtjgaglfinpeeoabCopy
namespace Go.Proofs.Ytjgaglfinpeeoab
open Go.RowKit

set_option maxHeartbeats 2000000 in
theorem exactDoubleRow (n : Int) (w : World) (_ : -9223372036854775808 ≤ n ∧ n ≤ 9223372036854775807) :
    Calls Try.prog 9 #[.int .i64 n] w (Says w (.bool true)) := by
  by_cases hn : 0 ≤ n ∧ n ≤ 5
  · obtain ⟨m, rfl⟩ := Int.eq_ofNat_of_zero_le hn.1
    have hm : m ≤ 5 := by omega
    clear hn
    have t0 := Below.refl w.heap.size w
    have hl : (dbl m).length ≤ 2000000 := by have := dbl_small hm; omega
    go_enter Try.func9, Try.ntmps9
    go_wp2_with fail
    refine (dblS_yes m _ hm).mono ?_
    rintro e w1 ⟨us, rfl, s_1, b1⟩
    have t1 := t0.trans (b1.mono t0.size)
    obtain ⟨ads, cps, rfl, -⟩ := s_1.sl
    go_wp2_with fail
    refine (dblI_yes m _ hm).mono ?_
    rintro e w2 ⟨ug, rfl, g_2, b2⟩
    have t2 := t1.trans (b2.mono t1.size)
    have s_2 := s_1.below (Nat.le_refl _) b2
    obtain ⟨adg, cpg, rfl, -⟩ := g_2.sl
    go_wp2_with fail
    refine (eqIntS_any _ _ _ _ _ _ _ _ _ g_2.read s_2.read).mono ?_
    rintro e w3 ⟨rfl, b3⟩
    have t3 := t2.trans (b3.mono t2.size)
    have s_3 := s_2.below (Nat.le_refl _) b3
    have g_3 := g_2.below (Nat.le_refl _) b3
    go_wp2_with fail
    refine (markIntS_any _ _ _ 1 _ g_3 (by omega) (by omega) hl).mono ?_
    rintro e w4 ⟨rfl, g_4, g4⟩
    have b4 : Below w.heap.size w3 w4 := below_of_grown g4 t3.size (fun k hk => Nat.le_trans t1.size (g_2.blocks k hk).1)
    have t4 := t3.trans b4
    have s_4 := s_3.kept g4 (s_1.apart g_2 (Nat.le_refl _))
    go_wp2_with fail
    refine (heldIntS_any _ _ _ _ 1 _ g_4.read (by omega) (by omega) hl (hid rfl)).mono ?_
    rintro e w5 ⟨rfl, b5⟩
    have t5 := t4.trans (b5.mono t4.size)
    have s_5 := s_4.below (Nat.le_refl _) b5
    have g_5 := g_4.below (Nat.le_refl _) b5
    go_wp2_with fail
    refine (dblI_yes m _ hm).mono ?_
    rintro e w6 ⟨uh, rfl, h_6, b6⟩
    have t6 := t5.trans (b6.mono t5.size)
    have s_6 := s_5.below (Nat.le_refl _) b6
    have g_6 := g_5.below (Nat.le_refl _) b6
    obtain ⟨adh, cph, rfl, -⟩ := h_6.sl
    go_wp2_with fail
    refine (eqIntS_any _ _ _ _ _ _ _ _ _ h_6.read s_6.read).mono ?_
    rintro e w7 ⟨rfl, b7⟩
    have t7 := t6.trans (b7.mono t6.size)
    have s_7 := s_6.below (Nat.le_refl _) b7
    have g_7 := g_6.below (Nat.le_refl _) b7
    have h_7 := h_6.below (Nat.le_refl _) b7
    go_wp2_with fail
    refine (heldIntS_any _ _ _ _ 1 _ g_7.read (by omega) (by omega) hl (hid rfl)).mono ?_
    rintro e w8 ⟨rfl, b8⟩
    have t8 := t7.trans (b8.mono t7.size)
    have s_8 := s_7.below (Nat.le_refl _) b8
    have g_8 := g_7.below (Nat.le_refl _) b8
    have h_8 := h_7.below (Nat.le_refl _) b8
    go_wp2
    go_ret
    exact ⟨rfl, t8⟩
  · have hno : n < 0 ∨ 5 < n := by omega
    have Hno := hid hno
    clear hn hno
    have t0 := Below.refl w.heap.size w
    have hl : (([] : List Int)).length ≤ 2000000 := by simp
    go_enter Try.func9, Try.ntmps9
    go_wp2_with fail
    refine (dblS_no n _ Hno.out).mono ?_
    rintro e w1 ⟨us, rfl, s_1, b1⟩
    have t1 := t0.trans (b1.mono t0.size)
    obtain ⟨ads, cps, rfl, -⟩ := s_1.sl
    go_wp2_with fail
    refine (dblI_no n _ Hno.out).mono ?_
    rintro e w2 ⟨ug, rfl, g_2, b2⟩
    have t2 := t1.trans (b2.mono t1.size)
    have s_2 := s_1.below (Nat.le_refl _) b2
    obtain ⟨adg, cpg, rfl, -⟩ := g_2.sl
    go_wp2_with fail
    refine (eqIntS_any _ _ _ _ _ _ _ _ _ g_2.read s_2.read).mono ?_
    rintro e w3 ⟨rfl, b3⟩
    have t3 := t2.trans (b3.mono t2.size)
    have s_3 := s_2.below (Nat.le_refl _) b3
    have g_3 := g_2.below (Nat.le_refl _) b3
    go_wp2_with fail
    refine (markIntS_any _ _ _ 1 _ g_3 (by omega) (by omega) hl).mono ?_
    rintro e w4 ⟨rfl, g_4, g4⟩
    have b4 : Below w.heap.size w3 w4 := below_of_grown g4 t3.size (fun k hk => Nat.le_trans t1.size (g_2.blocks k hk).1)
    have t4 := t3.trans b4
    have s_4 := s_3.kept g4 (s_1.apart g_2 (Nat.le_refl _))
    go_wp2_with fail
    refine (heldIntS_any _ _ _ _ 1 _ g_4.read (by omega) (by omega) hl (hid rfl)).mono ?_
    rintro e w5 ⟨rfl, b5⟩
    have t5 := t4.trans (b5.mono t4.size)
    have s_5 := s_4.below (Nat.le_refl _) b5
    have g_5 := g_4.below (Nat.le_refl _) b5
    go_wp2_with fail
    refine (dblI_no n _ Hno.out).mono ?_
    rintro e w6 ⟨uh, rfl, h_6, b6⟩
    have t6 := t5.trans (b6.mono t5.size)
    have s_6 := s_5.below (Nat.le_refl _) b6
    have g_6 := g_5.below (Nat.le_refl _) b6
    obtain ⟨adh, cph, rfl, -⟩ := h_6.sl
    go_wp2_with fail
    refine (eqIntS_any _ _ _ _ _ _ _ _ _ h_6.read s_6.read).mono ?_
    rintro e w7 ⟨rfl, b7⟩
    have t7 := t6.trans (b7.mono t6.size)
    have s_7 := s_6.below (Nat.le_refl _) b7
    have g_7 := g_6.below (Nat.le_refl _) b7
    have h_7 := h_6.below (Nat.le_refl _) b7
    go_wp2_with fail
    refine (heldIntS_any _ _ _ _ 1 _ g_7.read (by omega) (by omega) hl (hid rfl)).mono ?_
    rintro e w8 ⟨rfl, b8⟩
    have t8 := t7.trans (b8.mono t7.size)
    have s_8 := s_7.below (Nat.le_refl _) b8
    have g_8 := g_7.below (Nat.le_refl _) b8
    have h_8 := h_7.below (Nat.le_refl _) b8
    go_wp2
    go_ret
    exact ⟨rfl, t8⟩

set_option maxHeartbeats 2000000 in
theorem exactFallRow (n : Int) (w : World) (_ : -9223372036854775808 ≤ n ∧ n ≤ 9223372036854775807) :
    Calls Try.prog 11 #[.int .i64 n] w (Says w (.bool true)) := by
  by_cases hn : 0 ≤ n ∧ n ≤ 5
  · obtain ⟨m, rfl⟩ := Int.eq_ofNat_of_zero_le hn.1
    have hm : m ≤ 5 := by omega
    clear hn
    have t0 := Below.refl w.heap.size w
    have hl : (fal m).length ≤ 2000000 := by have := (fal_fits m (by omega)).2; omega
    go_enter Try.func11, Try.ntmps11
    go_wp2_with fail
    refine (falS_yes m _ hm).mono ?_
    rintro e w1 ⟨us, rfl, s_1, b1⟩
    have t1 := t0.trans (b1.mono t0.size)
    obtain ⟨ads, cps, rfl, -⟩ := s_1.sl
    go_wp2_with fail
    refine (falI_yes m _ hm).mono ?_
    rintro e w2 ⟨ug, rfl, g_2, b2⟩
    have t2 := t1.trans (b2.mono t1.size)
    have s_2 := s_1.below (Nat.le_refl _) b2
    obtain ⟨adg, cpg, rfl, -⟩ := g_2.sl
    go_wp2_with fail
    refine (eqIntS_any _ _ _ _ _ _ _ _ _ g_2.read s_2.read).mono ?_
    rintro e w3 ⟨rfl, b3⟩
    have t3 := t2.trans (b3.mono t2.size)
    have s_3 := s_2.below (Nat.le_refl _) b3
    have g_3 := g_2.below (Nat.le_refl _) b3
    go_wp2_with fail
    refine (markIntS_any _ _ _ 1 _ g_3 (by omega) (by omega) hl).mono ?_
    rintro e w4 ⟨rfl, g_4, g4⟩
    have b4 : Below w.heap.size w3 w4 := below_of_grown g4 t3.size (fun k hk => Nat.le_trans t1.size (g_2.blocks k hk).1)
    have t4 := t3.trans b4
    have s_4 := s_3.kept g4 (s_1.apart g_2 (Nat.le_refl _))
    go_wp2_with fail
    refine (heldIntS_any _ _ _ _ 1 _ g_4.read (by omega) (by omega) hl (hid rfl)).mono ?_
    rintro e w5 ⟨rfl, b5⟩
    have t5 := t4.trans (b5.mono t4.size)
    have s_5 := s_4.below (Nat.le_refl _) b5
    have g_5 := g_4.below (Nat.le_refl _) b5
    go_wp2_with fail
    refine (falI_yes m _ hm).mono ?_
    rintro e w6 ⟨uh, rfl, h_6, b6⟩
    have t6 := t5.trans (b6.mono t5.size)
    have s_6 := s_5.below (Nat.le_refl _) b6
    have g_6 := g_5.below (Nat.le_refl _) b6
    obtain ⟨adh, cph, rfl, -⟩ := h_6.sl
    go_wp2_with fail
    refine (eqIntS_any _ _ _ _ _ _ _ _ _ h_6.read s_6.read).mono ?_
    rintro e w7 ⟨rfl, b7⟩
    have t7 := t6.trans (b7.mono t6.size)
    have s_7 := s_6.below (Nat.le_refl _) b7
    have g_7 := g_6.below (Nat.le_refl _) b7
    have h_7 := h_6.below (Nat.le_refl _) b7
    go_wp2_with fail
    refine (heldIntS_any _ _ _ _ 1 _ g_7.read (by omega) (by omega) hl (hid rfl)).mono ?_
    rintro e w8 ⟨rfl, b8⟩
    have t8 := t7.trans (b8.mono t7.size)
    have s_8 := s_7.below (Nat.le_refl _) b8
    have g_8 := g_7.below (Nat.le_refl _) b8
    have h_8 := h_7.below (Nat.le_refl _) b8
    go_wp2
    go_ret
    exact ⟨rfl, t8⟩
  · have hno : n < 0 ∨ 5 < n := by omega
    have Hno := hid hno
    clear hn hno
    have t0 := Below.refl w.heap.size w
    have hl : (([] : List Int)).length ≤ 2000000 := by simp
    go_enter Try.func11, Try.ntmps11
    go_wp2_with fail
    refine (falS_no n _ Hno.out).mono ?_
    rintro e w1 ⟨us, rfl, s_1, b1⟩
    have t1 := t0.trans (b1.mono t0.size)
    obtain ⟨ads, cps, rfl, -⟩ := s_1.sl
    go_wp2_with fail
    refine (falI_no n _ Hno.out).mono ?_
    rintro e w2 ⟨ug, rfl, g_2, b2⟩
    have t2 := t1.trans (b2.mono t1.size)
    have s_2 := s_1.below (Nat.le_refl _) b2
    obtain ⟨adg, cpg, rfl, -⟩ := g_2.sl
    go_wp2_with fail
    refine (eqIntS_any _ _ _ _ _ _ _ _ _ g_2.read s_2.read).mono ?_
    rintro e w3 ⟨rfl, b3⟩
    have t3 := t2.trans (b3.mono t2.size)
    have s_3 := s_2.below (Nat.le_refl _) b3
    have g_3 := g_2.below (Nat.le_refl _) b3
    go_wp2_with fail
    refine (markIntS_any _ _ _ 1 _ g_3 (by omega) (by omega) hl).mono ?_
    rintro e w4 ⟨rfl, g_4, g4⟩
    have b4 : Below w.heap.size w3 w4 := below_of_grown g4 t3.size (fun k hk => Nat.le_trans t1.size (g_2.blocks k hk).1)
    have t4 := t3.trans b4
    have s_4 := s_3.kept g4 (s_1.apart g_2 (Nat.le_refl _))
    go_wp2_with fail
    refine (heldIntS_any _ _ _ _ 1 _ g_4.read (by omega) (by omega) hl (hid rfl)).mono ?_
    rintro e w5 ⟨rfl, b5⟩
    have t5 := t4.trans (b5.mono t4.size)
    have s_5 := s_4.below (Nat.le_refl _) b5
    have g_5 := g_4.below (Nat.le_refl _) b5
    go_wp2_with fail
    refine (falI_no n _ Hno.out).mono ?_
    rintro e w6 ⟨uh, rfl, h_6, b6⟩
    have t6 := t5.trans (b6.mono t5.size)
    have s_6 := s_5.below (Nat.le_refl _) b6
    have g_6 := g_5.below (Nat.le_refl _) b6
    obtain ⟨adh, cph, rfl, -⟩ := h_6.sl
    go_wp2_with fail
    refine (eqIntS_any _ _ _ _ _ _ _ _ _ h_6.read s_6.read).mono ?_
    rintro e w7 ⟨rfl, b7⟩
    have t7 := t6.trans (b7.mono t6.size)
    have s_7 := s_6.below (Nat.le_refl _) b7
    have g_7 := g_6.below (Nat.le_refl _) b7
    have h_7 := h_6.below (Nat.le_refl _) b7
    go_wp2_with fail
    refine (heldIntS_any _ _ _ _ 1 _ g_7.read (by omega) (by omega) hl (hid rfl)).mono ?_
    rintro e w8 ⟨rfl, b8⟩
    have t8 := t7.trans (b8.mono t7.size)
    have s_8 := s_7.below (Nat.le_refl _) b8
    have g_8 := g_7.below (Nat.le_refl _) b8
    have h_8 := h_7.below (Nat.le_refl _) b8
    go_wp2
    go_ret
    exact ⟨rfl, t8⟩

end Go.Proofs.Ytjgaglfinpeeoab
