/- The walks of the exact laws of ValidSigned, SizesOf, NegativesOf, LengthOf, FlagMajor and FallsOf. Condition of the laws' own: at most 2^20 numbers. -/
import Derived.Test.YtjgaglfinpeeoaaSgnD
import Derived.Test.YtjgaglfinpeeoaaCopy
namespace Go.Proofs.Ytjgaglfinpeeoaa
open Go.RowKit

set_option maxHeartbeats 2000000 in
theorem exactValidSigned (ao : Option Addr) (n cap : Nat) (xs : List Int) (w : World) (h : Sl w ao n cap xs) (Hr : Hid (R64 xs)) :
    Calls Try.prog 4 #[.slice ao n cap] w (Says w (.bool true)) := by
  have hbig := h.big
  by_cases hn : n ≤ 1048576
  · have t0 := Below.refl w.heap.size w
    go_enter Try.func4, Try.ntmps4
    go_wp2_with fail
    refine (toIntS_any _ _ _ xs _ h hn).mono ?_
    rintro e w1 ⟨uv, rfl, v_1, b1⟩
    have t1 := t0.trans (b1.mono t0.size)
    obtain ⟨adv, cpv, rfl, -⟩ := v_1.sl
    go_wp2_with fail
    refine (svS_any _ _ _ xs _ v_1.read).mono ?_
    rintro e w2 ⟨rfl, b2⟩
    have t2 := t1.trans (b2.mono t1.size)
    have v_2 := v_1.below (Nat.le_refl _) b2
    go_wp2_with fail
    refine (toIntS_any _ _ _ xs _ (h.later t2) hn).mono ?_
    rintro e w3 ⟨ux, rfl, x_3, b3⟩
    have t3 := t2.trans (b3.mono t2.size)
    have v_3 := v_2.below (Nat.le_refl _) b3
    obtain ⟨adx, cpx, rfl, -⟩ := x_3.sl
    go_wp2_with fail
    refine (svI_any _ _ _ xs _ x_3.read Hr).mono ?_
    rintro e w4 ⟨rfl, b4⟩
    have t4 := t3.trans (b4.mono t3.size)
    have v_4 := v_3.below (Nat.le_refl _) b4
    have x_4 := x_3.below (Nat.le_refl _) b4
    go_wp2_with fail
    refine (toIntS_any _ _ _ xs _ (h.later t4) hn).mono ?_
    rintro e w5 ⟨uy, rfl, y_5, b5⟩
    have t5 := t4.trans (b5.mono t4.size)
    have v_5 := v_4.below (Nat.le_refl _) b5
    have x_5 := x_4.below (Nat.le_refl _) b5
    obtain ⟨ady, cpy, rfl, -⟩ := y_5.sl
    go_wp2_with fail
    refine (eqIntS_any _ _ _ _ _ _ _ _ _ x_5.read y_5.read).mono ?_
    rintro e w6 ⟨rfl, b6⟩
    have t6 := t5.trans (b6.mono t5.size)
    have v_6 := v_5.below (Nat.le_refl _) b6
    have x_6 := x_5.below (Nat.le_refl _) b6
    have y_6 := y_5.below (Nat.le_refl _) b6
    go_wp2
    go_ret
    exact ⟨rfl, t6⟩
  · go_enter Try.func4, Try.ntmps4
    go_wp2
    go_ret
    exact ⟨rfl, Below.refl _ _⟩

set_option maxHeartbeats 2000000 in
theorem exactNegativesOf (ao : Option Addr) (n cap : Nat) (xs : List Int) (w : World) (h : Sl w ao n cap xs) (Hr : Hid (R64 xs)) :
    Calls Try.prog 8 #[.slice ao n cap] w (Says w (.bool true)) := by
  have hbig := h.big
  by_cases hn : n ≤ 1048576
  · have t0 := Below.refl w.heap.size w
    go_enter Try.func8, Try.ntmps8
    go_wp2_with fail
    refine (toIntS_any _ _ _ xs _ h hn).mono ?_
    rintro e w1 ⟨uv, rfl, v_1, b1⟩
    have t1 := t0.trans (b1.mono t0.size)
    obtain ⟨adv, cpv, rfl, -⟩ := v_1.sl
    go_wp2_with fail
    refine (ngS_any _ _ _ xs _ v_1.read).mono ?_
    rintro e w2 ⟨rfl, b2⟩
    have t2 := t1.trans (b2.mono t1.size)
    have v_2 := v_1.below (Nat.le_refl _) b2
    go_wp2_with fail
    refine (toIntS_any _ _ _ xs _ (h.later t2) hn).mono ?_
    rintro e w3 ⟨ux, rfl, x_3, b3⟩
    have t3 := t2.trans (b3.mono t2.size)
    have v_3 := v_2.below (Nat.le_refl _) b3
    obtain ⟨adx, cpx, rfl, -⟩ := x_3.sl
    go_wp2_with fail
    refine (ngI_any _ _ _ xs _ x_3.read Hr).mono ?_
    rintro e w4 ⟨rfl, b4⟩
    have t4 := t3.trans (b4.mono t3.size)
    have v_4 := v_3.below (Nat.le_refl _) b4
    have x_4 := x_3.below (Nat.le_refl _) b4
    go_wp2_with fail
    refine (toIntS_any _ _ _ xs _ (h.later t4) hn).mono ?_
    rintro e w5 ⟨uy, rfl, y_5, b5⟩
    have t5 := t4.trans (b5.mono t4.size)
    have v_5 := v_4.below (Nat.le_refl _) b5
    have x_5 := x_4.below (Nat.le_refl _) b5
    obtain ⟨ady, cpy, rfl, -⟩ := y_5.sl
    go_wp2_with fail
    refine (eqIntS_any _ _ _ _ _ _ _ _ _ x_5.read y_5.read).mono ?_
    rintro e w6 ⟨rfl, b6⟩
    have t6 := t5.trans (b6.mono t5.size)
    have v_6 := v_5.below (Nat.le_refl _) b6
    have x_6 := x_5.below (Nat.le_refl _) b6
    have y_6 := y_5.below (Nat.le_refl _) b6
    go_wp2
    go_ret
    exact ⟨rfl, t6⟩
  · go_enter Try.func8, Try.ntmps8
    go_wp2
    go_ret
    exact ⟨rfl, Below.refl _ _⟩

set_option maxHeartbeats 2000000 in
theorem exactLengthOf (ao : Option Addr) (n cap : Nat) (xs : List Int) (w : World) (h : Sl w ao n cap xs) (Hr : Hid (R64 xs)) :
    Calls Try.prog 10 #[.slice ao n cap] w (Says w (.bool true)) := by
  have hbig := h.big
  by_cases hn : n ≤ 1048576
  · have t0 := Below.refl w.heap.size w
    go_enter Try.func10, Try.ntmps10
    go_wp2_with fail
    refine (toIntS_any _ _ _ xs _ h hn).mono ?_
    rintro e w1 ⟨uv, rfl, v_1, b1⟩
    have t1 := t0.trans (b1.mono t0.size)
    obtain ⟨adv, cpv, rfl, -⟩ := v_1.sl
    go_wp2_with fail
    refine (lenS_any _ _ _ xs _ v_1.read).mono ?_
    rintro e w2 ⟨rfl, b2⟩
    have t2 := t1.trans (b2.mono t1.size)
    have v_2 := v_1.below (Nat.le_refl _) b2
    go_wp2_with fail
    refine (toIntS_any _ _ _ xs _ (h.later t2) hn).mono ?_
    rintro e w3 ⟨ux, rfl, x_3, b3⟩
    have t3 := t2.trans (b3.mono t2.size)
    have v_3 := v_2.below (Nat.le_refl _) b3
    obtain ⟨adx, cpx, rfl, -⟩ := x_3.sl
    go_wp2_with fail
    refine (lenI_any _ _ _ xs _ x_3.read Hr).mono ?_
    rintro e w4 ⟨rfl, b4⟩
    have t4 := t3.trans (b4.mono t3.size)
    have v_4 := v_3.below (Nat.le_refl _) b4
    have x_4 := x_3.below (Nat.le_refl _) b4
    go_wp2_with fail
    refine (toIntS_any _ _ _ xs _ (h.later t4) hn).mono ?_
    rintro e w5 ⟨uy, rfl, y_5, b5⟩
    have t5 := t4.trans (b5.mono t4.size)
    have v_5 := v_4.below (Nat.le_refl _) b5
    have x_5 := x_4.below (Nat.le_refl _) b5
    obtain ⟨ady, cpy, rfl, -⟩ := y_5.sl
    go_wp2_with fail
    refine (eqIntS_any _ _ _ _ _ _ _ _ _ x_5.read y_5.read).mono ?_
    rintro e w6 ⟨rfl, b6⟩
    have t6 := t5.trans (b6.mono t5.size)
    have v_6 := v_5.below (Nat.le_refl _) b6
    have x_6 := x_5.below (Nat.le_refl _) b6
    have y_6 := y_5.below (Nat.le_refl _) b6
    go_wp2
    go_ret
    exact ⟨rfl, t6⟩
  · go_enter Try.func10, Try.ntmps10
    go_wp2
    go_ret
    exact ⟨rfl, Below.refl _ _⟩

set_option maxHeartbeats 2000000 in
theorem exactFlagMajor (ao : Option Addr) (n cap : Nat) (xs : List Int) (w : World) (h : Sl w ao n cap xs) (Hr : Hid (R64 xs)) :
    Calls Try.prog 12 #[.slice ao n cap] w (Says w (.bool true)) := by
  have hbig := h.big
  by_cases hn : n ≤ 1048576
  · have t0 := Below.refl w.heap.size w
    go_enter Try.func12, Try.ntmps12
    go_wp2_with fail
    refine (toIntS_any _ _ _ xs _ h hn).mono ?_
    rintro e w1 ⟨uv, rfl, v_1, b1⟩
    have t1 := t0.trans (b1.mono t0.size)
    obtain ⟨adv, cpv, rfl, -⟩ := v_1.sl
    go_wp2_with fail
    refine (flagS_any _ _ _ xs _ v_1.read).mono ?_
    rintro e w2 ⟨rfl, b2⟩
    have t2 := t1.trans (b2.mono t1.size)
    have v_2 := v_1.below (Nat.le_refl _) b2
    go_wp2_with fail
    refine (toIntS_any _ _ _ xs _ (h.later t2) hn).mono ?_
    rintro e w3 ⟨ux, rfl, x_3, b3⟩
    have t3 := t2.trans (b3.mono t2.size)
    have v_3 := v_2.below (Nat.le_refl _) b3
    obtain ⟨adx, cpx, rfl, -⟩ := x_3.sl
    go_wp2_with fail
    refine (flagI_any _ _ _ xs _ x_3.read Hr).mono ?_
    rintro e w4 ⟨rfl, b4⟩
    have t4 := t3.trans (b4.mono t3.size)
    have v_4 := v_3.below (Nat.le_refl _) b4
    have x_4 := x_3.below (Nat.le_refl _) b4
    go_wp2_with fail
    refine (toIntS_any _ _ _ xs _ (h.later t4) hn).mono ?_
    rintro e w5 ⟨uy, rfl, y_5, b5⟩
    have t5 := t4.trans (b5.mono t4.size)
    have v_5 := v_4.below (Nat.le_refl _) b5
    have x_5 := x_4.below (Nat.le_refl _) b5
    obtain ⟨ady, cpy, rfl, -⟩ := y_5.sl
    go_wp2_with fail
    refine (eqIntS_any _ _ _ _ _ _ _ _ _ x_5.read y_5.read).mono ?_
    rintro e w6 ⟨rfl, b6⟩
    have t6 := t5.trans (b6.mono t5.size)
    have v_6 := v_5.below (Nat.le_refl _) b6
    have x_6 := x_5.below (Nat.le_refl _) b6
    have y_6 := y_5.below (Nat.le_refl _) b6
    go_wp2
    go_ret
    exact ⟨rfl, t6⟩
  · go_enter Try.func12, Try.ntmps12
    go_wp2
    go_ret
    exact ⟨rfl, Below.refl _ _⟩

set_option maxHeartbeats 2000000 in
theorem exactFallsOf (ao : Option Addr) (n cap : Nat) (xs : List Int) (w : World) (h : Sl w ao n cap xs) (Hr : Hid (R64 xs)) :
    Calls Try.prog 14 #[.slice ao n cap] w (Says w (.bool true)) := by
  have hbig := h.big
  by_cases hn : n ≤ 1048576
  · have t0 := Below.refl w.heap.size w
    go_enter Try.func14, Try.ntmps14
    go_wp2_with fail
    refine (toIntS_any _ _ _ xs _ h hn).mono ?_
    rintro e w1 ⟨uv, rfl, v_1, b1⟩
    have t1 := t0.trans (b1.mono t0.size)
    obtain ⟨adv, cpv, rfl, -⟩ := v_1.sl
    go_wp2_with fail
    refine (fallS_any _ _ _ xs _ v_1.read).mono ?_
    rintro e w2 ⟨rfl, b2⟩
    have t2 := t1.trans (b2.mono t1.size)
    have v_2 := v_1.below (Nat.le_refl _) b2
    go_wp2_with fail
    refine (toIntS_any _ _ _ xs _ (h.later t2) hn).mono ?_
    rintro e w3 ⟨ux, rfl, x_3, b3⟩
    have t3 := t2.trans (b3.mono t2.size)
    have v_3 := v_2.below (Nat.le_refl _) b3
    obtain ⟨adx, cpx, rfl, -⟩ := x_3.sl
    go_wp2_with fail
    refine (fallI_any _ _ _ xs _ x_3.read Hr).mono ?_
    rintro e w4 ⟨rfl, b4⟩
    have t4 := t3.trans (b4.mono t3.size)
    have v_4 := v_3.below (Nat.le_refl _) b4
    have x_4 := x_3.below (Nat.le_refl _) b4
    go_wp2_with fail
    refine (toIntS_any _ _ _ xs _ (h.later t4) hn).mono ?_
    rintro e w5 ⟨uy, rfl, y_5, b5⟩
    have t5 := t4.trans (b5.mono t4.size)
    have v_5 := v_4.below (Nat.le_refl _) b5
    have x_5 := x_4.below (Nat.le_refl _) b5
    obtain ⟨ady, cpy, rfl, -⟩ := y_5.sl
    go_wp2_with fail
    refine (eqIntS_any _ _ _ _ _ _ _ _ _ x_5.read y_5.read).mono ?_
    rintro e w6 ⟨rfl, b6⟩
    have t6 := t5.trans (b6.mono t5.size)
    have v_6 := v_5.below (Nat.le_refl _) b6
    have x_6 := x_5.below (Nat.le_refl _) b6
    have y_6 := y_5.below (Nat.le_refl _) b6
    go_wp2
    go_ret
    exact ⟨rfl, t6⟩
  · go_enter Try.func14, Try.ntmps14
    go_wp2
    go_ret
    exact ⟨rfl, Below.refl _ _⟩

set_option maxHeartbeats 2000000 in
theorem exactSizesOf (ao : Option Addr) (n cap : Nat) (xs : List Int) (w : World) (h : Sl w ao n cap xs) (Hr : Hid (R64 xs)) :
    Calls Try.prog 6 #[.slice ao n cap] w (Says w (.bool true)) := by
  have hbig := h.big
  by_cases hn : n ≤ 1048576
  · have hl : (onS xs (szL xs)).length ≤ 2000000 := by
      refine onS_len ?_; rw [szL_len]; have := h.len; omega
    have HL := hid h.len
    have t0 := Below.refl w.heap.size w
    go_enter Try.func6, Try.ntmps6
    go_wp2_with fail
    refine (toIntS_any _ _ _ xs _ h hn).mono ?_
    rintro e w1 ⟨uv, rfl, v_1, b1⟩
    have t1 := t0.trans (b1.mono t0.size)
    obtain ⟨adv, cpv, rfl, -⟩ := v_1.sl
    go_wp2_with fail
    refine (sizesS_any _ _ _ xs _ v_1.read).mono ?_
    rintro e w2 ⟨us, rfl, s_2, b2⟩
    have t2 := t1.trans (b2.mono t1.size)
    have v_2 := v_1.below (Nat.le_refl _) b2
    obtain ⟨ads, cps, rfl, -⟩ := s_2.sl
    go_wp2_with fail
    refine (toIntS_any _ _ _ xs _ (h.later t2) hn).mono ?_
    rintro e w3 ⟨ux, rfl, x_3, b3⟩
    have t3 := t2.trans (b3.mono t2.size)
    have v_3 := v_2.below (Nat.le_refl _) b3
    have s_3 := s_2.below (Nat.le_refl _) b3
    obtain ⟨adx, cpx, rfl, -⟩ := x_3.sl
    go_wp2_with fail
    refine (sizesI_any _ _ _ xs _ x_3.read Hr).mono ?_
    rintro e w4 ⟨ug, rfl, g_4, b4⟩
    have t4 := t3.trans (b4.mono t3.size)
    have v_4 := v_3.below (Nat.le_refl _) b4
    have s_4 := s_3.below (Nat.le_refl _) b4
    have x_4 := x_3.below (Nat.le_refl _) b4
    obtain ⟨adg, cpg, rfl, -⟩ := g_4.sl
    go_wp2_with fail
    refine (eqIntS_any _ _ _ _ _ _ _ _ _ g_4.read s_4.read).mono ?_
    rintro e w5 ⟨rfl, b5⟩
    have t5 := t4.trans (b5.mono t4.size)
    have v_5 := v_4.below (Nat.le_refl _) b5
    have s_5 := s_4.below (Nat.le_refl _) b5
    have x_5 := x_4.below (Nat.le_refl _) b5
    have g_5 := g_4.below (Nat.le_refl _) b5
    go_wp2_with fail
    refine (toIntS_any _ _ _ xs _ (h.later t5) hn).mono ?_
    rintro e w6 ⟨uy, rfl, y_6, b6⟩
    have t6 := t5.trans (b6.mono t5.size)
    have v_6 := v_5.below (Nat.le_refl _) b6
    have s_6 := s_5.below (Nat.le_refl _) b6
    have x_6 := x_5.below (Nat.le_refl _) b6
    have g_6 := g_5.below (Nat.le_refl _) b6
    obtain ⟨ady, cpy, rfl, -⟩ := y_6.sl
    go_wp2_with fail
    refine (eqIntS_any _ _ _ _ _ _ _ _ _ x_6.read y_6.read).mono ?_
    rintro e w7 ⟨rfl, b7⟩
    have t7 := t6.trans (b7.mono t6.size)
    have v_7 := v_6.below (Nat.le_refl _) b7
    have s_7 := s_6.below (Nat.le_refl _) b7
    have x_7 := x_6.below (Nat.le_refl _) b7
    have g_7 := g_6.below (Nat.le_refl _) b7
    have y_7 := y_6.below (Nat.le_refl _) b7
    go_wp2_with fail
    refine (markIntS_any _ _ _ 1 _ x_7 (by omega) (by omega) (by rw [HL.out]; omega)).mono ?_
    rintro e w8 ⟨rfl, x_8, g8⟩
    have b8 : Below w.heap.size w7 w8 := below_of_grown g8 t7.size (fun k hk => Nat.le_trans t2.size (x_3.blocks k hk).1)
    have t8 := t7.trans b8
    have v_8 := v_7.kept g8 (v_1.apart x_3 b2.size)
    have s_8 := s_7.kept g8 (s_2.apart x_3 (Nat.le_refl _))
    have g_8 := g_7.kept g8 (g_4.apart' x_3 (Nat.le_refl _))
    have y_8 := y_7.kept g8 (y_6.apart' x_3 (Nat.le_trans b4.size b5.size))
    go_wp2_with fail
    refine (eqIntS_any _ _ _ _ _ _ _ _ _ g_8.read s_8.read).mono ?_
    rintro e w9 ⟨rfl, b9⟩
    have t9 := t8.trans (b9.mono t8.size)
    have v_9 := v_8.below (Nat.le_refl _) b9
    have s_9 := s_8.below (Nat.le_refl _) b9
    have x_9 := x_8.below (Nat.le_refl _) b9
    have g_9 := g_8.below (Nat.le_refl _) b9
    have y_9 := y_8.below (Nat.le_refl _) b9
    go_wp2_with fail
    refine (markIntS_any _ _ _ 1 _ g_9 (by omega) (by omega) hl).mono ?_
    rintro e w10 ⟨rfl, g_10, g10⟩
    have b10 : Below w.heap.size w9 w10 := below_of_grown g10 t9.size (fun k hk => Nat.le_trans t3.size (g_4.blocks k hk).1)
    have t10 := t9.trans b10
    have v_10 := v_9.kept g10 (v_1.apart g_4 (Nat.le_trans b2.size b3.size))
    have s_10 := s_9.kept g10 (s_2.apart g_4 b3.size)
    have x_10 := x_9.kept g10 (x_3.apart g_4 (Nat.le_refl _))
    have y_10 := y_9.kept g10 (y_6.apart' g_4 b5.size)
    go_wp2_with fail
    refine (heldIntS_any _ _ _ _ 1 _ g_10.read (by omega) (by omega) hl (hid rfl)).mono ?_
    rintro e w11 ⟨rfl, b11⟩
    have t11 := t10.trans (b11.mono t10.size)
    have v_11 := v_10.below (Nat.le_refl _) b11
    have s_11 := s_10.below (Nat.le_refl _) b11
    have x_11 := x_10.below (Nat.le_refl _) b11
    have g_11 := g_10.below (Nat.le_refl _) b11
    have y_11 := y_10.below (Nat.le_refl _) b11
    go_wp2_with fail
    refine (toIntS_any _ _ _ xs _ (h.later t11) hn).mono ?_
    rintro e w12 ⟨uz, rfl, z_12, b12⟩
    have t12 := t11.trans (b12.mono t11.size)
    have v_12 := v_11.below (Nat.le_refl _) b12
    have s_12 := s_11.below (Nat.le_refl _) b12
    have x_12 := x_11.below (Nat.le_refl _) b12
    have g_12 := g_11.below (Nat.le_refl _) b12
    have y_12 := y_11.below (Nat.le_refl _) b12
    obtain ⟨adz, cpz, rfl, -⟩ := z_12.sl
    go_wp2_with fail
    refine (sizesI_any _ _ _ xs _ z_12.read Hr).mono ?_
    rintro e w13 ⟨uh, rfl, h_13, b13⟩
    have t13 := t12.trans (b13.mono t12.size)
    have v_13 := v_12.below (Nat.le_refl _) b13
    have s_13 := s_12.below (Nat.le_refl _) b13
    have x_13 := x_12.below (Nat.le_refl _) b13
    have g_13 := g_12.below (Nat.le_refl _) b13
    have y_13 := y_12.below (Nat.le_refl _) b13
    have z_13 := z_12.below (Nat.le_refl _) b13
    obtain ⟨adh, cph, rfl, -⟩ := h_13.sl
    go_wp2_with fail
    refine (eqIntS_any _ _ _ _ _ _ _ _ _ h_13.read s_13.read).mono ?_
    rintro e w14 ⟨rfl, b14⟩
    have t14 := t13.trans (b14.mono t13.size)
    have v_14 := v_13.below (Nat.le_refl _) b14
    have s_14 := s_13.below (Nat.le_refl _) b14
    have x_14 := x_13.below (Nat.le_refl _) b14
    have g_14 := g_13.below (Nat.le_refl _) b14
    have y_14 := y_13.below (Nat.le_refl _) b14
    have z_14 := z_13.below (Nat.le_refl _) b14
    have h_14 := h_13.below (Nat.le_refl _) b14
    go_wp2_with fail
    refine (heldIntS_any _ _ _ _ 1 _ g_14.read (by omega) (by omega) hl (hid rfl)).mono ?_
    rintro e w15 ⟨rfl, b15⟩
    have t15 := t14.trans (b15.mono t14.size)
    have v_15 := v_14.below (Nat.le_refl _) b15
    have s_15 := s_14.below (Nat.le_refl _) b15
    have x_15 := x_14.below (Nat.le_refl _) b15
    have g_15 := g_14.below (Nat.le_refl _) b15
    have y_15 := y_14.below (Nat.le_refl _) b15
    have z_15 := z_14.below (Nat.le_refl _) b15
    have h_15 := h_14.below (Nat.le_refl _) b15
    go_wp2
    go_ret
    exact ⟨rfl, t15⟩
  · go_enter Try.func6, Try.ntmps6
    go_wp2
    go_ret
    exact ⟨rfl, Below.refl _ _⟩

end Go.Proofs.Ytjgaglfinpeeoaa
