/- The walks of the exact laws of InverseSigned and MultiplySigned. Condition of the laws' own: at most 2^20 numbers. -/
import Derived.Test.YtjgaglfinpeeoabSgnE
import Derived.Test.YtjgaglfinpeeoabCopy
namespace Go.Proofs.Ytjgaglfinpeeoab
open Go.RowKit

set_option maxHeartbeats 2000000 in
theorem exactInverseSigned (ao : Option Addr) (n cap : Nat) (xs : List Int) (w : World) (h : Sl w ao n cap xs) (Hr : Hid (R64 xs)) :
    Calls Try.prog 6 #[.slice ao n cap] w (Says w (.bool true)) := by
  have hbig := h.big
  by_cases hn : n ≤ 1048576
  · have hl : (onS xs (invS xs)).length ≤ 2000000 := by
      refine onS_len ?_; rw [invS_len]; have := h.len; omega
    have HL := hid h.len
    have t0 := Below.refl w.heap.size w
    go_enter Try.func6, Try.ntmps6
    go_wp2_with fail
    refine (toIntS_any _ _ _ xs _ h hn).mono ?_
    rintro e w1 ⟨uv, rfl, v_1, b1⟩
    have t1 := t0.trans (b1.mono t0.size)
    obtain ⟨adv, cpv, rfl, -⟩ := v_1.sl
    go_wp2_with fail
    refine (invS_any _ _ _ xs _ v_1.read).mono ?_
    rintro e w2 ⟨us, rfl, s_2, b2⟩
    have t2 := t1.trans (b2.mono t1.size)
    have v_2 := v_1.below (Nat.le_refl _) b2
    obtain ⟨ads, cps, rfl, -⟩ := s_2.sl
    go_wp2_with fail
    refine (toIntS_any _ _ _ xs _ (h.later t2) hn).mono ?_
    rintro e w3 ⟨ux, rfl, x_3, b3⟩
    have t3 := t2.trans (b3.mono t2.size)
    have v_3 := v_2.below (Nat.le_refl _) b3
    have s_3 := s_2.below (Nat.le_refl _) b3
    obtain ⟨adx, cpx, rfl, -⟩ := x_3.sl
    go_wp2_with fail
    refine (invI_any _ _ _ xs _ x_3.read Hr).mono ?_
    rintro e w4 ⟨ug, rfl, g_4, b4⟩
    have t4 := t3.trans (b4.mono t3.size)
    have v_4 := v_3.below (Nat.le_refl _) b4
    have s_4 := s_3.below (Nat.le_refl _) b4
    have x_4 := x_3.below (Nat.le_refl _) b4
    obtain ⟨adg, cpg, rfl, -⟩ := g_4.sl
    go_wp2_with fail
    refine (eqIntS_any _ _ _ _ _ _ _ _ _ g_4.read s_4.read).mono ?_
    rintro e w5 ⟨rfl, b5⟩
    have t5 := t4.trans (b5.mono t4.size)
    have v_5 := v_4.below (Nat.le_refl _) b5
    have s_5 := s_4.below (Nat.le_refl _) b5
    have x_5 := x_4.below (Nat.le_refl _) b5
    have g_5 := g_4.below (Nat.le_refl _) b5
    go_wp2_with fail
    refine (toIntS_any _ _ _ xs _ (h.later t5) hn).mono ?_
    rintro e w6 ⟨uy, rfl, y_6, b6⟩
    have t6 := t5.trans (b6.mono t5.size)
    have v_6 := v_5.below (Nat.le_refl _) b6
    have s_6 := s_5.below (Nat.le_refl _) b6
    have x_6 := x_5.below (Nat.le_refl _) b6
    have g_6 := g_5.below (Nat.le_refl _) b6
    obtain ⟨ady, cpy, rfl, -⟩ := y_6.sl
    go_wp2_with fail
    refine (eqIntS_any _ _ _ _ _ _ _ _ _ x_6.read y_6.read).mono ?_
    rintro e w7 ⟨rfl, b7⟩
    have t7 := t6.trans (b7.mono t6.size)
    have v_7 := v_6.below (Nat.le_refl _) b7
    have s_7 := s_6.below (Nat.le_refl _) b7
    have x_7 := x_6.below (Nat.le_refl _) b7
    have g_7 := g_6.below (Nat.le_refl _) b7
    have y_7 := y_6.below (Nat.le_refl _) b7
    go_wp2_with fail
    refine (markIntS_any _ _ _ 1 _ x_7 (by omega) (by omega) (by rw [HL.out]; omega)).mono ?_
    rintro e w8 ⟨rfl, x_8, g8⟩
    have b8 : Below w.heap.size w7 w8 := below_of_grown g8 t7.size (fun k hk => Nat.le_trans t2.size (x_3.blocks k hk).1)
    have t8 := t7.trans b8
    have v_8 := v_7.kept g8 (v_1.apart x_3 b2.size)
    have s_8 := s_7.kept g8 (s_2.apart x_3 (Nat.le_refl _))
    have g_8 := g_7.kept g8 (g_4.apart' x_3 (Nat.le_refl _))
    have y_8 := y_7.kept g8 (y_6.apart' x_3 (Nat.le_trans b4.size b5.size))
    go_wp2_with fail
    refine (eqIntS_any _ _ _ _ _ _ _ _ _ g_8.read s_8.read).mono ?_
    rintro e w9 ⟨rfl, b9⟩
    have t9 := t8.trans (b9.mono t8.size)
    have v_9 := v_8.below (Nat.le_refl _) b9
    have s_9 := s_8.below (Nat.le_refl _) b9
    have x_9 := x_8.below (Nat.le_refl _) b9
    have g_9 := g_8.below (Nat.le_refl _) b9
    have y_9 := y_8.below (Nat.le_refl _) b9
    go_wp2_with fail
    refine (markIntS_any _ _ _ 1 _ g_9 (by omega) (by omega) hl).mono ?_
    rintro e w10 ⟨rfl, g_10, g10⟩
    have b10 : Below w.heap.size w9 w10 := below_of_grown g10 t9.size (fun k hk => Nat.le_trans t3.size (g_4.blocks k hk).1)
    have t10 := t9.trans b10
    have v_10 := v_9.kept g10 (v_1.apart g_4 (Nat.le_trans b2.size b3.size))
    have s_10 := s_9.kept g10 (s_2.apart g_4 b3.size)
    have x_10 := x_9.kept g10 (x_3.apart g_4 (Nat.le_refl _))
    have y_10 := y_9.kept g10 (y_6.apart' g_4 b5.size)
    go_wp2_with fail
    refine (heldIntS_any _ _ _ _ 1 _ g_10.read (by omega) (by omega) hl (hid rfl)).mono ?_
    rintro e w11 ⟨rfl, b11⟩
    have t11 := t10.trans (b11.mono t10.size)
    have v_11 := v_10.below (Nat.le_refl _) b11
    have s_11 := s_10.below (Nat.le_refl _) b11
    have x_11 := x_10.below (Nat.le_refl _) b11
    have g_11 := g_10.below (Nat.le_refl _) b11
    have y_11 := y_10.below (Nat.le_refl _) b11
    go_wp2_with fail
    refine (toIntS_any _ _ _ xs _ (h.later t11) hn).mono ?_
    rintro e w12 ⟨uz, rfl, z_12, b12⟩
    have t12 := t11.trans (b12.mono t11.size)
    have v_12 := v_11.below (Nat.le_refl _) b12
    have s_12 := s_11.below (Nat.le_refl _) b12
    have x_12 := x_11.below (Nat.le_refl _) b12
    have g_12 := g_11.below (Nat.le_refl _) b12
    have y_12 := y_11.below (Nat.le_refl _) b12
    obtain ⟨adz, cpz, rfl, -⟩ := z_12.sl
    go_wp2_with fail
    refine (invI_any _ _ _ xs _ z_12.read Hr).mono ?_
    rintro e w13 ⟨uh, rfl, h_13, b13⟩
    have t13 := t12.trans (b13.mono t12.size)
    have v_13 := v_12.below (Nat.le_refl _) b13
    have s_13 := s_12.below (Nat.le_refl _) b13
    have x_13 := x_12.below (Nat.le_refl _) b13
    have g_13 := g_12.below (Nat.le_refl _) b13
    have y_13 := y_12.below (Nat.le_refl _) b13
    have z_13 := z_12.below (Nat.le_refl _) b13
    obtain ⟨adh, cph, rfl, -⟩ := h_13.sl
    go_wp2_with fail
    refine (eqIntS_any _ _ _ _ _ _ _ _ _ h_13.read s_13.read).mono ?_
    rintro e w14 ⟨rfl, b14⟩
    have t14 := t13.trans (b14.mono t13.size)
    have v_14 := v_13.below (Nat.le_refl _) b14
    have s_14 := s_13.below (Nat.le_refl _) b14
    have x_14 := x_13.below (Nat.le_refl _) b14
    have g_14 := g_13.below (Nat.le_refl _) b14
    have y_14 := y_13.below (Nat.le_refl _) b14
    have z_14 := z_13.below (Nat.le_refl _) b14
    have h_14 := h_13.below (Nat.le_refl _) b14
    go_wp2_with fail
    refine (heldIntS_any _ _ _ _ 1 _ g_14.read (by omega) (by omega) hl (hid rfl)).mono ?_
    rintro e w15 ⟨rfl, b15⟩
    have t15 := t14.trans (b15.mono t14.size)
    have v_15 := v_14.below (Nat.le_refl _) b15
    have s_15 := s_14.below (Nat.le_refl _) b15
    have x_15 := x_14.below (Nat.le_refl _) b15
    have g_15 := g_14.below (Nat.le_refl _) b15
    have y_15 := y_14.below (Nat.le_refl _) b15
    have z_15 := z_14.below (Nat.le_refl _) b15
    have h_15 := h_14.below (Nat.le_refl _) b15
    go_wp2
    go_ret
    exact ⟨rfl, t15⟩
  · go_enter Try.func6, Try.ntmps6
    go_wp2
    go_ret
    exact ⟨rfl, Below.refl _ _⟩

set_option maxHeartbeats 4000000 in
theorem exactMultiplySigned (ao : Option Addr) (n cap : Nat) (xs : List Int) (bo : Option Addr) (m cap2 : Nat) (ys : List Int) (w : World) (h : Sl w ao n cap xs) (Hr : Hid (R64 xs)) (g : Sl w bo m cap2 ys) (Gr : Hid (R64 ys)) :
    Calls Try.prog 4 #[.slice ao n cap, .slice bo m cap2] w (Says w (.bool true)) := by
  have hbig := h.big
  have gbig := g.big
  by_cases hn : n ≤ 1048576
  · by_cases gn : m ≤ 1048576
    · have hl : (onSM xs ys (mulS xs ys)).length ≤ 2000000 := by
        unfold onSM; split
        · rw [mulS_len]; have := g.len; omega
        · simp
      have t0 := Below.refl w.heap.size w
      have HL := hid h.len
      have GL := hid g.len
      go_enter Try.func4, Try.ntmps4
      go_wp2_with fail
      refine (toIntS_any _ _ _ xs _ h hn).mono ?_
      rintro e w1 ⟨uv, rfl, v_1, b1⟩
      have t1 := t0.trans (b1.mono t0.size)
      obtain ⟨adv, cpv, rfl, -⟩ := v_1.sl
      go_wp2_with fail
      refine (toIntS_any _ _ _ ys _ (g.later t1) gn).mono ?_
      rintro e w2 ⟨uvv, rfl, vv_2, b2⟩
      have t2 := t1.trans (b2.mono t1.size)
      have v_2 := v_1.below (Nat.le_refl _) b2
      obtain ⟨advv, cpvv, rfl, -⟩ := vv_2.sl
      go_wp2_with fail
      refine (mulSS_any _ _ _ xs _ _ _ ys _ v_2.read vv_2.read ).mono ?_
      rintro e w3 ⟨us, rfl, s_3, b3⟩
      have t3 := t2.trans (b3.mono t2.size)
      have v_3 := v_2.below (Nat.le_refl _) b3
      have vv_3 := vv_2.below (Nat.le_refl _) b3
      obtain ⟨ads, cps, rfl, -⟩ := s_3.sl
      go_wp2_with fail
      refine (toIntS_any _ _ _ xs _ (h.later t3) hn).mono ?_
      rintro e w4 ⟨ux, rfl, x_4, b4⟩
      have t4 := t3.trans (b4.mono t3.size)
      have v_4 := v_3.below (Nat.le_refl _) b4
      have vv_4 := vv_3.below (Nat.le_refl _) b4
      have s_4 := s_3.below (Nat.le_refl _) b4
      obtain ⟨adx, cpx, rfl, -⟩ := x_4.sl
      go_wp2_with fail
      refine (toIntS_any _ _ _ ys _ (g.later t4) gn).mono ?_
      rintro e w5 ⟨uxx, rfl, xx_5, b5⟩
      have t5 := t4.trans (b5.mono t4.size)
      have v_5 := v_4.below (Nat.le_refl _) b5
      have vv_5 := vv_4.below (Nat.le_refl _) b5
      have s_5 := s_4.below (Nat.le_refl _) b5
      have x_5 := x_4.below (Nat.le_refl _) b5
      obtain ⟨adxx, cpxx, rfl, -⟩ := xx_5.sl
      go_wp2_with fail
      refine (mulI_any _ _ _ xs _ _ _ ys _ x_5.read xx_5.read Hr Gr).mono ?_
      rintro e w6 ⟨ug, rfl, g_6, b6⟩
      have t6 := t5.trans (b6.mono t5.size)
      have v_6 := v_5.below (Nat.le_refl _) b6
      have vv_6 := vv_5.below (Nat.le_refl _) b6
      have s_6 := s_5.below (Nat.le_refl _) b6
      have x_6 := x_5.below (Nat.le_refl _) b6
      have xx_6 := xx_5.below (Nat.le_refl _) b6
      obtain ⟨adg, cpg, rfl, -⟩ := g_6.sl
      go_wp2_with fail
      refine (eqIntS_any _ _ _ _ _ _ _ _ _ g_6.read s_6.read).mono ?_
      rintro e w7 ⟨rfl, b7⟩
      have t7 := t6.trans (b7.mono t6.size)
      have v_7 := v_6.below (Nat.le_refl _) b7
      have vv_7 := vv_6.below (Nat.le_refl _) b7
      have s_7 := s_6.below (Nat.le_refl _) b7
      have x_7 := x_6.below (Nat.le_refl _) b7
      have xx_7 := xx_6.below (Nat.le_refl _) b7
      have g_7 := g_6.below (Nat.le_refl _) b7
      go_wp2_with fail
      refine (toIntS_any _ _ _ xs _ (h.later t7) hn).mono ?_
      rintro e w8 ⟨uy, rfl, y_8, b8⟩
      have t8 := t7.trans (b8.mono t7.size)
      have v_8 := v_7.below (Nat.le_refl _) b8
      have vv_8 := vv_7.below (Nat.le_refl _) b8
      have s_8 := s_7.below (Nat.le_refl _) b8
      have x_8 := x_7.below (Nat.le_refl _) b8
      have xx_8 := xx_7.below (Nat.le_refl _) b8
      have g_8 := g_7.below (Nat.le_refl _) b8
      obtain ⟨ady, cpy, rfl, -⟩ := y_8.sl
      go_wp2_with fail
      refine (eqIntS_any _ _ _ _ _ _ _ _ _ x_8.read y_8.read).mono ?_
      rintro e w9 ⟨rfl, b9⟩
      have t9 := t8.trans (b9.mono t8.size)
      have v_9 := v_8.below (Nat.le_refl _) b9
      have vv_9 := vv_8.below (Nat.le_refl _) b9
      have s_9 := s_8.below (Nat.le_refl _) b9
      have x_9 := x_8.below (Nat.le_refl _) b9
      have xx_9 := xx_8.below (Nat.le_refl _) b9
      have g_9 := g_8.below (Nat.le_refl _) b9
      have y_9 := y_8.below (Nat.le_refl _) b9
      go_wp2_with fail
      refine (toIntS_any _ _ _ ys _ (g.later t9) gn).mono ?_
      rintro e w10 ⟨uyy, rfl, yy_10, b10⟩
      have t10 := t9.trans (b10.mono t9.size)
      have v_10 := v_9.below (Nat.le_refl _) b10
      have vv_10 := vv_9.below (Nat.le_refl _) b10
      have s_10 := s_9.below (Nat.le_refl _) b10
      have x_10 := x_9.below (Nat.le_refl _) b10
      have xx_10 := xx_9.below (Nat.le_refl _) b10
      have g_10 := g_9.below (Nat.le_refl _) b10
      have y_10 := y_9.below (Nat.le_refl _) b10
      obtain ⟨adyy, cpyy, rfl, -⟩ := yy_10.sl
      go_wp2_with fail
      refine (eqIntS_any _ _ _ _ _ _ _ _ _ xx_10.read yy_10.read).mono ?_
      rintro e w11 ⟨rfl, b11⟩
      have t11 := t10.trans (b11.mono t10.size)
      have v_11 := v_10.below (Nat.le_refl _) b11
      have vv_11 := vv_10.below (Nat.le_refl _) b11
      have s_11 := s_10.below (Nat.le_refl _) b11
      have x_11 := x_10.below (Nat.le_refl _) b11
      have xx_11 := xx_10.below (Nat.le_refl _) b11
      have g_11 := g_10.below (Nat.le_refl _) b11
      have y_11 := y_10.below (Nat.le_refl _) b11
      have yy_11 := yy_10.below (Nat.le_refl _) b11
      go_wp2_with fail
      refine (markIntS_any _ _ _ 1 _ x_11 (by omega) (by omega) (by rw [HL.out]; omega)).mono ?_
      rintro e w12 ⟨rfl, x_12, g12⟩
      have b12 : Below w.heap.size w11 w12 := below_of_grown g12 t11.size (fun k hk => Nat.le_trans t3.size (x_4.blocks k hk).1)
      have t12 := t11.trans b12
      have v_12 := v_11.kept g12 (v_1.apart x_4 (Nat.le_trans b2.size b3.size))
      have vv_12 := vv_11.kept g12 (vv_2.apart x_4 b3.size)
      have s_12 := s_11.kept g12 (s_3.apart x_4 (Nat.le_refl _))
      have xx_12 := xx_11.kept g12 (xx_5.apart' x_4 (Nat.le_refl _))
      have g_12 := g_11.kept g12 (g_6.apart' x_4 b5.size)
      have y_12 := y_11.kept g12 (y_8.apart' x_4 (Nat.le_trans (Nat.le_trans b5.size b6.size) b7.size))
      have yy_12 := yy_11.kept g12 (yy_10.apart' x_4 (Nat.le_trans (Nat.le_trans (Nat.le_trans (Nat.le_trans b5.size b6.size) b7.size) b8.size) b9.size))
      go_wp2_with fail
      refine (markIntS_any _ _ _ (1 + (xs.length : Nat)) _ xx_12 (by omega) (by rw [HL.out]; omega) (by rw [GL.out]; omega)).mono ?_
      rintro e w13 ⟨rfl, xx_13, g13⟩
      have b13 : Below w.heap.size w12 w13 := below_of_grown g13 t12.size (fun k hk => Nat.le_trans t4.size (xx_5.blocks k hk).1)
      have t13 := t12.trans b13
      have v_13 := v_12.kept g13 (v_1.apart xx_5 (Nat.le_trans (Nat.le_trans b2.size b3.size) b4.size))
      have vv_13 := vv_12.kept g13 (vv_2.apart xx_5 (Nat.le_trans b3.size b4.size))
      have s_13 := s_12.kept g13 (s_3.apart xx_5 b4.size)
      have x_13 := x_12.kept g13 (x_4.apart xx_5 (Nat.le_refl _))
      have g_13 := g_12.kept g13 (g_6.apart' xx_5 (Nat.le_refl _))
      have y_13 := y_12.kept g13 (y_8.apart' xx_5 (Nat.le_trans b6.size b7.size))
      have yy_13 := yy_12.kept g13 (yy_10.apart' xx_5 (Nat.le_trans (Nat.le_trans (Nat.le_trans b6.size b7.size) b8.size) b9.size))
      go_wp2_with fail
      refine (eqIntS_any _ _ _ _ _ _ _ _ _ g_13.read s_13.read).mono ?_
      rintro e w14 ⟨rfl, b14⟩
      have t14 := t13.trans (b14.mono t13.size)
      have v_14 := v_13.below (Nat.le_refl _) b14
      have vv_14 := vv_13.below (Nat.le_refl _) b14
      have s_14 := s_13.below (Nat.le_refl _) b14
      have x_14 := x_13.below (Nat.le_refl _) b14
      have xx_14 := xx_13.below (Nat.le_refl _) b14
      have g_14 := g_13.below (Nat.le_refl _) b14
      have y_14 := y_13.below (Nat.le_refl _) b14
      have yy_14 := yy_13.below (Nat.le_refl _) b14
      go_wp2_with fail
      refine (markIntS_any _ _ _ 1 _ g_14 (by omega) (by omega) hl).mono ?_
      rintro e w15 ⟨rfl, g_15, g15⟩
      have b15 : Below w.heap.size w14 w15 := below_of_grown g15 t14.size (fun k hk => Nat.le_trans t5.size (g_6.blocks k hk).1)
      have t15 := t14.trans b15
      have v_15 := v_14.kept g15 (v_1.apart g_6 (Nat.le_trans (Nat.le_trans (Nat.le_trans b2.size b3.size) b4.size) b5.size))
      have vv_15 := vv_14.kept g15 (vv_2.apart g_6 (Nat.le_trans (Nat.le_trans b3.size b4.size) b5.size))
      have s_15 := s_14.kept g15 (s_3.apart g_6 (Nat.le_trans b4.size b5.size))
      have x_15 := x_14.kept g15 (x_4.apart g_6 b5.size)
      have xx_15 := xx_14.kept g15 (xx_5.apart g_6 (Nat.le_refl _))
      have y_15 := y_14.kept g15 (y_8.apart' g_6 b7.size)
      have yy_15 := yy_14.kept g15 (yy_10.apart' g_6 (Nat.le_trans (Nat.le_trans b7.size b8.size) b9.size))
      go_wp2_with fail
      refine (heldIntS_any _ _ _ _ 1 _ g_15.read (by omega) (by omega) hl (hid rfl)).mono ?_
      rintro e w16 ⟨rfl, b16⟩
      have t16 := t15.trans (b16.mono t15.size)
      have v_16 := v_15.below (Nat.le_refl _) b16
      have vv_16 := vv_15.below (Nat.le_refl _) b16
      have s_16 := s_15.below (Nat.le_refl _) b16
      have x_16 := x_15.below (Nat.le_refl _) b16
      have xx_16 := xx_15.below (Nat.le_refl _) b16
      have g_16 := g_15.below (Nat.le_refl _) b16
      have y_16 := y_15.below (Nat.le_refl _) b16
      have yy_16 := yy_15.below (Nat.le_refl _) b16
      go_wp2_with fail
      refine (toIntS_any _ _ _ xs _ (h.later t16) hn).mono ?_
      rintro e w17 ⟨uz, rfl, z_17, b17⟩
      have t17 := t16.trans (b17.mono t16.size)
      have v_17 := v_16.below (Nat.le_refl _) b17
      have vv_17 := vv_16.below (Nat.le_refl _) b17
      have s_17 := s_16.below (Nat.le_refl _) b17
      have x_17 := x_16.below (Nat.le_refl _) b17
      have xx_17 := xx_16.below (Nat.le_refl _) b17
      have g_17 := g_16.below (Nat.le_refl _) b17
      have y_17 := y_16.below (Nat.le_refl _) b17
      have yy_17 := yy_16.below (Nat.le_refl _) b17
      obtain ⟨adz, cpz, rfl, -⟩ := z_17.sl
      go_wp2_with fail
      refine (toIntS_any _ _ _ ys _ (g.later t17) gn).mono ?_
      rintro e w18 ⟨uzz, rfl, zz_18, b18⟩
      have t18 := t17.trans (b18.mono t17.size)
      have v_18 := v_17.below (Nat.le_refl _) b18
      have vv_18 := vv_17.below (Nat.le_refl _) b18
      have s_18 := s_17.below (Nat.le_refl _) b18
      have x_18 := x_17.below (Nat.le_refl _) b18
      have xx_18 := xx_17.below (Nat.le_refl _) b18
      have g_18 := g_17.below (Nat.le_refl _) b18
      have y_18 := y_17.below (Nat.le_refl _) b18
      have yy_18 := yy_17.below (Nat.le_refl _) b18
      have z_18 := z_17.below (Nat.le_refl _) b18
      obtain ⟨adzz, cpzz, rfl, -⟩ := zz_18.sl
      go_wp2_with fail
      refine (mulI_any _ _ _ xs _ _ _ ys _ z_18.read zz_18.read Hr Gr).mono ?_
      rintro e w19 ⟨uh, rfl, h_19, b19⟩
      have t19 := t18.trans (b19.mono t18.size)
      have v_19 := v_18.below (Nat.le_refl _) b19
      have vv_19 := vv_18.below (Nat.le_refl _) b19
      have s_19 := s_18.below (Nat.le_refl _) b19
      have x_19 := x_18.below (Nat.le_refl _) b19
      have xx_19 := xx_18.below (Nat.le_refl _) b19
      have g_19 := g_18.below (Nat.le_refl _) b19
      have y_19 := y_18.below (Nat.le_refl _) b19
      have yy_19 := yy_18.below (Nat.le_refl _) b19
      have z_19 := z_18.below (Nat.le_refl _) b19
      have zz_19 := zz_18.below (Nat.le_refl _) b19
      obtain ⟨adh, cph, rfl, -⟩ := h_19.sl
      go_wp2_with fail
      refine (eqIntS_any _ _ _ _ _ _ _ _ _ h_19.read s_19.read).mono ?_
      rintro e w20 ⟨rfl, b20⟩
      have t20 := t19.trans (b20.mono t19.size)
      have v_20 := v_19.below (Nat.le_refl _) b20
      have vv_20 := vv_19.below (Nat.le_refl _) b20
      have s_20 := s_19.below (Nat.le_refl _) b20
      have x_20 := x_19.below (Nat.le_refl _) b20
      have xx_20 := xx_19.below (Nat.le_refl _) b20
      have g_20 := g_19.below (Nat.le_refl _) b20
      have y_20 := y_19.below (Nat.le_refl _) b20
      have yy_20 := yy_19.below (Nat.le_refl _) b20
      have z_20 := z_19.below (Nat.le_refl _) b20
      have zz_20 := zz_19.below (Nat.le_refl _) b20
      have h_20 := h_19.below (Nat.le_refl _) b20
      go_wp2_with fail
      refine (heldIntS_any _ _ _ _ 1 _ g_20.read (by omega) (by omega) hl (hid rfl)).mono ?_
      rintro e w21 ⟨rfl, b21⟩
      have t21 := t20.trans (b21.mono t20.size)
      have v_21 := v_20.below (Nat.le_refl _) b21
      have vv_21 := vv_20.below (Nat.le_refl _) b21
      have s_21 := s_20.below (Nat.le_refl _) b21
      have x_21 := x_20.below (Nat.le_refl _) b21
      have xx_21 := xx_20.below (Nat.le_refl _) b21
      have g_21 := g_20.below (Nat.le_refl _) b21
      have y_21 := y_20.below (Nat.le_refl _) b21
      have yy_21 := yy_20.below (Nat.le_refl _) b21
      have z_21 := z_20.below (Nat.le_refl _) b21
      have zz_21 := zz_20.below (Nat.le_refl _) b21
      have h_21 := h_20.below (Nat.le_refl _) b21
      go_wp2
      go_ret
      exact ⟨rfl, t21⟩
    · go_enter Try.func4, Try.ntmps4
      go_wp2
      go_ret
      exact ⟨rfl, Below.refl _ _⟩
  · go_enter Try.func4, Try.ntmps4
    go_wp2
    go_ret
    exact ⟨rfl, Below.refl _ _⟩

end Go.Proofs.Ytjgaglfinpeeoab
