/- The walk of the exact law of CirclesOf. Condition of the law's own: at most 2^20 numbers. -/
import Derived.Test.YtepikmkkbecdaaaCir
import Derived.Test.YtepikmkkbecdaaaCopyL
namespace Go.Proofs.Ytepikmkkbecdaaa
open Go.RowKit

theorem tot_le {M : Nat} {yss : List (List Int)} (h : ∀ j, j < yss.length → (ell yss j).length ≤ M) : tot yss ≤ yss.length * M := by
  have : ∀ k, k ≤ yss.length → pre yss k ≤ k * M := by
    intro k
    induction k with
    | zero => intro _; simp [pre]
    | succ k ih =>
      intro hk
      have h1 := ih (by omega)
      have h2 := h k (by omega)
      rw [pre, Nat.succ_mul]; omega
  exact this _ (Nat.le_refl _)
theorem ciP_in {xs : List Int} (h : Valid xs) : ∀ k, k ≤ xs.length → ∀ j, j < (ciP xs k).length → (ell (ciP xs k) j).length ≤ xs.length := by
  intro k
  induction k with
  | zero => intro _ j hj; simp [ciP] at hj
  | succ k ih =>
    intro hk j hj
    cases e : lea xs k
    · rw [ciP_no e] at hj ⊢; exact ih (by omega) j hj
    · rw [ciP_yes e] at hj ⊢
      rw [List.length_append, List.length_singleton] at hj
      by_cases ej : j = (ciP xs k).length
      · rw [ej, ell_app_eq, cyc_len]
        exact (per_spec h ⟨by omega, by omega⟩).2.1
      · rw [ell_app_lt (by omega)]; exact ih (by omega) j (by omega)
theorem circ_small (xs : List Int) : tot (onVL xs (circles xs)) ≤ 49 ∧ (onVL xs (circles xs)).length ≤ 7 := by
  by_cases h : Valid xs
  · rw [onVL_yes h]
    have h1 := ciP_len xs xs.length
    have h2 := tot_le (yss := circles xs) (M := 7) (fun j hj => Nat.le_trans (ciP_in h xs.length (Nat.le_refl _) j hj) h.len)
    have h3 := h.len
    have h4 : (circles xs).length ≤ 7 := by unfold circles; omega
    refine ⟨Nat.le_trans h2 ?_, h4⟩
    omega
  · rw [onVL_no h]; exact ⟨by decide, by decide⟩

theorem OwnL.read {w : World} {B C : Nat} {ao : Option Addr} {n cap : Nat} {yss : List (List Int)} (h : OwnL w B C (.slice ao n cap) yss) : SlL w ao n cap yss := by
  obtain ⟨a, c, e, hs⟩ := h.sl
  simp only [Value.slice.injEq] at e
  obtain ⟨rfl, rfl, rfl⟩ := e
  exact hs

set_option maxHeartbeats 2000000 in
theorem exactCir (ao : Option Addr) (n cap : Nat) (xs : List Int) (w : World) (h : Sl w ao n cap xs) :
    Calls Try.prog 14 #[.slice ao n cap] w (Says w (.bool true)) := by
  have hbig := h.big
  by_cases hn : n ≤ 1048576
  · have hl : tot (onVL xs (circles xs)) ≤ 1000000 := by
      have := circ_small xs; omega
    have hl2 : ((onVL xs (circles xs))).length ≤ 1000000 := by
      have := circ_small xs; omega
    have HL := hid h.len
    have t0 := Below.refl w.heap.size w
    go_enter Try.func14, Try.ntmps14
    go_wp2_with fail
    refine (toIntS_any _ _ _ xs _ h hn).mono ?_
    rintro e w1 ⟨uv, rfl, ov, b1⟩
    have z1 := hid b1.size
    have t1 := t0.trans (b1.mono t0.size)
    have v_1 := ov.win
    obtain ⟨adv, cpv, rfl, -⟩ := ov.sl
    clear ov
    go_wp2_with fail
    refine (circlesS_any _ _ _ xs _ v_1.own.read).mono ?_
    rintro e w2 ⟨us, rfl, os, b2⟩
    have z2 := hid b2.size
    have t2 := t1.trans (b2.mono t1.size)
    have v_2 := v_1.chg (Chg.of_below (lo := w1.heap.size) (hi := w1.heap.size) b2) (Or.inl (Nat.le_refl _))
    have s_2 := os
    obtain ⟨ads, cps, rfl, -⟩ := os.sl
    clear os
    go_wp2_with fail
    refine (toIntS_any _ _ _ xs _ (h.later t2) hn).mono ?_
    rintro e w3 ⟨ux, rfl, ox, b3⟩
    have z3 := hid b3.size
    have t3 := t2.trans (b3.mono t2.size)
    have v_3 := v_2.chg (Chg.of_below (lo := w1.heap.size) (hi := w1.heap.size) b3) (Or.inl (Nat.le_refl _))
    have s_3 := s_2.chg (Chg.of_below (lo := w2.heap.size) (hi := w2.heap.size) b3) (Or.inl (Nat.le_refl _))
    have x_3 := ox.win
    obtain ⟨adx, cpx, rfl, -⟩ := ox.sl
    clear ox
    go_wp2_with fail
    refine (circlesI_any _ _ _ xs _ x_3.own.read).mono ?_
    rintro e w4 ⟨ug, rfl, og, b4⟩
    have z4 := hid b4.size
    have t4 := t3.trans (b4.mono t3.size)
    have v_4 := v_3.chg (Chg.of_below (lo := w1.heap.size) (hi := w1.heap.size) b4) (Or.inl (Nat.le_refl _))
    have s_4 := s_3.chg (Chg.of_below (lo := w2.heap.size) (hi := w2.heap.size) b4) (Or.inl (Nat.le_refl _))
    have x_4 := x_3.chg (Chg.of_below (lo := w3.heap.size) (hi := w3.heap.size) b4) (Or.inl (Nat.le_refl _))
    have g_4 := og
    obtain ⟨adg, cpg, rfl, -⟩ := og.sl
    clear og
    go_wp2_with fail
    refine (eqIntSS_any _ _ _ _ _ _ _ _ _ g_4.read s_4.read).mono ?_
    rintro e w5 ⟨rfl, b5⟩
    have z5 := hid b5.size
    have t5 := t4.trans (b5.mono t4.size)
    have v_5 := v_4.chg (Chg.of_below (lo := w1.heap.size) (hi := w1.heap.size) b5) (Or.inl (Nat.le_refl _))
    have s_5 := s_4.chg (Chg.of_below (lo := w2.heap.size) (hi := w2.heap.size) b5) (Or.inl (Nat.le_refl _))
    have x_5 := x_4.chg (Chg.of_below (lo := w3.heap.size) (hi := w3.heap.size) b5) (Or.inl (Nat.le_refl _))
    have g_5 := g_4.chg (Chg.of_below (lo := w4.heap.size) (hi := w4.heap.size) b5) (Or.inl (Nat.le_refl _))
    go_wp2_with fail
    refine (toIntS_any _ _ _ xs _ (h.later t5) hn).mono ?_
    rintro e w6 ⟨uy, rfl, oy, b6⟩
    have z6 := hid b6.size
    have t6 := t5.trans (b6.mono t5.size)
    have v_6 := v_5.chg (Chg.of_below (lo := w1.heap.size) (hi := w1.heap.size) b6) (Or.inl (Nat.le_refl _))
    have s_6 := s_5.chg (Chg.of_below (lo := w2.heap.size) (hi := w2.heap.size) b6) (Or.inl (Nat.le_refl _))
    have x_6 := x_5.chg (Chg.of_below (lo := w3.heap.size) (hi := w3.heap.size) b6) (Or.inl (Nat.le_refl _))
    have g_6 := g_5.chg (Chg.of_below (lo := w4.heap.size) (hi := w4.heap.size) b6) (Or.inl (Nat.le_refl _))
    have y_6 := oy.win
    obtain ⟨ady, cpy, rfl, -⟩ := oy.sl
    clear oy
    go_wp2_with fail
    refine (eqIntS_any _ _ _ _ _ _ _ _ _ x_6.own.read y_6.own.read).mono ?_
    rintro e w7 ⟨rfl, b7⟩
    have z7 := hid b7.size
    have t7 := t6.trans (b7.mono t6.size)
    have v_7 := v_6.chg (Chg.of_below (lo := w1.heap.size) (hi := w1.heap.size) b7) (Or.inl (Nat.le_refl _))
    have s_7 := s_6.chg (Chg.of_below (lo := w2.heap.size) (hi := w2.heap.size) b7) (Or.inl (Nat.le_refl _))
    have x_7 := x_6.chg (Chg.of_below (lo := w3.heap.size) (hi := w3.heap.size) b7) (Or.inl (Nat.le_refl _))
    have g_7 := g_6.chg (Chg.of_below (lo := w4.heap.size) (hi := w4.heap.size) b7) (Or.inl (Nat.le_refl _))
    have y_7 := y_6.chg (Chg.of_below (lo := w6.heap.size) (hi := w6.heap.size) b7) (Or.inl (Nat.le_refl _))
    go_wp2_with fail
    refine (markIntS_any _ _ _ 1 _ x_7.own (by omega) (by omega) (by rw [HL.out]; omega)).mono ?_
    rintro e w8 ⟨rfl, m8, g8⟩
    have c8 : Chg w2.heap.size w3.heap.size w7 w8 := Chg.of_grown g8 (fun k hk => ⟨(x_7.own.blocks k hk).1, x_7.lt k hk⟩)
    have z8 := hid c8.size
    have t8 := c8.below t7 (Nat.le_trans z1.out z2.out) t7.size
    have v_8 := v_7.chg c8 (Or.inl z2.out)
    have s_8 := s_7.chg c8 (Or.inl (Nat.le_refl _))
    have g_8 := g_7.chg c8 (Or.inr (Nat.le_refl _))
    have y_8 := y_7.chg c8 (Or.inr (Nat.le_trans z4.out z5.out))
    have x_8 : OwnB w8 _ _ _ _ := ⟨m8, x_7.lt⟩
    go_wp2_with fail
    refine (eqIntSS_any _ _ _ _ _ _ _ _ _ g_8.read s_8.read).mono ?_
    rintro e w9 ⟨rfl, b9⟩
    have z9 := hid b9.size
    have t9 := t8.trans (b9.mono t8.size)
    have v_9 := v_8.chg (Chg.of_below (lo := w1.heap.size) (hi := w1.heap.size) b9) (Or.inl (Nat.le_refl _))
    have s_9 := s_8.chg (Chg.of_below (lo := w2.heap.size) (hi := w2.heap.size) b9) (Or.inl (Nat.le_refl _))
    have x_9 := x_8.chg (Chg.of_below (lo := w3.heap.size) (hi := w3.heap.size) b9) (Or.inl (Nat.le_refl _))
    have g_9 := g_8.chg (Chg.of_below (lo := w4.heap.size) (hi := w4.heap.size) b9) (Or.inl (Nat.le_refl _))
    have y_9 := y_8.chg (Chg.of_below (lo := w6.heap.size) (hi := w6.heap.size) b9) (Or.inl (Nat.le_refl _))
    go_wp2_with fail
    refine (markIntSS_any _ _ _ _ _ (onVL xs (circles xs)) 1 _ g_9 rfl (by omega) (by omega) hl hl2).mono ?_
    rintro e w10 ⟨rfl, m10, c10⟩
    have z10 := hid c10.size
    have t10 := c10.below t9 (Nat.le_trans (Nat.le_trans z1.out z2.out) z3.out) t9.size
    have v_10 := v_9.chg c10 (Or.inl (Nat.le_trans z2.out z3.out))
    have s_10 := s_9.chg c10 (Or.inl z3.out)
    have x_10 := x_9.chg c10 (Or.inl (Nat.le_refl _))
    have y_10 := y_9.chg c10 (Or.inr z5.out)
    have g_10 := m10
    go_wp2_with fail
    refine (heldIntSS_any _ _ _ (onVL xs (circles xs)) _ 1 _ g_10.read rfl (by omega) (by omega) hl hl2 (hid rfl)).mono ?_
    rintro e w11 ⟨rfl, b11⟩
    have z11 := hid b11.size
    have t11 := t10.trans (b11.mono t10.size)
    have v_11 := v_10.chg (Chg.of_below (lo := w1.heap.size) (hi := w1.heap.size) b11) (Or.inl (Nat.le_refl _))
    have s_11 := s_10.chg (Chg.of_below (lo := w2.heap.size) (hi := w2.heap.size) b11) (Or.inl (Nat.le_refl _))
    have x_11 := x_10.chg (Chg.of_below (lo := w3.heap.size) (hi := w3.heap.size) b11) (Or.inl (Nat.le_refl _))
    have g_11 := g_10.chg (Chg.of_below (lo := w4.heap.size) (hi := w4.heap.size) b11) (Or.inl (Nat.le_refl _))
    have y_11 := y_10.chg (Chg.of_below (lo := w6.heap.size) (hi := w6.heap.size) b11) (Or.inl (Nat.le_refl _))
    go_wp2_with fail
    refine (toIntS_any _ _ _ xs _ (h.later t11) hn).mono ?_
    rintro e w12 ⟨uz, rfl, oz, b12⟩
    have z12 := hid b12.size
    have t12 := t11.trans (b12.mono t11.size)
    have v_12 := v_11.chg (Chg.of_below (lo := w1.heap.size) (hi := w1.heap.size) b12) (Or.inl (Nat.le_refl _))
    have s_12 := s_11.chg (Chg.of_below (lo := w2.heap.size) (hi := w2.heap.size) b12) (Or.inl (Nat.le_refl _))
    have x_12 := x_11.chg (Chg.of_below (lo := w3.heap.size) (hi := w3.heap.size) b12) (Or.inl (Nat.le_refl _))
    have g_12 := g_11.chg (Chg.of_below (lo := w4.heap.size) (hi := w4.heap.size) b12) (Or.inl (Nat.le_refl _))
    have y_12 := y_11.chg (Chg.of_below (lo := w6.heap.size) (hi := w6.heap.size) b12) (Or.inl (Nat.le_refl _))
    have z_12 := oz.win
    obtain ⟨adz, cpz, rfl, -⟩ := oz.sl
    clear oz
    go_wp2_with fail
    refine (circlesI_any _ _ _ xs _ z_12.own.read).mono ?_
    rintro e w13 ⟨uh, rfl, oh, b13⟩
    have z13 := hid b13.size
    have t13 := t12.trans (b13.mono t12.size)
    have v_13 := v_12.chg (Chg.of_below (lo := w1.heap.size) (hi := w1.heap.size) b13) (Or.inl (Nat.le_refl _))
    have s_13 := s_12.chg (Chg.of_below (lo := w2.heap.size) (hi := w2.heap.size) b13) (Or.inl (Nat.le_refl _))
    have x_13 := x_12.chg (Chg.of_below (lo := w3.heap.size) (hi := w3.heap.size) b13) (Or.inl (Nat.le_refl _))
    have g_13 := g_12.chg (Chg.of_below (lo := w4.heap.size) (hi := w4.heap.size) b13) (Or.inl (Nat.le_refl _))
    have y_13 := y_12.chg (Chg.of_below (lo := w6.heap.size) (hi := w6.heap.size) b13) (Or.inl (Nat.le_refl _))
    have z_13 := z_12.chg (Chg.of_below (lo := w12.heap.size) (hi := w12.heap.size) b13) (Or.inl (Nat.le_refl _))
    have h_13 := oh
    obtain ⟨adh, cph, rfl, -⟩ := oh.sl
    clear oh
    go_wp2_with fail
    refine (eqIntSS_any _ _ _ _ _ _ _ _ _ h_13.read s_13.read).mono ?_
    rintro e w14 ⟨rfl, b14⟩
    have z14 := hid b14.size
    have t14 := t13.trans (b14.mono t13.size)
    have v_14 := v_13.chg (Chg.of_below (lo := w1.heap.size) (hi := w1.heap.size) b14) (Or.inl (Nat.le_refl _))
    have s_14 := s_13.chg (Chg.of_below (lo := w2.heap.size) (hi := w2.heap.size) b14) (Or.inl (Nat.le_refl _))
    have x_14 := x_13.chg (Chg.of_below (lo := w3.heap.size) (hi := w3.heap.size) b14) (Or.inl (Nat.le_refl _))
    have g_14 := g_13.chg (Chg.of_below (lo := w4.heap.size) (hi := w4.heap.size) b14) (Or.inl (Nat.le_refl _))
    have y_14 := y_13.chg (Chg.of_below (lo := w6.heap.size) (hi := w6.heap.size) b14) (Or.inl (Nat.le_refl _))
    have z_14 := z_13.chg (Chg.of_below (lo := w12.heap.size) (hi := w12.heap.size) b14) (Or.inl (Nat.le_refl _))
    have h_14 := h_13.chg (Chg.of_below (lo := w13.heap.size) (hi := w13.heap.size) b14) (Or.inl (Nat.le_refl _))
    go_wp2_with fail
    refine (heldIntSS_any _ _ _ (onVL xs (circles xs)) _ 1 _ g_14.read rfl (by omega) (by omega) hl hl2 (hid rfl)).mono ?_
    rintro e w15 ⟨rfl, b15⟩
    have z15 := hid b15.size
    have t15 := t14.trans (b15.mono t14.size)
    have v_15 := v_14.chg (Chg.of_below (lo := w1.heap.size) (hi := w1.heap.size) b15) (Or.inl (Nat.le_refl _))
    have s_15 := s_14.chg (Chg.of_below (lo := w2.heap.size) (hi := w2.heap.size) b15) (Or.inl (Nat.le_refl _))
    have x_15 := x_14.chg (Chg.of_below (lo := w3.heap.size) (hi := w3.heap.size) b15) (Or.inl (Nat.le_refl _))
    have g_15 := g_14.chg (Chg.of_below (lo := w4.heap.size) (hi := w4.heap.size) b15) (Or.inl (Nat.le_refl _))
    have y_15 := y_14.chg (Chg.of_below (lo := w6.heap.size) (hi := w6.heap.size) b15) (Or.inl (Nat.le_refl _))
    have z_15 := z_14.chg (Chg.of_below (lo := w12.heap.size) (hi := w12.heap.size) b15) (Or.inl (Nat.le_refl _))
    have h_15 := h_14.chg (Chg.of_below (lo := w13.heap.size) (hi := w13.heap.size) b15) (Or.inl (Nat.le_refl _))
    go_wp2
    go_ret
    exact ⟨rfl, t15⟩
  · go_enter Try.func14, Try.ntmps14
    go_wp2
    go_ret
    exact ⟨rfl, Below.refl _ _⟩

end Go.Proofs.Ytepikmkkbecdaaa
