/- The walk of the exact law of AllSigned. No condition. -/
import Derived.Test.YtjgaglfinpeeoacAsh
import Derived.Test.YtjgaglfinpeeoacCopyL
namespace Go.Proofs.Ytjgaglfinpeeoac
open Go.RowKit

theorem OwnL.read {w : World} {B C : Nat} {ao : Option Addr} {n cap : Nat} {yss : List (List Int)} (h : OwnL w B C (.slice ao n cap) yss) : SlL w ao n cap yss := by
  obtain ⟨a, c, e, hs⟩ := h.sl
  simp only [Value.slice.injEq] at e
  obtain ⟨rfl, rfl, rfl⟩ := e
  exact hs

theorem allG_ell {n k : Nat} (hk : k < (allG n).length) : (ell (allG n) k).length = n := by
  rw [ell_lt hk]
  simp only [allG, List.getElem_map, wsg_len, ordK_len]
theorem allG_tot {n : Nat} (hn : n ≤ 3) : tot (allG n) ≤ 1000000 ∧ (allG n).length ≤ 1000000 := by
  have h1 : (allG n).length ≤ 48 := by rw [allG_len]; exact (allG_small hn).2.2
  have h2 : ∀ k, k ≤ (allG n).length → pre (allG n) k ≤ k * 5 := by
    intro k
    induction k with
    | zero => intro _; simp [pre]
    | succ k ih =>
      intro hk
      have h1 := ih (by omega)
      have h2 : (ell (allG n) k).length ≤ 5 := by
        rw [allG_ell (by omega)]; omega
      rw [pre, Nat.succ_mul]; omega
  have h3 := h2 _ (Nat.le_refl _)
  refine ⟨?_, by omega⟩
  show pre (allG n) (allG n).length ≤ 1000000
  omega

set_option maxHeartbeats 2000000 in
theorem exactAllSigned (n : Int) (w : World) (_ : -9223372036854775808 ≤ n ∧ n ≤ 9223372036854775807) :
    Calls Try.prog 4 #[.int .i64 n] w (Says w (.bool true)) := by
  by_cases hn : 0 ≤ n ∧ n ≤ 3
  · obtain ⟨m, rfl⟩ := Int.eq_ofNat_of_zero_le hn.1
    have hm : m ≤ 3 := by omega
    clear hn
    have hl := (allG_tot hm).1
    have hl2 := (allG_tot hm).2
    have t0 := Below.refl w.heap.size w
    go_enter Try.func4, Try.ntmps4
    go_wp2_with fail
    refine (asgS_yes m _ hm).mono ?_
    rintro e w1 ⟨us, rfl, os, b1⟩
    have z1 := hid b1.size
    have t1 := t0.trans (b1.mono t0.size)
    have s_1 := os
    obtain ⟨ads, cps, rfl, -⟩ := os.sl
    clear os
    go_wp2_with fail
    refine (asgI_yes m _ hm).mono ?_
    rintro e w2 ⟨ug, rfl, og, b2⟩
    have z2 := hid b2.size
    have t2 := t1.trans (b2.mono t1.size)
    have s_2 := s_1.chg (Chg.of_below (lo := w1.heap.size) (hi := w1.heap.size) b2) (Or.inl (Nat.le_refl _))
    have g_2 := og
    obtain ⟨adg, cpg, rfl, -⟩ := og.sl
    clear og
    go_wp2_with fail
    refine (eqIntSS_any _ _ _ _ _ _ _ _ _ g_2.read s_2.read).mono ?_
    rintro e w3 ⟨rfl, b3⟩
    have z3 := hid b3.size
    have t3 := t2.trans (b3.mono t2.size)
    have s_3 := s_2.chg (Chg.of_below (lo := w1.heap.size) (hi := w1.heap.size) b3) (Or.inl (Nat.le_refl _))
    have g_3 := g_2.chg (Chg.of_below (lo := w2.heap.size) (hi := w2.heap.size) b3) (Or.inl (Nat.le_refl _))
    go_wp2_with fail
    refine (markIntSS_any _ _ _ _ _ (allG m) 1 _ g_3 rfl (by omega) (by omega) hl hl2).mono ?_
    rintro e w4 ⟨rfl, m4, c4⟩
    have z4 := hid c4.size
    have t4 := c4.below t3 z1.out t3.size
    have s_4 := s_3.chg c4 (Or.inl (Nat.le_refl _))
    have g_4 := m4
    go_wp2_with fail
    refine (heldIntSS_any _ _ _ (allG m) _ 1 _ g_4.read rfl (by omega) (by omega) hl hl2 (hid rfl)).mono ?_
    rintro e w5 ⟨rfl, b5⟩
    have z5 := hid b5.size
    have t5 := t4.trans (b5.mono t4.size)
    have s_5 := s_4.chg (Chg.of_below (lo := w1.heap.size) (hi := w1.heap.size) b5) (Or.inl (Nat.le_refl _))
    have g_5 := g_4.chg (Chg.of_below (lo := w2.heap.size) (hi := w2.heap.size) b5) (Or.inl (Nat.le_refl _))
    go_wp2_with fail
    refine (asgI_yes m _ hm).mono ?_
    rintro e w6 ⟨uh, rfl, oh, b6⟩
    have z6 := hid b6.size
    have t6 := t5.trans (b6.mono t5.size)
    have s_6 := s_5.chg (Chg.of_below (lo := w1.heap.size) (hi := w1.heap.size) b6) (Or.inl (Nat.le_refl _))
    have g_6 := g_5.chg (Chg.of_below (lo := w2.heap.size) (hi := w2.heap.size) b6) (Or.inl (Nat.le_refl _))
    have h_6 := oh
    obtain ⟨adh, cph, rfl, -⟩ := oh.sl
    clear oh
    go_wp2_with fail
    refine (eqIntSS_any _ _ _ _ _ _ _ _ _ h_6.read s_6.read).mono ?_
    rintro e w7 ⟨rfl, b7⟩
    have z7 := hid b7.size
    have t7 := t6.trans (b7.mono t6.size)
    have s_7 := s_6.chg (Chg.of_below (lo := w1.heap.size) (hi := w1.heap.size) b7) (Or.inl (Nat.le_refl _))
    have g_7 := g_6.chg (Chg.of_below (lo := w2.heap.size) (hi := w2.heap.size) b7) (Or.inl (Nat.le_refl _))
    have h_7 := h_6.chg (Chg.of_below (lo := w6.heap.size) (hi := w6.heap.size) b7) (Or.inl (Nat.le_refl _))
    go_wp2_with fail
    refine (heldIntSS_any _ _ _ (allG m) _ 1 _ g_7.read rfl (by omega) (by omega) hl hl2 (hid rfl)).mono ?_
    rintro e w8 ⟨rfl, b8⟩
    have z8 := hid b8.size
    have t8 := t7.trans (b8.mono t7.size)
    have s_8 := s_7.chg (Chg.of_below (lo := w1.heap.size) (hi := w1.heap.size) b8) (Or.inl (Nat.le_refl _))
    have g_8 := g_7.chg (Chg.of_below (lo := w2.heap.size) (hi := w2.heap.size) b8) (Or.inl (Nat.le_refl _))
    have h_8 := h_7.chg (Chg.of_below (lo := w6.heap.size) (hi := w6.heap.size) b8) (Or.inl (Nat.le_refl _))
    go_wp2
    go_ret
    exact ⟨rfl, t8⟩
  · have hno : n < 0 ∨ 3 < n := by omega
    have Hno := hid hno
    clear hn hno
    have hl : tot ([] : List (List Int)) ≤ 1000000 := by decide
    have hl2 : ([] : List (List Int)).length ≤ 1000000 := by decide
    have t0 := Below.refl w.heap.size w
    go_enter Try.func4, Try.ntmps4
    go_wp2_with fail
    refine (asgS_no n _ Hno.out).mono ?_
    rintro e w1 ⟨us, rfl, os, b1⟩
    have z1 := hid b1.size
    have t1 := t0.trans (b1.mono t0.size)
    have s_1 := os
    obtain ⟨ads, cps, rfl, -⟩ := os.sl
    clear os
    go_wp2_with fail
    refine (asgI_no n _ Hno.out).mono ?_
    rintro e w2 ⟨ug, rfl, og, b2⟩
    have z2 := hid b2.size
    have t2 := t1.trans (b2.mono t1.size)
    have s_2 := s_1.chg (Chg.of_below (lo := w1.heap.size) (hi := w1.heap.size) b2) (Or.inl (Nat.le_refl _))
    have g_2 := og
    obtain ⟨adg, cpg, rfl, -⟩ := og.sl
    clear og
    go_wp2_with fail
    refine (eqIntSS_any _ _ _ _ _ _ _ _ _ g_2.read s_2.read).mono ?_
    rintro e w3 ⟨rfl, b3⟩
    have z3 := hid b3.size
    have t3 := t2.trans (b3.mono t2.size)
    have s_3 := s_2.chg (Chg.of_below (lo := w1.heap.size) (hi := w1.heap.size) b3) (Or.inl (Nat.le_refl _))
    have g_3 := g_2.chg (Chg.of_below (lo := w2.heap.size) (hi := w2.heap.size) b3) (Or.inl (Nat.le_refl _))
    go_wp2_with fail
    refine (markIntSS_any _ _ _ _ _ ([] : List (List Int)) 1 _ g_3 rfl (by omega) (by omega) hl hl2).mono ?_
    rintro e w4 ⟨rfl, m4, c4⟩
    have z4 := hid c4.size
    have t4 := c4.below t3 z1.out t3.size
    have s_4 := s_3.chg c4 (Or.inl (Nat.le_refl _))
    have g_4 := m4
    go_wp2_with fail
    refine (heldIntSS_any _ _ _ ([] : List (List Int)) _ 1 _ g_4.read rfl (by omega) (by omega) hl hl2 (hid rfl)).mono ?_
    rintro e w5 ⟨rfl, b5⟩
    have z5 := hid b5.size
    have t5 := t4.trans (b5.mono t4.size)
    have s_5 := s_4.chg (Chg.of_below (lo := w1.heap.size) (hi := w1.heap.size) b5) (Or.inl (Nat.le_refl _))
    have g_5 := g_4.chg (Chg.of_below (lo := w2.heap.size) (hi := w2.heap.size) b5) (Or.inl (Nat.le_refl _))
    go_wp2_with fail
    refine (asgI_no n _ Hno.out).mono ?_
    rintro e w6 ⟨uh, rfl, oh, b6⟩
    have z6 := hid b6.size
    have t6 := t5.trans (b6.mono t5.size)
    have s_6 := s_5.chg (Chg.of_below (lo := w1.heap.size) (hi := w1.heap.size) b6) (Or.inl (Nat.le_refl _))
    have g_6 := g_5.chg (Chg.of_below (lo := w2.heap.size) (hi := w2.heap.size) b6) (Or.inl (Nat.le_refl _))
    have h_6 := oh
    obtain ⟨adh, cph, rfl, -⟩ := oh.sl
    clear oh
    go_wp2_with fail
    refine (eqIntSS_any _ _ _ _ _ _ _ _ _ h_6.read s_6.read).mono ?_
    rintro e w7 ⟨rfl, b7⟩
    have z7 := hid b7.size
    have t7 := t6.trans (b7.mono t6.size)
    have s_7 := s_6.chg (Chg.of_below (lo := w1.heap.size) (hi := w1.heap.size) b7) (Or.inl (Nat.le_refl _))
    have g_7 := g_6.chg (Chg.of_below (lo := w2.heap.size) (hi := w2.heap.size) b7) (Or.inl (Nat.le_refl _))
    have h_7 := h_6.chg (Chg.of_below (lo := w6.heap.size) (hi := w6.heap.size) b7) (Or.inl (Nat.le_refl _))
    go_wp2_with fail
    refine (heldIntSS_any _ _ _ ([] : List (List Int)) _ 1 _ g_7.read rfl (by omega) (by omega) hl hl2 (hid rfl)).mono ?_
    rintro e w8 ⟨rfl, b8⟩
    have z8 := hid b8.size
    have t8 := t7.trans (b8.mono t7.size)
    have s_8 := s_7.chg (Chg.of_below (lo := w1.heap.size) (hi := w1.heap.size) b8) (Or.inl (Nat.le_refl _))
    have g_8 := g_7.chg (Chg.of_below (lo := w2.heap.size) (hi := w2.heap.size) b8) (Or.inl (Nat.le_refl _))
    have h_8 := h_7.chg (Chg.of_below (lo := w6.heap.size) (hi := w6.heap.size) b8) (Or.inl (Nat.le_refl _))
    go_wp2
    go_ret
    exact ⟨rfl, t8⟩

end Go.Proofs.Ytjgaglfinpeeoac
