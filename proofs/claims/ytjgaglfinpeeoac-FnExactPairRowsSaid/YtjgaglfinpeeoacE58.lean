/- The walk of the exact law of PairRows. Condition of the law's own: at most 2^20 bytes. -/
import Derived.Test.YtjgaglfinpeeoacPrt
import Derived.Test.YtjgaglfinpeeoacF56
import Derived.Test.YtjgaglfinpeeoacCopyL
namespace Go.Proofs.Ytjgaglfinpeeoac
open Go.RowKit

theorem OwnL.readE {w : World} {B C : Nat} {ao : Option Addr} {n cap : Nat} {yss : List (List Int)} (h : OwnL w B C (.slice ao n cap) yss) : SlL w ao n cap yss := by
  obtain ⟨a, c, e, hs⟩ := h.sl
  simp only [Value.slice.injEq] at e
  obtain ⟨rfl, rfl, rfl⟩ := e
  exact hs
theorem prow_tot {a b m : Nat} (ha : a < 9) (hb : b < 9) (hm : m ≤ 5) : tot (prow a b m) ≤ 1000000 ∧ (prow a b m).length ≤ 1000000 := by
  have h1 : (prow a b m).length ≤ 20 := by rw [prow_len]; exact mxN_20 ha hm
  have hM := mxN_20 hb hm
  have h2 : ∀ k, k ≤ (prow a b m).length → pre (prow a b m) k ≤ k * 20 := by
    intro k
    induction k with
    | zero => intro _; simp [pre]
    | succ k ih =>
      intro hk
      have h1 := ih (by omega)
      have h2 : (ell (prow a b m) k).length ≤ 20 := by
        rw [prow_rows (by rw [← prow_len a b m]; omega)]; exact hM
      rw [pre, Nat.succ_mul]; omega
  have h3 := h2 _ (Nat.le_refl _)
  refine ⟨?_, by omega⟩
  show pre (prow a b m) (prow a b m).length ≤ 1000000
  omega

set_option maxRecDepth 20000 in
set_option maxHeartbeats 4000000 in
theorem exactPair_true (s t : ByteArray) (n : Int) (R : List (List Int)) (w : World) (hs : s.size ≤ 1048576) (ht : t.size ≤ 1048576) (hl : tot R ≤ 1000000) (hl2 : R.length ≤ 1000000)
    (HS : Hid (∀ w : World, Calls Try.prog 33 #[.string s, .string t, .int .i64 n] w (MadeL2 w R true)))
    (HI : Hid (∀ w : World, Calls Try.prog 32 #[.string s, .string t, .int .i64 n] w (MadeL2 w R true))) :
    Calls Try.prog 8 #[.string s, .string t, .int .i64 n] w (Says w (.bool true)) := by
  have hs9 : s.size ≤ 9223372036854775807 := by omega
  have ht9 : t.size ≤ 9223372036854775807 := by omega
  have t0 := Below.refl w.heap.size w
  go_enter Try.func8, Try.ntmps8
  go_wp2_with fail
  refine (HS.out _).mono ?_
  rintro e w1 ⟨us, rfl, os, b1⟩
  have z1 := hid b1.size
  have t1 := t0.trans (b1.mono t0.size)
  have s_1 := os
  obtain ⟨ads, cps, rfl, -⟩ := os.sl
  clear os
  go_wp2_with fail
  refine (HI.out _).mono ?_
  rintro e w2 ⟨ug, rfl, og, b2⟩
  have z2 := hid b2.size
  have t2 := t1.trans (b2.mono t1.size)
  have s_2 := s_1.chg (Chg.of_below (lo := w1.heap.size) (hi := w1.heap.size) b2) (Or.inl (Nat.le_refl _))
  have g_2 := og
  obtain ⟨adg, cpg, rfl, -⟩ := og.sl
  clear og
  go_wp2_with fail
  refine (eqIntSS_any _ _ _ _ _ _ _ _ _ g_2.readE s_2.readE).mono ?_
  rintro e w3 ⟨rfl, b3⟩
  have z3 := hid b3.size
  have t3 := t2.trans (b3.mono t2.size)
  have s_3 := s_2.chg (Chg.of_below (lo := w1.heap.size) (hi := w1.heap.size) b3) (Or.inl (Nat.le_refl _))
  have g_3 := g_2.chg (Chg.of_below (lo := w2.heap.size) (hi := w2.heap.size) b3) (Or.inl (Nat.le_refl _))
  go_wp2_with fail
  refine (markIntSS_any _ _ _ _ _ R 1 _ g_3 rfl (by omega) (by omega) hl hl2).mono ?_
  rintro e w4 ⟨rfl, m4, c4⟩
  have z4 := hid c4.size
  have t4 := c4.below t3 z1.out t3.size
  have s_4 := s_3.chg c4 (Or.inl (Nat.le_refl _))
  have g_4 := m4
  go_wp2_with fail
  refine (heldIntSS_any _ _ _ R _ 1 _ g_4.readE rfl (by omega) (by omega) hl hl2 (hid rfl)).mono ?_
  rintro e w5 ⟨rfl, b5⟩
  have z5 := hid b5.size
  have t5 := t4.trans (b5.mono t4.size)
  have s_5 := s_4.chg (Chg.of_below (lo := w1.heap.size) (hi := w1.heap.size) b5) (Or.inl (Nat.le_refl _))
  have g_5 := g_4.chg (Chg.of_below (lo := w2.heap.size) (hi := w2.heap.size) b5) (Or.inl (Nat.le_refl _))
  go_wp2_with fail
  refine (HI.out _).mono ?_
  rintro e w6 ⟨uh, rfl, oh, b6⟩
  have z6 := hid b6.size
  have t6 := t5.trans (b6.mono t5.size)
  have s_6 := s_5.chg (Chg.of_below (lo := w1.heap.size) (hi := w1.heap.size) b6) (Or.inl (Nat.le_refl _))
  have g_6 := g_5.chg (Chg.of_below (lo := w2.heap.size) (hi := w2.heap.size) b6) (Or.inl (Nat.le_refl _))
  have h_6 := oh
  obtain ⟨adh, cph, rfl, -⟩ := oh.sl
  clear oh
  go_wp2_with fail
  refine (eqIntSS_any _ _ _ _ _ _ _ _ _ h_6.readE s_6.readE).mono ?_
  rintro e w7 ⟨rfl, b7⟩
  have z7 := hid b7.size
  have t7 := t6.trans (b7.mono t6.size)
  have s_7 := s_6.chg (Chg.of_below (lo := w1.heap.size) (hi := w1.heap.size) b7) (Or.inl (Nat.le_refl _))
  have g_7 := g_6.chg (Chg.of_below (lo := w2.heap.size) (hi := w2.heap.size) b7) (Or.inl (Nat.le_refl _))
  have h_7 := h_6.chg (Chg.of_below (lo := w6.heap.size) (hi := w6.heap.size) b7) (Or.inl (Nat.le_refl _))
  go_wp2_with fail
  refine (heldIntSS_any _ _ _ R _ 1 _ g_7.readE rfl (by omega) (by omega) hl hl2 (hid rfl)).mono ?_
  rintro e w8 ⟨rfl, b8⟩
  have z8 := hid b8.size
  have t8 := t7.trans (b8.mono t7.size)
  have s_8 := s_7.chg (Chg.of_below (lo := w1.heap.size) (hi := w1.heap.size) b8) (Or.inl (Nat.le_refl _))
  have g_8 := g_7.chg (Chg.of_below (lo := w2.heap.size) (hi := w2.heap.size) b8) (Or.inl (Nat.le_refl _))
  have h_8 := h_7.chg (Chg.of_below (lo := w6.heap.size) (hi := w6.heap.size) b8) (Or.inl (Nat.le_refl _))
  go_wp2
  go_ret
  exact ⟨rfl, t8⟩

set_option maxRecDepth 20000 in
set_option maxHeartbeats 4000000 in
theorem exactPair_false (s t : ByteArray) (n : Int) (R : List (List Int)) (w : World) (hs : s.size ≤ 1048576) (ht : t.size ≤ 1048576) (hl : tot R ≤ 1000000) (hl2 : R.length ≤ 1000000)
    (HS : Hid (∀ w : World, Calls Try.prog 33 #[.string s, .string t, .int .i64 n] w (MadeL2 w R false)))
    (HI : Hid (∀ w : World, Calls Try.prog 32 #[.string s, .string t, .int .i64 n] w (MadeL2 w R false))) :
    Calls Try.prog 8 #[.string s, .string t, .int .i64 n] w (Says w (.bool true)) := by
  have hs9 : s.size ≤ 9223372036854775807 := by omega
  have ht9 : t.size ≤ 9223372036854775807 := by omega
  have t0 := Below.refl w.heap.size w
  go_enter Try.func8, Try.ntmps8
  go_wp2_with fail
  refine (HS.out _).mono ?_
  rintro e w1 ⟨us, rfl, os, b1⟩
  have z1 := hid b1.size
  have t1 := t0.trans (b1.mono t0.size)
  have s_1 := os
  obtain ⟨ads, cps, rfl, -⟩ := os.sl
  clear os
  go_wp2_with fail
  refine (HI.out _).mono ?_
  rintro e w2 ⟨ug, rfl, og, b2⟩
  have z2 := hid b2.size
  have t2 := t1.trans (b2.mono t1.size)
  have s_2 := s_1.chg (Chg.of_below (lo := w1.heap.size) (hi := w1.heap.size) b2) (Or.inl (Nat.le_refl _))
  have g_2 := og
  obtain ⟨adg, cpg, rfl, -⟩ := og.sl
  clear og
  go_wp2_with fail
  refine (eqIntSS_any _ _ _ _ _ _ _ _ _ g_2.readE s_2.readE).mono ?_
  rintro e w3 ⟨rfl, b3⟩
  have z3 := hid b3.size
  have t3 := t2.trans (b3.mono t2.size)
  have s_3 := s_2.chg (Chg.of_below (lo := w1.heap.size) (hi := w1.heap.size) b3) (Or.inl (Nat.le_refl _))
  have g_3 := g_2.chg (Chg.of_below (lo := w2.heap.size) (hi := w2.heap.size) b3) (Or.inl (Nat.le_refl _))
  go_wp2_with fail
  refine (markIntSS_any _ _ _ _ _ R 1 _ g_3 rfl (by omega) (by omega) hl hl2).mono ?_
  rintro e w4 ⟨rfl, m4, c4⟩
  have z4 := hid c4.size
  have t4 := c4.below t3 z1.out t3.size
  have s_4 := s_3.chg c4 (Or.inl (Nat.le_refl _))
  have g_4 := m4
  go_wp2_with fail
  refine (heldIntSS_any _ _ _ R _ 1 _ g_4.readE rfl (by omega) (by omega) hl hl2 (hid rfl)).mono ?_
  rintro e w5 ⟨rfl, b5⟩
  have z5 := hid b5.size
  have t5 := t4.trans (b5.mono t4.size)
  have s_5 := s_4.chg (Chg.of_below (lo := w1.heap.size) (hi := w1.heap.size) b5) (Or.inl (Nat.le_refl _))
  have g_5 := g_4.chg (Chg.of_below (lo := w2.heap.size) (hi := w2.heap.size) b5) (Or.inl (Nat.le_refl _))
  go_wp2_with fail
  refine (HI.out _).mono ?_
  rintro e w6 ⟨uh, rfl, oh, b6⟩
  have z6 := hid b6.size
  have t6 := t5.trans (b6.mono t5.size)
  have s_6 := s_5.chg (Chg.of_below (lo := w1.heap.size) (hi := w1.heap.size) b6) (Or.inl (Nat.le_refl _))
  have g_6 := g_5.chg (Chg.of_below (lo := w2.heap.size) (hi := w2.heap.size) b6) (Or.inl (Nat.le_refl _))
  have h_6 := oh
  obtain ⟨adh, cph, rfl, -⟩ := oh.sl
  clear oh
  go_wp2_with fail
  refine (eqIntSS_any _ _ _ _ _ _ _ _ _ h_6.readE s_6.readE).mono ?_
  rintro e w7 ⟨rfl, b7⟩
  have z7 := hid b7.size
  have t7 := t6.trans (b7.mono t6.size)
  have s_7 := s_6.chg (Chg.of_below (lo := w1.heap.size) (hi := w1.heap.size) b7) (Or.inl (Nat.le_refl _))
  have g_7 := g_6.chg (Chg.of_below (lo := w2.heap.size) (hi := w2.heap.size) b7) (Or.inl (Nat.le_refl _))
  have h_7 := h_6.chg (Chg.of_below (lo := w6.heap.size) (hi := w6.heap.size) b7) (Or.inl (Nat.le_refl _))
  go_wp2_with fail
  refine (heldIntSS_any _ _ _ R _ 1 _ g_7.readE rfl (by omega) (by omega) hl hl2 (hid rfl)).mono ?_
  rintro e w8 ⟨rfl, b8⟩
  have z8 := hid b8.size
  have t8 := t7.trans (b8.mono t7.size)
  have s_8 := s_7.chg (Chg.of_below (lo := w1.heap.size) (hi := w1.heap.size) b8) (Or.inl (Nat.le_refl _))
  have g_8 := g_7.chg (Chg.of_below (lo := w2.heap.size) (hi := w2.heap.size) b8) (Or.inl (Nat.le_refl _))
  have h_8 := h_7.chg (Chg.of_below (lo := w6.heap.size) (hi := w6.heap.size) b8) (Or.inl (Nat.le_refl _))
  go_wp2
  go_ret
  exact ⟨rfl, t8⟩

set_option maxHeartbeats 1000000 in
theorem exactPairRows (s t : ByteArray) (n : Int) (w : World) (hms : s.size ≤ maxLen) (hmt : t.size ≤ maxLen) (_ : -9223372036854775808 ≤ n ∧ n ≤ 9223372036854775807) :
    Calls Try.prog 8 #[.string s, .string t, .int .i64 n] w (Says w (.bool true)) := by
  have hs9 : s.size ≤ 9223372036854775807 := by unfold maxLen at hms; omega
  have ht9 : t.size ≤ 9223372036854775807 := by unfold maxLen at hmt; omega
  by_cases hs : s.size ≤ 1048576
  · by_cases ht : t.size ≤ 1048576
    · by_cases hok : ixOf s < 9 ∧ ixOf t < 9 ∧ 0 ≤ n ∧ n ≤ 5
      · obtain ⟨m, rfl⟩ := Int.eq_ofNat_of_zero_le hok.2.2.1
        have hm : m ≤ 5 := by omega
        have hl := prow_tot hok.1 hok.2.1 hm
        exact exactPair_true s t m _ w hs ht hl.1 hl.2 (hid fun w => prtS_yes s t _ _ m w rfl rfl hok.1 hok.2.1 hm) (hid fun w => priI_yes s t _ _ m w rfl rfl hok.1 hok.2.1 hm)
      · exact exactPair_false s t n [] w hs ht (by simp [tot, pre]) (by simp) (hid fun w => prtS_no s t n w hok) (hid fun w => priI_no s t n w hok)
    · go_enter Try.func8, Try.ntmps8
      go_wp2
      go_ret
      exact ⟨rfl, Below.refl _ _⟩
  · go_enter Try.func8, Try.ntmps8
    go_wp2
    go_ret
    exact ⟨rfl, Below.refl _ _⟩

end Go.Proofs.Ytjgaglfinpeeoac
