/- The walk of the exact law of SignedRow. Condition of the law's own: at most 2^20 bytes. -/
import Derived.Test.YtjgaglfinpeeoacSgR
import Derived.Test.YtjgaglfinpeeoacCopy
namespace Go.Proofs.Ytjgaglfinpeeoac
open Go.RowKit

set_option maxRecDepth 20000 in
set_option maxHeartbeats 4000000 in
theorem exactSignedRow_true (s : ByteArray) (n : Int) (l : List Int) (w : World) (hmx : s.size ≤ 9223372036854775807) (hs : s.size ≤ 1048576) (hl : l.length ≤ 2000000)
    (HS : Hid (∀ w : World, Calls Try.prog 23 #[.string s, .int .i64 n] w (Made2 w l true)))
    (HI : Hid (∀ w : World, Calls Try.prog 22 #[.string s, .int .i64 n] w (Made2 w l true))) :
    Calls Try.prog 6 #[.string s, .int .i64 n] w (Says w (.bool true)) := by
  have t0 := Below.refl w.heap.size w
  go_enter Try.func6, Try.ntmps6
  go_wp2_with fail
  refine (HS.out _).mono ?_
  rintro e w1 ⟨us, rfl, s_1, b1⟩
  have t1 := t0.trans (b1.mono t0.size)
  obtain ⟨ads, cps, rfl, -⟩ := s_1.sl
  go_wp2_with fail
  refine (HI.out _).mono ?_
  rintro e w2 ⟨ug, rfl, g_2, b2⟩
  have t2 := t1.trans (b2.mono t1.size)
  have s_2 := s_1.below (Nat.le_refl _) b2
  obtain ⟨adg, cpg, rfl, -⟩ := g_2.sl
  go_wp2_with fail
  refine (eqIntS_any _ _ _ _ _ _ _ _ _ g_2.read s_2.read).mono ?_
  rintro e w3 ⟨rfl, b3⟩
  have t3 := t2.trans (b3.mono t2.size)
  have s_3 := s_2.below (Nat.le_refl _) b3
  have g_3 := g_2.below (Nat.le_refl _) b3
  go_wp2_with fail
  refine (markIntS_any _ _ _ 1 _ g_3 (by omega) (by omega) hl).mono ?_
  rintro e w4 ⟨rfl, g_4, g4⟩
  have b4 : Below w.heap.size w3 w4 := below_of_grown g4 t3.size (fun k hk => Nat.le_trans t1.size (g_2.blocks k hk).1)
  have t4 := t3.trans b4
  have s_4 := s_3.kept g4 (s_1.apart g_2 (Nat.le_refl _))
  go_wp2_with fail
  refine (heldIntS_any _ _ _ _ 1 _ g_4.read (by omega) (by omega) hl (hid rfl)).mono ?_
  rintro e w5 ⟨rfl, b5⟩
  have t5 := t4.trans (b5.mono t4.size)
  have s_5 := s_4.below (Nat.le_refl _) b5
  have g_5 := g_4.below (Nat.le_refl _) b5
  go_wp2_with fail
  refine (HI.out _).mono ?_
  rintro e w6 ⟨uh, rfl, h_6, b6⟩
  have t6 := t5.trans (b6.mono t5.size)
  have s_6 := s_5.below (Nat.le_refl _) b6
  have g_6 := g_5.below (Nat.le_refl _) b6
  obtain ⟨adh, cph, rfl, -⟩ := h_6.sl
  go_wp2_with fail
  refine (eqIntS_any _ _ _ _ _ _ _ _ _ h_6.read s_6.read).mono ?_
  rintro e w7 ⟨rfl, b7⟩
  have t7 := t6.trans (b7.mono t6.size)
  have s_7 := s_6.below (Nat.le_refl _) b7
  have g_7 := g_6.below (Nat.le_refl _) b7
  have h_7 := h_6.below (Nat.le_refl _) b7
  go_wp2_with fail
  refine (heldIntS_any _ _ _ _ 1 _ g_7.read (by omega) (by omega) hl (hid rfl)).mono ?_
  rintro e w8 ⟨rfl, b8⟩
  have t8 := t7.trans (b8.mono t7.size)
  have s_8 := s_7.below (Nat.le_refl _) b8
  have g_8 := g_7.below (Nat.le_refl _) b8
  have h_8 := h_7.below (Nat.le_refl _) b8
  go_wp2
  go_ret
  exact ⟨rfl, t8⟩

set_option maxRecDepth 20000 in
set_option maxHeartbeats 4000000 in
theorem exactSignedRow_false (s : ByteArray) (n : Int) (l : List Int) (w : World) (hmx : s.size ≤ 9223372036854775807) (hs : s.size ≤ 1048576) (hl : l.length ≤ 2000000)
    (HS : Hid (∀ w : World, Calls Try.prog 23 #[.string s, .int .i64 n] w (Made2 w l false)))
    (HI : Hid (∀ w : World, Calls Try.prog 22 #[.string s, .int .i64 n] w (Made2 w l false))) :
    Calls Try.prog 6 #[.string s, .int .i64 n] w (Says w (.bool true)) := by
  have t0 := Below.refl w.heap.size w
  go_enter Try.func6, Try.ntmps6
  go_wp2_with fail
  refine (HS.out _).mono ?_
  rintro e w1 ⟨us, rfl, s_1, b1⟩
  have t1 := t0.trans (b1.mono t0.size)
  obtain ⟨ads, cps, rfl, -⟩ := s_1.sl
  go_wp2_with fail
  refine (HI.out _).mono ?_
  rintro e w2 ⟨ug, rfl, g_2, b2⟩
  have t2 := t1.trans (b2.mono t1.size)
  have s_2 := s_1.below (Nat.le_refl _) b2
  obtain ⟨adg, cpg, rfl, -⟩ := g_2.sl
  go_wp2_with fail
  refine (eqIntS_any _ _ _ _ _ _ _ _ _ g_2.read s_2.read).mono ?_
  rintro e w3 ⟨rfl, b3⟩
  have t3 := t2.trans (b3.mono t2.size)
  have s_3 := s_2.below (Nat.le_refl _) b3
  have g_3 := g_2.below (Nat.le_refl _) b3
  go_wp2_with fail
  refine (markIntS_any _ _ _ 1 _ g_3 (by omega) (by omega) hl).mono ?_
  rintro e w4 ⟨rfl, g_4, g4⟩
  have b4 : Below w.heap.size w3 w4 := below_of_grown g4 t3.size (fun k hk => Nat.le_trans t1.size (g_2.blocks k hk).1)
  have t4 := t3.trans b4
  have s_4 := s_3.kept g4 (s_1.apart g_2 (Nat.le_refl _))
  go_wp2_with fail
  refine (heldIntS_any _ _ _ _ 1 _ g_4.read (by omega) (by omega) hl (hid rfl)).mono ?_
  rintro e w5 ⟨rfl, b5⟩
  have t5 := t4.trans (b5.mono t4.size)
  have s_5 := s_4.below (Nat.le_refl _) b5
  have g_5 := g_4.below (Nat.le_refl _) b5
  go_wp2_with fail
  refine (HI.out _).mono ?_
  rintro e w6 ⟨uh, rfl, h_6, b6⟩
  have t6 := t5.trans (b6.mono t5.size)
  have s_6 := s_5.below (Nat.le_refl _) b6
  have g_6 := g_5.below (Nat.le_refl _) b6
  obtain ⟨adh, cph, rfl, -⟩ := h_6.sl
  go_wp2_with fail
  refine (eqIntS_any _ _ _ _ _ _ _ _ _ h_6.read s_6.read).mono ?_
  rintro e w7 ⟨rfl, b7⟩
  have t7 := t6.trans (b7.mono t6.size)
  have s_7 := s_6.below (Nat.le_refl _) b7
  have g_7 := g_6.below (Nat.le_refl _) b7
  have h_7 := h_6.below (Nat.le_refl _) b7
  go_wp2_with fail
  refine (heldIntS_any _ _ _ _ 1 _ g_7.read (by omega) (by omega) hl (hid rfl)).mono ?_
  rintro e w8 ⟨rfl, b8⟩
  have t8 := t7.trans (b8.mono t7.size)
  have s_8 := s_7.below (Nat.le_refl _) b8
  have g_8 := g_7.below (Nat.le_refl _) b8
  have h_8 := h_7.below (Nat.le_refl _) b8
  go_wp2
  go_ret
  exact ⟨rfl, t8⟩

theorem exactSignedRow (s : ByteArray) (n : Int) (w : World) (hmax : s.size ≤ maxLen) (_ : -9223372036854775808 ≤ n ∧ n ≤ 9223372036854775807) :
    Calls Try.prog 6 #[.string s, .int .i64 n] w (Says w (.bool true)) := by
  have hmx : s.size ≤ 9223372036854775807 := by unfold maxLen at hmax; omega
  clear hmax
  by_cases hs : s.size ≤ 1048576
  · by_cases hok : ixG s < 4 ∧ 0 ≤ n ∧ n ≤ 3
    · obtain ⟨m, rfl⟩ := Int.eq_ofNat_of_zero_le hok.2.1
      have hm : m ≤ 3 := by omega
      have hl : (tal (numG (ixG s) m)).length ≤ 2000000 := by have := mxK_le (numG_bd hok.1 hm) (numG (ixG s) m).length; rw [tal_len]; omega
      exact exactSignedRow_true s _ _ w hmx hs hl (hid fun w => sgRS_yes s _ m w rfl hok.1 hm) (hid fun w => sgRI_yes s _ m w rfl hok.1 hm)
    · exact exactSignedRow_false s _ [] w hmx hs (by decide) (hid fun w => sgRS_no s n w hok) (hid fun w => sgRI_no s n w hok)
  · go_enter Try.func6, Try.ntmps6
    go_wp2
    go_ret
    exact ⟨rfl, Below.refl _ _⟩

end Go.Proofs.Ytjgaglfinpeeoac
