/- The walk of the exact law of ParseSigned. Condition of the law's own: at most 2^20 bytes. -/
import Derived.Test.YtjgaglfinpeeoabPgt
import Derived.Test.YtjgaglfinpeeoabCopy
namespace Go.Proofs.Ytjgaglfinpeeoab
open Go.RowKit

theorem outX_len (vs : List Int) : (outX vs).length ≤ 5 := by
  unfold outX
  cases tok vs with
  | none => simp
  | some w =>
    show (if SV w then w else []).length ≤ 5
    split
    · rename_i h; exact h.len
    · simp

set_option maxHeartbeats 4000000 in
theorem exactParseSigned (s : ByteArray) (w : World) (hmax : s.size ≤ maxLen) :
    Calls Try.prog 7 #[.string s] w (Says w (.bool true)) := by
  have hbig : s.size ≤ 9223372036854775807 := by unfold maxLen at hmax; omega
  by_cases hs : s.size ≤ 1048576
  · have hl : (outX (prs s)).length ≤ 2000000 := by
      have := outX_len (prs s); omega
    have t0 := Below.refl w.heap.size w
    go_enter Try.func7, Try.ntmps7
    go_wp2_with fail
    refine (pgsS_any s _ hs).mono ?_
    rintro e w1 ⟨us, rfl, s_1, b1⟩
    have t1 := t0.trans (b1.mono t0.size)
    obtain ⟨ads, cps, rfl, -⟩ := s_1.sl
    go_wp2_with fail
    refine (pgsI_any s _ hs).mono ?_
    rintro e w2 ⟨ug, rfl, g_2, b2⟩
    have t2 := t1.trans (b2.mono t1.size)
    have s_2 := s_1.below (Nat.le_refl _) b2
    obtain ⟨adg, cpg, rfl, -⟩ := g_2.sl
    go_wp2_with fail
    refine (eqIntS_any _ _ _ _ _ _ _ _ _ g_2.read s_2.read).mono ?_
    rintro e w3 ⟨rfl, b3⟩
    have t3 := t2.trans (b3.mono t2.size)
    have s_3 := s_2.below (Nat.le_refl _) b3
    have g_3 := g_2.below (Nat.le_refl _) b3
    go_wp2_with fail
    refine (markIntS_any _ _ _ 1 _ g_3 (by omega) (by omega) hl).mono ?_
    rintro e w4 ⟨rfl, g_4, g4⟩
    have b4 : Below w.heap.size w3 w4 := below_of_grown g4 t3.size (fun k hk => Nat.le_trans t1.size (g_2.blocks k hk).1)
    have t4 := t3.trans b4
    have s_4 := s_3.kept g4 (s_1.apart g_2 (Nat.le_refl _))
    go_wp2_with fail
    refine (heldIntS_any _ _ _ _ 1 _ g_4.read (by omega) (by omega) hl (hid rfl)).mono ?_
    rintro e w5 ⟨rfl, b5⟩
    have t5 := t4.trans (b5.mono t4.size)
    have s_5 := s_4.below (Nat.le_refl _) b5
    have g_5 := g_4.below (Nat.le_refl _) b5
    go_wp2_with fail
    refine (pgsI_any s _ hs).mono ?_
    rintro e w6 ⟨uh, rfl, h_6, b6⟩
    have t6 := t5.trans (b6.mono t5.size)
    have s_6 := s_5.below (Nat.le_refl _) b6
    have g_6 := g_5.below (Nat.le_refl _) b6
    obtain ⟨adh, cph, rfl, -⟩ := h_6.sl
    go_wp2_with fail
    refine (eqIntS_any _ _ _ _ _ _ _ _ _ h_6.read s_6.read).mono ?_
    rintro e w7 ⟨rfl, b7⟩
    have t7 := t6.trans (b7.mono t6.size)
    have s_7 := s_6.below (Nat.le_refl _) b7
    have g_7 := g_6.below (Nat.le_refl _) b7
    have h_7 := h_6.below (Nat.le_refl _) b7
    go_wp2_with fail
    refine (heldIntS_any _ _ _ _ 1 _ g_7.read (by omega) (by omega) hl (hid rfl)).mono ?_
    rintro e w8 ⟨rfl, b8⟩
    have t8 := t7.trans (b8.mono t7.size)
    have s_8 := s_7.below (Nat.le_refl _) b8
    have g_8 := g_7.below (Nat.le_refl _) b8
    have h_8 := h_7.below (Nat.le_refl _) b8
    go_wp2
    go_ret
    exact ⟨rfl, t8⟩
  · go_enter Try.func7, Try.ntmps7
    go_wp2
    go_ret
    exact ⟨rfl, Below.refl _ _⟩

end Go.Proofs.Ytjgaglfinpeeoab
