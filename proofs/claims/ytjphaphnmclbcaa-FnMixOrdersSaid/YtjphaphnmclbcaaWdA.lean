/- AllWords and WordRow of the model, alone. Condition: at most 2^20 numbers. -/
import Derived.Test.YtjphaphnmclbcaaBne
import Derived.Test.YtjphaphnmclbcaaWrT
import Derived.Test.YtjphaphnmclbcaaCwd
import Derived.Test.YtjphaphnmclbcaaDen
import Derived.Test.YtjphaphnmclbcaaBnd
import Derived.Test.YtjphaphnmclbcaaTalG
namespace Go.Proofs.Ytjphaphnmclbcaa
open Go Go.RowKit

theorem awL_yes {c : List Int} (h : VC c) (h5 : sumL c ≤ 5) : awL c = wordsL c := if_pos ⟨h, h5⟩
theorem awL_no {c : List Int} (h : ¬ (VC c ∧ sumL c ≤ 5)) : awL c = [] := if_neg h
def chkW (c : List Int) : Bool := (awL c).all (fun x => decide (VW x)) && decide ((awL c).length ≤ 1000) && (decide (0 < (awL c).length) || decide (5 < sumL c))
theorem chkW_all {c : List Int} (h : VC c) : chkW c = true := vc_all chkW (by decide +kernel) c h
theorem awL_vw {c : List Int} : ∀ x ∈ awL c, VW x := fun x hx => by
  by_cases h : VC c
  · have h1 := chkW_all h
    simp only [chkW, Bool.and_eq_true, List.all_eq_true, decide_eq_true_eq] at h1
    exact h1.1.1 x hx
  · rw [awL_no (fun k => h k.1)] at hx
    simp at hx
theorem awL_len {c : List Int} : (awL c).length ≤ 1000 := by
  by_cases h : VC c
  · have h1 := chkW_all h
    simp only [chkW, Bool.and_eq_true, List.all_eq_true, decide_eq_true_eq] at h1
    exact h1.1.2
  · rw [awL_no (fun k => h k.1)]
    simp
theorem awL_pos {c : List Int} (h : VC c) (h5 : sumL c ≤ 5) : 0 < (awL c).length := by
  have h1 := chkW_all h
  simp only [chkW, Bool.and_eq_true, Bool.or_eq_true, List.all_eq_true, decide_eq_true_eq] at h1
  rcases h1.2 with h | h
  · exact h
  · omega

set_option maxHeartbeats 1000000 in
theorem awS_any (ao : Option Addr) (n cap : Nat) (xs : List Int) (w : World) (h : Sl w ao n cap xs) (hn : n ≤ 1048576) :
    Calls Try.prog 38 #[.slice ao n cap] w (MadeL w (awL xs)) := by
  by_cases hv : VC xs
  · have hn4 : n = 4 := by rw [← h.len]; exact hv.len
    subst hn4
    obtain ⟨l0, l1, l2, l3, hx, h7, hsum⟩ := hv.nat
    have hbd : Hid (∀ j, j < xs.length → 0 ≤ el xs j ∧ el xs j ≤ (1000 : Nat)) := hid fun j hj => by have := hv.one (show j < 4 by have := hv.len; omega); omega
    have hxs : xs = ofN [l0, l1, l2, l3] := hx
    obtain ⟨T, hT⟩ : ∃ T, T = l0 + l1 + l2 + l3 := ⟨_, rfl⟩
    rw [← hT] at hsum h7
    have hwl : awL xs = if T ≤ 5 then wgo T [] [l0, l1, l2, l3] else [] := by
      by_cases h5 : T ≤ 5
      · rw [if_pos h5, awL_yes hv (by omega), wordsL, hx]
        simp only [List.map_cons, List.map_nil, Int.toNat_natCast]
        rw [hT]
        simp [List.sum_cons, Nat.add_assoc]
      · rw [if_neg h5, awL_no (fun k => by have := k.2; omega)]
    rw [hwl]
    have Hv := hid hv
    have Hxs := hid hxs
    have HT := hid hT
    have Hsum := hid hsum
    have hl : Hid (Sl w ao 4 cap xs) := hid h
    clear hwl hT hxs hx hv hsum
    by_cases h5 : T ≤ 5
    · rw [if_pos h5]
      have h5i : ¬ (5 : Int) < T := by omega
      clear h5
      go_enter Try.func38, Try.ntmps38
      go_wp2_with fail
      refine (says_tob (vcS_any _ _ _ xs _ h hn) (decide_eq_true Hv.out)).mono ?_
      rintro e w1 ⟨rfl, b1⟩
      go_wp2_with fail
      refine (says_to (sum_any _ _ _ xs _ (h.later b1) (by omega) hbd) Hsum.out).mono ?_
      rintro e w2 ⟨rfl, b2⟩
      have h2 := (h.later b1).later b2
      rw [Hxs.out] at h2
      have hlit := own_lit w2
      have h3 := h2.later ((Below.refl w2.heap.size w2).alloc (Nat.le_refl _) (.cells #[] 3))
      go_wp2_with fail
      refine (words_any T [] [l0, l1, l2, l3] _ 0 0 _ cap _ hlit.read (fun e => by cases e) h3 rfl (by rw [HT.out]; simp [List.sum_cons, Nat.add_assoc]) h7 (by omega)).mono ?_
      rintro e w4 ⟨u, rfl, o4, b4⟩
      have b42 : Below w2.heap.size w2 w4 := ((Below.refl _ _).alloc (Nat.le_refl _) _).trans (b4.mono (by rw [World.size_alloc]; exact Nat.le_succ _))
      obtain ⟨a4, c4, rfl, -⟩ := o4.sl
      have hsz := b1.size
      have hsz2 := b2.size
      have b14 := b1.trans ((b2.trans (b42.mono hsz2)).mono hsz)
      have o4' := o4.mono (show w.heap.size ≤ (w2.alloc (.cells #[] 3)).heap.size by rw [World.size_alloc]; omega)
      clear o4 b42 b4
      go_wp2
      go_ret
      exact ⟨_, rfl, o4', b14⟩
    · rw [if_neg h5]
      have h5i : (5 : Int) < T := by omega
      clear h5
      go_enter Try.func38, Try.ntmps38
      go_wp2_with fail
      refine (says_tob (vcS_any _ _ _ xs _ h hn) (decide_eq_true Hv.out)).mono ?_
      rintro e w1 ⟨rfl, b1⟩
      go_wp2_with fail
      refine (says_to (sum_any _ _ _ xs _ (h.later b1) (by omega) hbd) Hsum.out).mono ?_
      rintro e w2 ⟨rfl, b2⟩
      go_wp2
      go_ret
      have b12 := b1.trans (b2.mono b1.size)
      exact ⟨_, rfl, (OwnL.nil b12.size).now, b12⟩
  · rw [awL_no (fun k => hv k.1)]
    have Hv := hid hv
    clear hv
    go_enter Try.func38, Try.ntmps38
    go_wp2_with fail
    refine (says_tob (vcS_any _ _ _ xs _ h hn) (decide_eq_false Hv.out)).mono ?_
    rintro e w1 ⟨rfl, b1⟩
    go_wp2
    go_ret
    exact ⟨_, rfl, (OwnL.nil b1.size).now, b1⟩

end Go.Proofs.Ytjphaphnmclbcaa
