/- Orders of ranks, in the program and in its model. No condition. -/
import Derived.Test.YtjgaglfinpeeoacBnd
import Derived.Test.YtjgaglfinpeeoacMirK
namespace Go.Proofs.Ytjgaglfinpeeoac
open Go.RowKit

set_option maxHeartbeats 1000000 in
theorem ofRank_any (n : Nat) (r : Int) (w : World) (hn : n ≤ 7) (h0 : 0 ≤ r) (h1 : r < fac n) :
    Calls Try.prog 81 #[.int .i64 n, .int .i64 r] w (Made w (ordT (digs n r))) := by
  have H1 := hid h1
  clear h1
  go_enter Try.func81, Try.ntmps81
  go_wp2
  go_loopw [1, 5, 6] (fun q v i wr => ∃ (k : Nat) (ao' : Option Addr) (cap' : Nat) (q' : Int), k ≤ n ∧ q = .int .i64 q' ∧ Hid (q' = r % fac (n - k)) ∧ v = .slice ao' k cap' ∧ i = .int .i64 k ∧ Below w.heap.size w wr ∧ Own wr w.heap.size (.slice ao' k cap') ((List.range k).map (dig n r)))
    (fun _ v _ _ => n - lenOf v)
  case atStart => exact ⟨0, _, _, r, Nat.zero_le _, rfl, hid (by rw [Nat.sub_zero, Int.emod_eq_of_lt h0 H1.out]), rfl, rfl, (Below.refl _ _).alloc (Nat.le_refl _) _, own_lit w⟩
  case round =>
    obtain ⟨k, ao', cap', q', hk, rfl, Hq, rfl, rfl, hbr, ho⟩ := hrel
    by_cases hlt : k < n
    · have hsz := hbr.size
      have hl : ((List.range k).map (dig n r)).length ≤ 2000000 := by rw [map_range_len]; omega
      have f1 := fac_pos (n - 1 - k)
      have f2 := fac_le (n := n - 1 - k) (by omega)
      have q0 : 0 ≤ q' := by rw [Hq.out]; exact Int.emod_nonneg _ (Int.ne_of_gt (fac_pos0 _))
      have q1 : q' < 5041 := by have a := Int.emod_lt_of_pos r (fac_pos0 (n - k)); have b := fac_le (n := n - k) (by omega); rw [Hq.out]; omega
      have etn : ((n : Int) - 1 - k).toNat = n - 1 - k := by omega
      have hi : (k : Int) < n := by omega
      go_wp2_with fail
      refine (fac_any _ _ (by omega) (by omega)).mono ?_
      rintro e w' ⟨rfl, rfl⟩
      rw [etn]
      obtain ⟨f, hf⟩ : ∃ f, f = fac (n - 1 - k) := ⟨_, rfl⟩
      rw [← hf] at f1 f2 ⊢
      have Hf := hid hf
      clear hf etn
      have hf1 : (f == 0) = false := by simp; omega
      go_wp2_with (at_builtin; refine app_int _ _ rfl _ _ rfl w.heap.size _ _ rfl ho rfl hl hsz ?_)
      intro u' w2 ho' hg'
      have hb' := below_app hbr ho hg'
      have eq1 : q' / f = dig n r k := by rw [Hq.out, Hf.out]; exact dig_dn hlt
      rw [eq1, ← map_range_succ (dig n r)] at ho'
      have hl2 : ((List.range (k + 1)).map (dig n r)).length = k + 1 := map_range_len _
      obtain ⟨ao', cap', rfl, hs'⟩ := ho'.sl
      rw [hl2] at ho' ⊢
      clear eq1 hl2 hs'
      go_wp2
      go_roundw
      case rel => exact ⟨k + 1, _, _, _, by omega, rfl, hid (by rw [Hq.out, Hf.out, rest_dn hlt, show n - (k + 1) = n - 1 - k by omega]), rfl, by go_num, hb', ho'⟩
      case measure => simp [lenOf]; omega
    · obtain rfl : k = n := by omega
      have hs := ho.read
      have e : (List.range k).map (dig k r) = digs k r := rfl
      rw [e] at hs
      go_wp2_with fail
      refine (ofTable_any _ _ _ (digs k r) _ hs (digs_vt hn)).mono ?_
      rintro e w2 ⟨u2, rfl, o2, b2⟩
      go_wp2
      go_ret
      exact ⟨_, rfl, o2.mono hbr.size, hbr.trans (b2.mono hbr.size)⟩

theorem inR_any (n lo hi : Int) (w : World) : Calls Try.prog 41 #[.int .i64 n, .int .i64 lo, .int .i64 hi] w fun e w' => e = .returned (.bool (decide (lo ≤ n ∧ n ≤ hi))) ∧ w = w' := by
  go_enter Try.func41, Try.ntmps41
  by_cases h1 : lo ≤ n <;> by_cases h2 : n ≤ hi
  all_goals go_wp2
  all_goals go_ret
  all_goals exact ⟨ret_eq (congrArg Value.bool (by simp [h1, h2])), rfl⟩

/-- The arguments are a number of values and a rank. -/
def RK (n r : Int) : Prop := 0 ≤ n ∧ n ≤ 7 ∧ 0 ≤ r ∧ r < fac n.toNat
instance (n r : Int) : Decidable (RK n r) := inferInstanceAs (Decidable (_ ∧ _ ∧ _ ∧ _))
def onR (n r : Int) : List Int := if RK n r then ordT (digs n.toNat r) else []
theorem onR_yes {n r : Int} (h : RK n r) : onR n r = ordT (digs n.toNat r) := if_pos h
theorem onR_no {n r : Int} (h : ¬ RK n r) : onR n r = [] := if_neg h
def isR (n r : Int) : Bool := decide (RK n r)
theorem isR_yes {n r : Int} (h : RK n r) : isR n r = true := decide_eq_true h
theorem isR_no {n r : Int} (h : ¬ RK n r) : isR n r = false := decide_eq_false h

end Go.Proofs.Ytjgaglfinpeeoac
