/- All orders, in the model. No condition. -/
import Derived.Test.YtjgaglfinpeeoacBnd
import Derived.Test.YtjgaglfinpeeoacOfR
import Derived.Test.YtjgaglfinpeeoacNxt

namespace Go.Proofs.Ytjgaglfinpeeoac
open Go.RowKit

theorem take_allK' {n k : Nat} (h : k < facN n) : (allK n).take (k + 1) = (allK n).take k ++ [ordK n k] := by
  rw [List.take_succ_eq_append_getElem (by rw [allK_len]; exact h)]
  congr 1
  simp [allK]

set_option maxHeartbeats 2000000 in
theorem allS0_any (n : Nat) (w : World) (hn : n ≤ 5) : Calls Try.prog 57 #[.int .i64 n] w (MadeL w (allK n)) := by
  have hf := facN_pos n (by omega)
  have hfe := facN_fac n (by omega)
  have hf1 := hf.2
  clear hf
  go_enter Try.func57, Try.ntmps57
  go_wp2
  go_loopw [3, 4] (fun v i wr => ∃ (k q : Nat) (ao' : Option Addr) (cap' : Nat), k ≤ facN n ∧ v = .slice ao' q cap' ∧ i = .int .i64 k ∧ Below w.heap.size w wr ∧ Hid (OwnL wr w.heap.size wr.heap.size (.slice ao' q cap') ((allK n).take k)))
    (fun _ i _ => facN n - (intOf i).toNat)
  case atStart => exact ⟨0, 0, _, _, Nat.zero_le _, rfl, rfl, (Below.refl _ _).alloc (Nat.le_refl _) _, hid (ownL_lit (Nat.le_refl _)).now⟩
  case round =>
    obtain ⟨k, q, ao', cap', hk, rfl, rfl, hbr, HO⟩ := hrel
    have hsz := hbr.size
    go_wp2_with fail
    refine (fac_any (n : Int) _ (by omega) (by omega)).mono ?_
    rintro e wr ⟨rfl, rfl⟩
    rw [Int.toNat_natCast, ← hfe]
    have Hfe := hid hfe
    clear hfe
    by_cases hlt : k < facN n
    · have hki : (k : Int) < (facN n : Int) := by omega
      go_wp2_with fail
      refine (ofRank_any n k wr (by omega) (by omega) (by rw [← Hfe.out]; omega)).mono ?_
      rintro e w2 ⟨u2, rfl, o2, b2⟩
      have e2 : ordT (digs n k) = ordK n k := rfl
      rw [e2] at o2
      have hl0 : ((allK n).take k).length ≤ 2000000 := by rw [List.length_take]; omega
      obtain ⟨ad2, cp2, rfl, -⟩ := o2.sl
      have Ht : Hid ((allK n).take (k + 1) = (allK n).take k ++ [ordK n k]) := hid (take_allK' hlt)
      have hb2 := hbr.trans (b2.mono hsz)
      go_wp2_with (at_builtin; refine app_lst wr _ _ (ordK n k) rfl _ _ rfl w.heap.size _ _ _ HO.out b2 o2 rfl rfl hl0 ?_)
      intro u' w' ho' hb'
      rw [← Ht.out] at ho'
      obtain ⟨ao5, cp5, rfl, -⟩ := ho'.sl
      have hb3 := hb2.trans hb'
      obtain ⟨L5, hL5⟩ : ∃ L, L = ((allK n).take (k + 1)).length := ⟨_, rfl⟩
      rw [← hL5] at ho' ⊢
      have HO' := hid ho'
      clear hL5 ho' o2 b2 hb2 hb' e2 HO
      go_wp2
      go_roundw
      case rel => exact ⟨k + 1, L5, ao5, cp5, by omega, rfl, by go_num, hb3, HO'⟩
      case measure => simp [intOf]; omega
    · obtain rfl : k = facN n := by omega
      go_wp2
      go_ret
      refine ⟨_, rfl, ?_, hbr⟩
      have := HO.out
      rwa [List.take_of_length_le (by rw [allK_len]; exact Nat.le_refl _)] at this

end Go.Proofs.Ytjgaglfinpeeoac
