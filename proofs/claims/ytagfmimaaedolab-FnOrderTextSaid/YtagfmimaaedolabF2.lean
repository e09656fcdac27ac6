/- The walk of the law of OrderText: orders are read back. Condition of the law's own: at most 2^20 bytes. -/
import Derived.Test.YtagfmimaaedolabLawFn
import Derived.Test.YtagfmimaaedolabDraw4
import Derived.Test.YtagfmimaaedolabText
import Derived.Test.YtagfmimaaedolabParse
namespace Go.Proofs.Ytagfmimaaedolab
open Go.RowKit

theorem dgs_len (xs : List Int) : (dgs xs).length = xs.length := by simp [dgs]
theorem nums_el {ys : List Int} {k : Nat} (h : k < ys.length) : el (prs (strOfNums ys)) k = (((UInt8.ofNat (el ys k).toNat).toNat : Nat) : Int) - 48 := by
  unfold prs
  rw [strOfNums_data, List.map_map, el_lt (by simpa using h), List.getElem_map, el_lt h]
  rfl
theorem read_back {xs : List Int} (h : Valid xs) : prs (strOfNums (dgs xs)) = xs := by
  refine ext_el (by rw [prs_len, strOfNums_size, dgs_len]) (fun j hj => ?_)
  rw [prs_len, strOfNums_size, dgs_len] at hj
  rw [nums_el (by rw [dgs_len]; exact hj), dgs, el_map hj]
  have h1 := h.lo j hj
  have h2 := h.hi j hj
  have h3 := h.len
  obtain ⟨v, hv⟩ := Int.eq_ofNat_of_zero_le h1
  rw [hv] at h2 ⊢
  rw [show ((48 : Int) + (v : Int)).toNat = 48 + v by omega, UInt8.toNat_ofNat', Nat.mod_eq_of_lt (by omega)]
  omega

set_option maxHeartbeats 2000000 in
theorem fnOrderText (bo : Option Addr) (n cap : Nat) (cs : List Int) (w : World) (h : Slb w bo n cap cs) :
    Calls Try.prog 8 #[.slice bo n cap] w (Says w (.bool true)) := by
  have hbig := h.big
  by_cases hn : n ≤ 1048576
  · go_enter Try.func8, Try.ntmps8
    go_wp2_with fail
    refine (drawOrderText_any _ _ _ _ _ h).mono ?_
    rintro e w1 ⟨u1, ys, rfl, o1, hl, t1⟩
    obtain ⟨adp, cpp, rfl, sp_1⟩ := o1.sl
    have Hl := hid hl
    clear hl o1
    by_cases hv : Valid ys
    · have Hv := hid hv
      clear hv
      go_wp2_with fail
      refine (textI_any _ _ _ ys _ sp_1).mono ?_
      rintro e w2 ⟨rfl, b2⟩
      have t2 := t1.trans (b2.mono t1.size)
      have sp_2 := sp_1.later b2
      go_wp2_with fail
      refine (textS_any _ _ _ ys _ sp_2).mono ?_
      rintro e w3 ⟨rfl, b3⟩
      have t3 := t2.trans (b3.mono t2.size)
      have sp_3 := sp_2.later b3
      go_wp2_with fail
      refine (says_tob (validI_any _ _ _ ys _ sp_3) (decide_eq_true Hv.out)).mono ?_
      rintro e w4 ⟨rfl, b4⟩
      have t4 := t3.trans (b4.mono t3.size)
      have sp_4 := sp_3.later b4
      have ht := hid (txt_yes Hv.out)
      have hz : (txt ys).size = ys.length := by rw [ht.out, strOfNums_size, dgs_len]
      have hr : prs (txt ys) = ys := by rw [ht.out, read_back Hv.out]
      have hl7 := Hv.out.len
      have hz2 : (txt ys).size ≤ 1048576 := by omega
      have Hz := hid hz
      have Hr := hid hr
      clear hz hr
      go_wp2_with fail
      refine (parseI_any (txt ys) _ hz2).mono ?_
      rw [Hr.out]
      rintro e w5 ⟨u5, rfl, o5, b5⟩
      have t5 := t4.trans (b5.mono t4.size)
      have sp_5 := sp_4.later b5
      rw [onV_yes Hv.out] at o5
      have hdt := decide_eq_true Hv.out
      obtain ⟨adb, cpb, rfl, sb_5⟩ := o5.sl
      clear o5
      go_wp2_with fail
      refine (equalInts_any _ _ _ ys _ _ _ ys _ sb_5 sp_5).mono ?_
      rintro e w6 ⟨rfl, b6⟩
      have t6 := t5.trans (b6.mono t5.size)
      have sp_6 := sp_5.later b6
      have sb_6 := sb_5.later b6
      have hze : (((txt ys).size : Int) == (ys.length : Nat)) = true := by rw [Hz.out]; simp
      go_wp2
      go_ret
      exact ⟨rfl, t6⟩
    · have Hv := hid hv
      clear hv
      go_wp2_with fail
      refine (textI_any _ _ _ ys _ sp_1).mono ?_
      rintro e w2 ⟨rfl, b2⟩
      have t2 := t1.trans (b2.mono t1.size)
      have sp_2 := sp_1.later b2
      go_wp2_with fail
      refine (textS_any _ _ _ ys _ sp_2).mono ?_
      rintro e w3 ⟨rfl, b3⟩
      have t3 := t2.trans (b3.mono t2.size)
      have sp_3 := sp_2.later b3
      go_wp2_with fail
      refine (says_tob (validI_any _ _ _ ys _ sp_3) (decide_eq_false Hv.out)).mono ?_
      rintro e w4 ⟨rfl, b4⟩
      have t4 := t3.trans (b4.mono t3.size)
      have sp_4 := sp_3.later b4
      go_wp2_with fail
      refine (textS_any _ _ _ ys _ sp_4).mono ?_
      rintro e w5 ⟨rfl, b5⟩
      have t5 := t4.trans (b5.mono t4.size)
      have sp_5 := sp_4.later b5
      go_wp2
      go_ret
      exact ⟨rfl, t5⟩
  · go_enter Try.func8, Try.ntmps8
    go_wp2
    go_ret
    exact ⟨rfl, Below.refl _ _⟩

end Go.Proofs.Ytagfmimaaedolab
