/- The walks of the laws of ValidSigned, SizesOf, NegativesOf, LengthOf, FlagMajor and FallsOf. Condition of the law's own: at most 2^20 bytes. -/
import Derived.Test.YtjgaglfinpeeoaaLawFn
import Derived.Test.YtjgaglfinpeeoaaDrawG
import Derived.Test.YtjgaglfinpeeoaaSgnE
import Derived.Test.YtjgaglfinpeeoaaFinG
import Derived.Test.YtjgaglfinpeeoaaOrd1I
namespace Go.Proofs.Ytjgaglfinpeeoaa
open Go.RowKit

set_option maxHeartbeats 1000000 in
theorem oppS_any (ao : Option Addr) (n cap : Nat) (xs : List Int) (w : World) (h : Sl w ao n cap xs) (Hv : Hid (SV xs)) :
    Calls Try.prog 19 #[.slice ao n cap] w (Made w (negL xs)) := by
  have hbig := h.big
  have hlen := hid h.len
  have h5 : n ≤ 5 := by have := Hv.out.len; rw [hlen.out] at this; exact this
  go_enter Try.func19, Try.ntmps19
  go_wp2
  go_loopw [3, 4] (fun v i wr => ∃ (k : Nat) (ao' : Option Addr) (cap' : Nat), k ≤ n ∧ v = .slice ao' k cap' ∧ i = .int .i64 k ∧ Below w.heap.size w wr ∧ Own wr w.heap.size (.slice ao' k cap') ((List.range k).map fun k => -el xs k))
    (fun _ i _ => n - (intOf i).toNat)
  case atStart => exact ⟨0, _, _, Nat.zero_le _, rfl, rfl, (Below.refl _ _).alloc (Nat.le_refl _) _, own_lit w⟩
  case round =>
    obtain ⟨k, ao', cap', hk, rfl, rfl, hbr, ho⟩ := hrel
    by_cases hlt : k < n
    · obtain ⟨b, off, rfl, hblt, hc⟩ := h.row (by omega)
      have hcell := (hbr.cell (p := ⟨b, off + k, none⟩) hblt).trans (hc k hlt)
      have hsz := hbr.size
      have hl : ((List.range k).map fun k => -el xs k).length ≤ 2000000 := by rw [map_range_len]; omega
      have hi1 : (k : Int) < n := by omega
      have hbk := Hv.out.lo (j := k) (by rw [hlen.out]; exact hlt)
      rw [hlen.out] at hbk
      have hb1 : -5 ≤ el xs k := by omega
      have hb2 : el xs k ≤ 5 := by omega
      clear hc hbk
      go_wp2_with (at_builtin; refine app_int _ _ rfl _ _ rfl w.heap.size _ _ rfl ho rfl hl hsz ?_)
      intro u' w' ho' hg'
      have hb' := below_app hbr ho hg'
      obtain ⟨ao', cap', rfl, hs'⟩ := ho'.sl
      rw [← map_range_succ (fun k => -el xs k), map_range_len] at *
      go_wp2
      go_roundw
      case rel => exact ⟨k + 1, _, _, by omega, rfl, by go_num, hb', ho'⟩
      case measure => simp [intOf]; omega
    · obtain rfl : k = n := by omega
      go_wp2
      go_ret
      refine ⟨_, rfl, ?_, hbr⟩
      rw [negL, ← map_el xs (fun x => -x), hlen.out]
      exact ho

set_option maxHeartbeats 2000000 in
theorem fnValidSigned (bo : Option Addr) (n cap : Nat) (cs : List Int) (w : World) (h : Slb w bo n cap cs) :
    Calls Try.prog 3 #[.slice bo n cap] w (Says w (.bool true)) := by
  have hbig := h.big
  by_cases hn : n ≤ 1048576
  · go_enter Try.func3, Try.ntmps3
    go_wp2_with fail
    refine (drawValidSigned_any _ _ _ _ _ h).mono ?_
    rintro e w1 ⟨u1, ys, rfl, o1, H64, hl, t1⟩
    obtain ⟨adp, cpp, rfl, sp_1⟩ := o1.sl
    have Hl := hid hl
    clear hl o1
    by_cases hv : SV ys
    · have Hv := hid hv
      clear hv
      have Hi := hid (SV.inv Hv.out)
      have Hi64 := hid Hi.out.r64
      have Hn := hid (SV.neg Hv.out)
      have Hn64 := hid Hn.out.r64
      go_wp2_with fail
      refine (says_tob (svI_any _ _ _ ys _ sp_1 H64) (decide_eq_true Hv.out)).mono ?_
      rintro e w2 ⟨rfl, b2⟩
      have t2 := t1.trans (b2.mono t1.size)
      have sp_2 := sp_1.later b2
      go_wp2_with fail
      refine (says_tob (svS_any _ _ _ ys _ sp_2) (decide_eq_true Hv.out)).mono ?_
      rintro e w3 ⟨rfl, b3⟩
      have t3 := t2.trans (b3.mono t2.size)
      have sp_3 := sp_2.later b3
      go_wp2_with fail
      refine (made_to (isgI_any _ _ _ ys _ sp_3 H64) (onS_yes Hv.out)).mono ?_
      rintro e w4 ⟨u4, rfl, o4, b4⟩
      have t4 := t3.trans (b4.mono t3.size)
      have sp_4 := sp_3.later b4
      obtain ⟨adv, cpv, rfl, sv_4⟩ := o4.sl
      clear o4
      go_wp2_with fail
      refine (says_tob (svI_any _ _ _ (invS ys) _ sv_4 Hi64) (decide_eq_true Hi.out)).mono ?_
      rintro e w5 ⟨rfl, b5⟩
      have t5 := t4.trans (b5.mono t4.size)
      have sp_5 := sp_4.later b5
      have sv_5 := sv_4.later b5
      go_wp2_with fail
      refine (oppS_any _ _ _ ys _ sp_5 Hv).mono ?_
      rintro e w6 ⟨u6, rfl, o6, b6⟩
      have t6 := t5.trans (b6.mono t5.size)
      have sp_6 := sp_5.later b6
      have sv_6 := sv_5.later b6
      obtain ⟨ado, cpo, rfl, so_6⟩ := o6.sl
      clear o6
      go_wp2_with fail
      refine (says_tob (svI_any _ _ _ (negL ys) _ so_6 Hn64) (decide_eq_true Hn.out)).mono ?_
      rintro e w7 ⟨rfl, b7⟩
      have t7 := t6.trans (b7.mono t6.size)
      have sp_7 := sp_6.later b7
      have sv_7 := sv_6.later b7
      have so_7 := so_6.later b7
      go_wp2
      go_ret
      exact ⟨rfl, t7⟩
    · have Hv := hid hv
      clear hv
      go_wp2_with fail
      refine (says_tob (svI_any _ _ _ ys _ sp_1 H64) (decide_eq_false Hv.out)).mono ?_
      rintro e w2 ⟨rfl, b2⟩
      have t2 := t1.trans (b2.mono t1.size)
      have sp_2 := sp_1.later b2
      go_wp2_with fail
      refine (says_tob (svS_any _ _ _ ys _ sp_2) (decide_eq_false Hv.out)).mono ?_
      rintro e w3 ⟨rfl, b3⟩
      have t3 := t2.trans (b3.mono t2.size)
      have sp_3 := sp_2.later b3
      go_wp2_with fail
      refine (says_tob (svS_any _ _ _ ys _ sp_3) (decide_eq_false Hv.out)).mono ?_
      rintro e w4 ⟨rfl, b4⟩
      have t4 := t3.trans (b4.mono t3.size)
      have sp_4 := sp_3.later b4
      go_wp2
      go_ret
      exact ⟨rfl, t4⟩
  · go_enter Try.func3, Try.ntmps3
    go_wp2
    go_ret
    exact ⟨rfl, Below.refl _ _⟩

set_option maxHeartbeats 2000000 in
theorem fnSizesOf (bo : Option Addr) (n cap : Nat) (cs : List Int) (w : World) (h : Slb w bo n cap cs) :
    Calls Try.prog 5 #[.slice bo n cap] w (Says w (.bool true)) := by
  have hbig := h.big
  by_cases hn : n ≤ 1048576
  · go_enter Try.func5, Try.ntmps5
    go_wp2_with fail
    refine (drawSizesOf_any _ _ _ _ _ h).mono ?_
    rintro e w1 ⟨u1, ys, rfl, o1, H64, hl, t1⟩
    obtain ⟨adp, cpp, rfl, sp_1⟩ := o1.sl
    have Hl := hid hl
    clear hl o1
    by_cases hv : SV ys
    · have Hv := hid hv
      clear hv
      have Hi := hid (SV.inv Hv.out)
      have Hi64 := hid Hi.out.r64
      have Hn := hid (SV.neg Hv.out)
      have Hn64 := hid Hn.out.r64
      have Ho := hid Hv.out.ord
      go_wp2_with fail
      refine (made_to (sizesI_any _ _ _ ys _ sp_1 H64) (onS_yes Hv.out)).mono ?_
      rintro e w2 ⟨u2, rfl, o2, b2⟩
      have t2 := t1.trans (b2.mono t1.size)
      have sp_2 := sp_1.later b2
      obtain ⟨ada, cpa, rfl, sa_2⟩ := o2.sl
      clear o2
      go_wp2_with fail
      refine (made_to (sizesS_any _ _ _ ys _ sp_2) (onS_yes Hv.out)).mono ?_
      rintro e w3 ⟨u3, rfl, o3, b3⟩
      have t3 := t2.trans (b3.mono t2.size)
      have sp_3 := sp_2.later b3
      have sa_3 := sa_2.later b3
      obtain ⟨adb, cpb, rfl, sb_3⟩ := o3.sl
      clear o3
      go_wp2_with fail
      refine (says_tob (equalInts_any _ _ _ (szL ys) _ _ _ (szL ys) _ sa_3 sb_3) (decide_eq_true rfl)).mono ?_
      rintro e w4 ⟨rfl, b4⟩
      have t4 := t3.trans (b4.mono t3.size)
      have sp_4 := sp_3.later b4
      have sa_4 := sa_3.later b4
      have sb_4 := sb_3.later b4
      go_wp2_with fail
      refine (says_tob (svI_any _ _ _ ys _ sp_4 H64) (decide_eq_true Hv.out)).mono ?_
      rintro e w5 ⟨rfl, b5⟩
      have t5 := t4.trans (b5.mono t4.size)
      have sp_5 := sp_4.later b5
      have sa_5 := sa_4.later b5
      have sb_5 := sb_4.later b5
      go_wp2_with fail
      refine (says_tob (validI_any _ _ _ (szL ys) _ sa_5) (decide_eq_true Ho.out)).mono ?_
      rintro e w6 ⟨rfl, b6⟩
      have t6 := t5.trans (b6.mono t5.size)
      have sp_6 := sp_5.later b6
      have sa_6 := sa_5.later b6
      have sb_6 := sb_5.later b6
      go_wp2_with fail
      refine (made_to (isgI_any _ _ _ ys _ sp_6 H64) (onS_yes Hv.out)).mono ?_
      rintro e w7 ⟨u7, rfl, o7, b7⟩
      have t7 := t6.trans (b7.mono t6.size)
      have sp_7 := sp_6.later b7
      have sa_7 := sa_6.later b7
      have sb_7 := sb_6.later b7
      obtain ⟨adv, cpv, rfl, sv_7⟩ := o7.sl
      clear o7
      go_wp2_with fail
      refine (made_to (sizesI_any _ _ _ (invS ys) _ sv_7 Hi64) ((onS_yes Hi.out).trans Hv.out.okC.1)).mono ?_
      rintro e w8 ⟨u8, rfl, o8, b8⟩
      have t8 := t7.trans (b8.mono t7.size)
      have sp_8 := sp_7.later b8
      have sa_8 := sa_7.later b8
      have sb_8 := sb_7.later b8
      have sv_8 := sv_7.later b8
      obtain ⟨adc, cpc, rfl, sc_8⟩ := o8.sl
      clear o8
      go_wp2_with fail
      refine (made_to (inverseI_any _ _ _ (szL ys) _ sa_8) (onV_yes Ho.out)).mono ?_
      rintro e w9 ⟨u9, rfl, o9, b9⟩
      have t9 := t8.trans (b9.mono t8.size)
      have sp_9 := sp_8.later b9
      have sa_9 := sa_8.later b9
      have sb_9 := sb_8.later b9
      have sv_9 := sv_8.later b9
      have sc_9 := sc_8.later b9
      obtain ⟨add, cpd, rfl, sd_9⟩ := o9.sl
      clear o9
      go_wp2_with fail
      refine (says_tob (equalInts_any _ _ _ (inv (szL ys)) _ _ _ (inv (szL ys)) _ sc_9 sd_9) (decide_eq_true rfl)).mono ?_
      rintro e w10 ⟨rfl, b10⟩
      have t10 := t9.trans (b10.mono t9.size)
      have sp_10 := sp_9.later b10
      have sa_10 := sa_9.later b10
      have sb_10 := sb_9.later b10
      have sv_10 := sv_9.later b10
      have sc_10 := sc_9.later b10
      have sd_10 := sd_9.later b10
      go_wp2_with fail
      refine (oppS_any _ _ _ ys _ sp_10 Hv).mono ?_
      rintro e w11 ⟨u11, rfl, o11, b11⟩
      have t11 := t10.trans (b11.mono t10.size)
      have sp_11 := sp_10.later b11
      have sa_11 := sa_10.later b11
      have sb_11 := sb_10.later b11
      have sv_11 := sv_10.later b11
      have sc_11 := sc_10.later b11
      have sd_11 := sd_10.later b11
      obtain ⟨ado, cpo, rfl, so_11⟩ := o11.sl
      clear o11
      go_wp2_with fail
      refine (made_to (sizesI_any _ _ _ (negL ys) _ so_11 Hn64) ((onS_yes Hn.out).trans (negL_sz ys))).mono ?_
      rintro e w12 ⟨u12, rfl, o12, b12⟩
      have t12 := t11.trans (b12.mono t11.size)
      have sp_12 := sp_11.later b12
      have sa_12 := sa_11.later b12
      have sb_12 := sb_11.later b12
      have sv_12 := sv_11.later b12
      have sc_12 := sc_11.later b12
      have sd_12 := sd_11.later b12
      have so_12 := so_11.later b12
      obtain ⟨adf, cpf, rfl, sf_12⟩ := o12.sl
      clear o12
      go_wp2_with fail
      refine (says_tob (equalInts_any _ _ _ (szL ys) _ _ _ (szL ys) _ sf_12 sa_12) (decide_eq_true rfl)).mono ?_
      rintro e w13 ⟨rfl, b13⟩
      have t13 := t12.trans (b13.mono t12.size)
      have sp_13 := sp_12.later b13
      have sa_13 := sa_12.later b13
      have sb_13 := sb_12.later b13
      have sv_13 := sv_12.later b13
      have sc_13 := sc_12.later b13
      have sd_13 := sd_12.later b13
      have so_13 := so_12.later b13
      have sf_13 := sf_12.later b13
      go_wp2
      go_ret
      exact ⟨rfl, t13⟩
    · have Hv := hid hv
      clear hv
      go_wp2_with fail
      refine (made_to (sizesI_any _ _ _ ys _ sp_1 H64) (onS_no Hv.out)).mono ?_
      rintro e w2 ⟨u2, rfl, o2, b2⟩
      have t2 := t1.trans (b2.mono t1.size)
      have sp_2 := sp_1.later b2
      obtain ⟨ada, cpa, rfl, sa_2⟩ := o2.sl
      clear o2
      go_wp2_with fail
      refine (made_to (sizesS_any _ _ _ ys _ sp_2) (onS_no Hv.out)).mono ?_
      rintro e w3 ⟨u3, rfl, o3, b3⟩
      have t3 := t2.trans (b3.mono t2.size)
      have sp_3 := sp_2.later b3
      have sa_3 := sa_2.later b3
      obtain ⟨adb, cpb, rfl, sb_3⟩ := o3.sl
      clear o3
      go_wp2_with fail
      refine (says_tob (equalInts_any _ _ _ (([] : List Int)) _ _ _ (([] : List Int)) _ sa_3 sb_3) (decide_eq_true rfl)).mono ?_
      rintro e w4 ⟨rfl, b4⟩
      have t4 := t3.trans (b4.mono t3.size)
      have sp_4 := sp_3.later b4
      have sa_4 := sa_3.later b4
      have sb_4 := sb_3.later b4
      go_wp2_with fail
      refine (says_tob (svI_any _ _ _ ys _ sp_4 H64) (decide_eq_false Hv.out)).mono ?_
      rintro e w5 ⟨rfl, b5⟩
      have t5 := t4.trans (b5.mono t4.size)
      have sp_5 := sp_4.later b5
      have sa_5 := sa_4.later b5
      have sb_5 := sb_4.later b5
      go_wp2_with fail
      refine (made_to (sizesS_any _ _ _ ys _ sp_5) (onS_no Hv.out)).mono ?_
      rintro e w6 ⟨u6, rfl, o6, b6⟩
      have t6 := t5.trans (b6.mono t5.size)
      have sp_6 := sp_5.later b6
      have sa_6 := sa_5.later b6
      have sb_6 := sb_5.later b6
      obtain ⟨adc, cpc, rfl, sc_6⟩ := o6.sl
      clear o6
      go_wp2_with fail
      refine (says_tob (equalInts_any _ _ _ (([] : List Int)) _ _ _ (([] : List Int)) _ sa_6 sc_6) (decide_eq_true rfl)).mono ?_
      rintro e w7 ⟨rfl, b7⟩
      have t7 := t6.trans (b7.mono t6.size)
      have sp_7 := sp_6.later b7
      have sa_7 := sa_6.later b7
      have sb_7 := sb_6.later b7
      have sc_7 := sc_6.later b7
      go_wp2
      go_ret
      exact ⟨rfl, t7⟩
  · go_enter Try.func5, Try.ntmps5
    go_wp2
    go_ret
    exact ⟨rfl, Below.refl _ _⟩

set_option maxHeartbeats 2000000 in
theorem fnNegativesOf (bo : Option Addr) (n cap : Nat) (cs : List Int) (w : World) (h : Slb w bo n cap cs) :
    Calls Try.prog 7 #[.slice bo n cap] w (Says w (.bool true)) := by
  have hbig := h.big
  by_cases hn : n ≤ 1048576
  · go_enter Try.func7, Try.ntmps7
    go_wp2_with fail
    refine (drawNegativesOf_any _ _ _ _ _ h).mono ?_
    rintro e w1 ⟨u1, ys, rfl, o1, H64, hl, t1⟩
    obtain ⟨adp, cpp, rfl, sp_1⟩ := o1.sl
    have Hl := hid hl
    clear hl o1
    by_cases hv : SV ys
    · have Hv := hid hv
      clear hv
      have hA := hid Hv.out.okA
      have h5 := Hv.out.len
      have Hi := hid (SV.inv Hv.out)
      have Hi64 := hid Hi.out.r64
      have Hn := hid (SV.neg Hv.out)
      have Hn64 := hid Hn.out.r64
      obtain ⟨G, HG⟩ : ∃ G, Hid (G = ngN ys) := ⟨_, rfl⟩
      have hg : 0 ≤ G ∧ G ≤ 5 := by have := cntP_bd (ngF ys) ys.length; have e := HG.out; unfold ngN at e; omega
      obtain ⟨hg1, hg2⟩ := hg
      have E1 := hid ((onSi_yes Hi.out (v := ngN (invS ys)) (d := -1)).trans (hA.out.2.1.trans HG.out.symm))
      have E2 : Hid (onSi (negL ys) (ngN (negL ys)) (-1) = (ys.length : Int) - G) := hid ((onSi_yes Hn.out).trans (by have := hA.out.2.2.2.2.1; have := HG.out; omega))
      go_wp2_with fail
      refine (says_to (ngI_any _ _ _ ys _ sp_1 H64) ((onSi_yes Hv.out).trans HG.out.symm)).mono ?_
      rintro e w2 ⟨rfl, b2⟩
      have t2 := t1.trans (b2.mono t1.size)
      have sp_2 := sp_1.later b2
      go_wp2_with fail
      refine (says_to (ngS_any _ _ _ ys _ sp_2) ((onSi_yes Hv.out).trans HG.out.symm)).mono ?_
      rintro e w3 ⟨rfl, b3⟩
      have t3 := t2.trans (b3.mono t2.size)
      have sp_3 := sp_2.later b3
      go_wp2_with fail
      refine (says_tob (svI_any _ _ _ ys _ sp_3 H64) (decide_eq_true Hv.out)).mono ?_
      rintro e w4 ⟨rfl, b4⟩
      have t4 := t3.trans (b4.mono t3.size)
      have sp_4 := sp_3.later b4
      go_wp2_with fail
      refine (made_to (isgI_any _ _ _ ys _ sp_4 H64) (onS_yes Hv.out)).mono ?_
      rintro e w5 ⟨u5, rfl, o5, b5⟩
      have t5 := t4.trans (b5.mono t4.size)
      have sp_5 := sp_4.later b5
      obtain ⟨adv, cpv, rfl, sv_5⟩ := o5.sl
      clear o5
      go_wp2_with fail
      refine (says_to (ngI_any _ _ _ (invS ys) _ sv_5 Hi64) (E1.out)).mono ?_
      rintro e w6 ⟨rfl, b6⟩
      have t6 := t5.trans (b6.mono t5.size)
      have sp_6 := sp_5.later b6
      have sv_6 := sv_5.later b6
      go_wp2_with fail
      refine (oppS_any _ _ _ ys _ sp_6 Hv).mono ?_
      rintro e w7 ⟨u7, rfl, o7, b7⟩
      have t7 := t6.trans (b7.mono t6.size)
      have sp_7 := sp_6.later b7
      have sv_7 := sv_6.later b7
      obtain ⟨ado, cpo, rfl, so_7⟩ := o7.sl
      clear o7
      go_wp2_with fail
      refine (says_to (ngI_any _ _ _ (negL ys) _ so_7 Hn64) (E2.out)).mono ?_
      rintro e w8 ⟨rfl, b8⟩
      have t8 := t7.trans (b8.mono t7.size)
      have sp_8 := sp_7.later b8
      have sv_8 := sv_7.later b8
      have so_8 := so_7.later b8
      skip
      go_wp2
      go_ret
      exact ⟨rfl, t8⟩
    · have Hv := hid hv
      clear hv
      go_wp2_with fail
      refine (says_to (ngI_any _ _ _ ys _ sp_1 H64) (onSi_no Hv.out)).mono ?_
      rintro e w2 ⟨rfl, b2⟩
      have t2 := t1.trans (b2.mono t1.size)
      have sp_2 := sp_1.later b2
      go_wp2_with fail
      refine (says_to (ngS_any _ _ _ ys _ sp_2) (onSi_no Hv.out)).mono ?_
      rintro e w3 ⟨rfl, b3⟩
      have t3 := t2.trans (b3.mono t2.size)
      have sp_3 := sp_2.later b3
      go_wp2_with fail
      refine (says_tob (svI_any _ _ _ ys _ sp_3 H64) (decide_eq_false Hv.out)).mono ?_
      rintro e w4 ⟨rfl, b4⟩
      have t4 := t3.trans (b4.mono t3.size)
      have sp_4 := sp_3.later b4
      go_wp2_with fail
      refine (says_to (ngS_any _ _ _ ys _ sp_4) (onSi_no Hv.out)).mono ?_
      rintro e w5 ⟨rfl, b5⟩
      have t5 := t4.trans (b5.mono t4.size)
      have sp_5 := sp_4.later b5
      go_wp2
      go_ret
      exact ⟨rfl, t5⟩
  · go_enter Try.func7, Try.ntmps7
    go_wp2
    go_ret
    exact ⟨rfl, Below.refl _ _⟩

set_option maxHeartbeats 2000000 in
theorem fnLengthOf (bo : Option Addr) (n cap : Nat) (cs : List Int) (w : World) (h : Slb w bo n cap cs) :
    Calls Try.prog 9 #[.slice bo n cap] w (Says w (.bool true)) := by
  have hbig := h.big
  by_cases hn : n ≤ 1048576
  · go_enter Try.func9, Try.ntmps9
    go_wp2_with fail
    refine (drawLengthOf_any _ _ _ _ _ h).mono ?_
    rintro e w1 ⟨u1, ys, rfl, o1, H64, hl, t1⟩
    obtain ⟨adp, cpp, rfl, sp_1⟩ := o1.sl
    have Hl := hid hl
    clear hl o1
    by_cases hv : SV ys
    · have Hv := hid hv
      clear hv
      have hA := hid Hv.out.okA
      have h5 := Hv.out.len
      have Hi := hid (SV.inv Hv.out)
      have Hi64 := hid Hi.out.r64
      have Hn := hid (SV.neg Hv.out)
      have Hn64 := hid Hn.out.r64
      obtain ⟨G, HG⟩ : ∃ G, Hid (G = lenS ys) := ⟨_, rfl⟩
      obtain ⟨N, HN⟩ : ∃ N, Hid (N = ngN ys) := ⟨_, rfl⟩
      obtain ⟨P, HP⟩ : ∃ P, Hid (P = ((ys.length * ys.length : Nat) : Int)) := ⟨_, rfl⟩
      have hN0 : 0 ≤ N := by have := (cntP_bd (ngF ys) ys.length).1; have e := HN.out; unfold ngN at e; omega
      have hNG : N ≤ G := by rw [HN.out, HG.out]; exact hA.out.2.2.2.1
      have hP : P ≤ 25 := by rw [HP.out]; have : ys.length * ys.length ≤ 5 * 5 := Nat.mul_le_mul h5 h5; omega
      have hGP : G ≤ P := by have h1 := hA.out.2.2.1; have h2 := lnF_eq (negL ys); have := HG.out; have := HP.out; omega
      have E1 := hid ((onSi_yes Hi.out (v := lenS (invS ys)) (d := -1)).trans (hA.out.1.trans HG.out.symm))
      have E2 : Hid (onSi (negL ys) (lenS (negL ys)) (-1) = P - G) := hid ((onSi_yes Hn.out).trans (by have := hA.out.2.2.1; have := HG.out; have := HP.out; omega))
      have E3 : Hid (onSi ys (ngN ys) (-1) = N) := hid ((onSi_yes Hv.out).trans HN.out.symm)
      have hmul : wrap64 ((ys.length : Int) * (ys.length : Int)) = P := by rw [HP.out, ← Int.natCast_mul]; exact IntWalk.wrap64_in _ ⟨by omega, by have := HP.out; omega⟩
      go_wp2_with fail
      refine (says_to (lenI_any _ _ _ ys _ sp_1 H64) ((onSi_yes Hv.out).trans HG.out.symm)).mono ?_
      rintro e w2 ⟨rfl, b2⟩
      have t2 := t1.trans (b2.mono t1.size)
      have sp_2 := sp_1.later b2
      go_wp2_with fail
      refine (says_to (lenS_any _ _ _ ys _ sp_2) ((onSi_yes Hv.out).trans HG.out.symm)).mono ?_
      rintro e w3 ⟨rfl, b3⟩
      have t3 := t2.trans (b3.mono t2.size)
      have sp_3 := sp_2.later b3
      go_wp2_with fail
      refine (says_tob (svI_any _ _ _ ys _ sp_3 H64) (decide_eq_true Hv.out)).mono ?_
      rintro e w4 ⟨rfl, b4⟩
      have t4 := t3.trans (b4.mono t3.size)
      have sp_4 := sp_3.later b4
      go_wp2_with fail
      refine (made_to (isgI_any _ _ _ ys _ sp_4 H64) (onS_yes Hv.out)).mono ?_
      rintro e w5 ⟨u5, rfl, o5, b5⟩
      have t5 := t4.trans (b5.mono t4.size)
      have sp_5 := sp_4.later b5
      obtain ⟨adv, cpv, rfl, sv_5⟩ := o5.sl
      clear o5
      go_wp2_with fail
      refine (says_to (lenI_any _ _ _ (invS ys) _ sv_5 Hi64) (E1.out)).mono ?_
      rintro e w6 ⟨rfl, b6⟩
      have t6 := t5.trans (b6.mono t5.size)
      have sp_6 := sp_5.later b6
      have sv_6 := sv_5.later b6
      go_wp2_with fail
      refine (oppS_any _ _ _ ys _ sp_6 Hv).mono ?_
      rintro e w7 ⟨u7, rfl, o7, b7⟩
      have t7 := t6.trans (b7.mono t6.size)
      have sp_7 := sp_6.later b7
      have sv_7 := sv_6.later b7
      obtain ⟨ado, cpo, rfl, so_7⟩ := o7.sl
      clear o7
      go_wp2_with fail
      refine (says_to (lenI_any _ _ _ (negL ys) _ so_7 Hn64) (E2.out)).mono ?_
      rintro e w8 ⟨rfl, b8⟩
      have t8 := t7.trans (b8.mono t7.size)
      have sp_8 := sp_7.later b8
      have sv_8 := sv_7.later b8
      have so_8 := so_7.later b8
      go_wp2_with fail
      refine (says_to (ngI_any _ _ _ ys _ sp_8 H64) (E3.out)).mono ?_
      rintro e w9 ⟨rfl, b9⟩
      have t9 := t8.trans (b9.mono t8.size)
      have sp_9 := sp_8.later b9
      have sv_9 := sv_8.later b9
      have so_9 := so_8.later b9
      go_wp2
      go_ret
      exact ⟨rfl, t9⟩
    · have Hv := hid hv
      clear hv
      go_wp2_with fail
      refine (says_to (lenI_any _ _ _ ys _ sp_1 H64) (onSi_no Hv.out)).mono ?_
      rintro e w2 ⟨rfl, b2⟩
      have t2 := t1.trans (b2.mono t1.size)
      have sp_2 := sp_1.later b2
      go_wp2_with fail
      refine (says_to (lenS_any _ _ _ ys _ sp_2) (onSi_no Hv.out)).mono ?_
      rintro e w3 ⟨rfl, b3⟩
      have t3 := t2.trans (b3.mono t2.size)
      have sp_3 := sp_2.later b3
      go_wp2_with fail
      refine (says_tob (svI_any _ _ _ ys _ sp_3 H64) (decide_eq_false Hv.out)).mono ?_
      rintro e w4 ⟨rfl, b4⟩
      have t4 := t3.trans (b4.mono t3.size)
      have sp_4 := sp_3.later b4
      go_wp2_with fail
      refine (says_to (lenS_any _ _ _ ys _ sp_4) (onSi_no Hv.out)).mono ?_
      rintro e w5 ⟨rfl, b5⟩
      have t5 := t4.trans (b5.mono t4.size)
      have sp_5 := sp_4.later b5
      go_wp2
      go_ret
      exact ⟨rfl, t5⟩
  · go_enter Try.func9, Try.ntmps9
    go_wp2
    go_ret
    exact ⟨rfl, Below.refl _ _⟩

set_option maxHeartbeats 2000000 in
theorem fnFlagMajor (bo : Option Addr) (n cap : Nat) (cs : List Int) (w : World) (h : Slb w bo n cap cs) :
    Calls Try.prog 11 #[.slice bo n cap] w (Says w (.bool true)) := by
  have hbig := h.big
  by_cases hn : n ≤ 1048576
  · go_enter Try.func11, Try.ntmps11
    go_wp2_with fail
    refine (drawFlagMajor_any _ _ _ _ _ h).mono ?_
    rintro e w1 ⟨u1, ys, rfl, o1, H64, hl, t1⟩
    obtain ⟨adp, cpp, rfl, sp_1⟩ := o1.sl
    have Hl := hid hl
    clear hl o1
    by_cases hv : SV ys
    · have Hv := hid hv
      clear hv
      have hA := hid Hv.out.okA
      have h5 := Hv.out.len
      have Hi := hid (SV.inv Hv.out)
      have Hi64 := hid Hi.out.r64
      have Hn := hid (SV.neg Hv.out)
      have Hn64 := hid Hn.out.r64
      obtain ⟨G, HG⟩ : ∃ G, Hid (G = flagS ys) := ⟨_, rfl⟩
      obtain ⟨N, HN⟩ : ∃ N, Hid (N = ngN ys) := ⟨_, rfl⟩
      obtain ⟨P, HP⟩ : ∃ P, Hid (P = ((ys.length * ys.length : Nat) : Int)) := ⟨_, rfl⟩
      have hN0 : 0 ≤ N := by have := (cntP_bd (ngF ys) ys.length).1; have e := HN.out; unfold ngN at e; omega
      have hMj := maj5 h5
      have hG2 : G - N = 2 * major ys := by have := HG.out; have := HN.out; unfold flagS at *; omega
      have hGN : 0 ≤ G - N := by omega
      have hrem : (G - N) % 2 = 0 := by omega
      have hrem2 : (G - N).tmod 2 = 0 := by rw [Int.tmod_eq_emod_of_nonneg hGN]; exact hrem
      have hP : P ≤ 25 := by rw [HP.out]; have : ys.length * ys.length ≤ 5 * 5 := Nat.mul_le_mul h5 h5; omega
      have hGP : G ≤ P := by have h1 := hA.out.2.2.2.2.2.1; have h2 := flF_eq (negL ys); have := HG.out; have := HP.out; omega
      have E2 : Hid (onSi (negL ys) (flagS (negL ys)) (-1) = P - G) := hid ((onSi_yes Hn.out).trans (by have := hA.out.2.2.2.2.2.1; have := HG.out; have := HP.out; omega))
      have E3 : Hid (onSi ys (ngN ys) (-1) = N) := hid ((onSi_yes Hv.out).trans HN.out.symm)
      have hmul : wrap64 ((ys.length : Int) * (ys.length : Int)) = P := by rw [HP.out, ← Int.natCast_mul]; exact IntWalk.wrap64_in _ ⟨by omega, by have := HP.out; omega⟩
      have hsum : wrap64 (G + (P - G)) = P := by rw [show G + (P - G) = P by omega]; exact IntWalk.wrap64_in _ ⟨by have := HP.out; omega, by omega⟩
      have hsum2 : (G + (P - G) == P) = true := by rw [show G + (P - G) = P by omega]; simp
      clear hG2 hMj
      go_wp2_with fail
      refine (says_to (flagI_any _ _ _ ys _ sp_1 H64) ((onSi_yes Hv.out).trans HG.out.symm)).mono ?_
      rintro e w2 ⟨rfl, b2⟩
      have t2 := t1.trans (b2.mono t1.size)
      have sp_2 := sp_1.later b2
      go_wp2_with fail
      refine (says_to (flagS_any _ _ _ ys _ sp_2) ((onSi_yes Hv.out).trans HG.out.symm)).mono ?_
      rintro e w3 ⟨rfl, b3⟩
      have t3 := t2.trans (b3.mono t2.size)
      have sp_3 := sp_2.later b3
      go_wp2_with fail
      refine (says_tob (svI_any _ _ _ ys _ sp_3 H64) (decide_eq_true Hv.out)).mono ?_
      rintro e w4 ⟨rfl, b4⟩
      have t4 := t3.trans (b4.mono t3.size)
      have sp_4 := sp_3.later b4
      go_wp2_with fail
      refine (says_to (ngI_any _ _ _ ys _ sp_4 H64) (E3.out)).mono ?_
      rintro e w5 ⟨rfl, b5⟩
      have t5 := t4.trans (b5.mono t4.size)
      have sp_5 := sp_4.later b5
      go_wp2_with fail
      refine (oppS_any _ _ _ ys _ sp_5 Hv).mono ?_
      rintro e w6 ⟨u6, rfl, o6, b6⟩
      have t6 := t5.trans (b6.mono t5.size)
      have sp_6 := sp_5.later b6
      obtain ⟨ado, cpo, rfl, so_6⟩ := o6.sl
      clear o6
      go_wp2_with fail
      refine (says_to (flagI_any _ _ _ (negL ys) _ so_6 Hn64) (E2.out)).mono ?_
      rintro e w7 ⟨rfl, b7⟩
      have t7 := t6.trans (b7.mono t6.size)
      have sp_7 := sp_6.later b7
      have so_7 := so_6.later b7
      go_wp2
      go_ret
      exact ⟨rfl, t7⟩
    · have Hv := hid hv
      clear hv
      go_wp2_with fail
      refine (says_to (flagI_any _ _ _ ys _ sp_1 H64) (onSi_no Hv.out)).mono ?_
      rintro e w2 ⟨rfl, b2⟩
      have t2 := t1.trans (b2.mono t1.size)
      have sp_2 := sp_1.later b2
      go_wp2_with fail
      refine (says_to (flagS_any _ _ _ ys _ sp_2) (onSi_no Hv.out)).mono ?_
      rintro e w3 ⟨rfl, b3⟩
      have t3 := t2.trans (b3.mono t2.size)
      have sp_3 := sp_2.later b3
      go_wp2_with fail
      refine (says_tob (svI_any _ _ _ ys _ sp_3 H64) (decide_eq_false Hv.out)).mono ?_
      rintro e w4 ⟨rfl, b4⟩
      have t4 := t3.trans (b4.mono t3.size)
      have sp_4 := sp_3.later b4
      go_wp2_with fail
      refine (says_to (flagS_any _ _ _ ys _ sp_4) (onSi_no Hv.out)).mono ?_
      rintro e w5 ⟨rfl, b5⟩
      have t5 := t4.trans (b5.mono t4.size)
      have sp_5 := sp_4.later b5
      go_wp2
      go_ret
      exact ⟨rfl, t5⟩
  · go_enter Try.func11, Try.ntmps11
    go_wp2
    go_ret
    exact ⟨rfl, Below.refl _ _⟩

set_option maxHeartbeats 2000000 in
theorem fnFallsOf (bo : Option Addr) (n cap : Nat) (cs : List Int) (w : World) (h : Slb w bo n cap cs) :
    Calls Try.prog 13 #[.slice bo n cap] w (Says w (.bool true)) := by
  have hbig := h.big
  by_cases hn : n ≤ 1048576
  · go_enter Try.func13, Try.ntmps13
    go_wp2_with fail
    refine (drawFallsOf_any _ _ _ _ _ h).mono ?_
    rintro e w1 ⟨u1, ys, rfl, o1, H64, hl, t1⟩
    obtain ⟨adp, cpp, rfl, sp_1⟩ := o1.sl
    have Hl := hid hl
    clear hl o1
    by_cases hv : SV ys
    · have Hv := hid hv
      clear hv
      have hA := hid Hv.out.okA
      have h5 := Hv.out.len
      have Hi := hid (SV.inv Hv.out)
      have Hi64 := hid Hi.out.r64
      have Hn := hid (SV.neg Hv.out)
      have Hn64 := hid Hn.out.r64
      obtain ⟨G, HG⟩ : ∃ G, Hid (G = fallS ys) := ⟨_, rfl⟩
      have hG0 : 0 ≤ G := by rw [HG.out]; exact SV.fall_nn ys
      have hGP : G ≤ ys.length := by have h1 := hA.out.2.2.2.2.2.2; have h2 := SV.fall_nn (negL ys); have := HG.out; omega
      have E2 : Hid (onSi (negL ys) (fallS (negL ys)) (-1) = (ys.length : Int) - G) := hid ((onSi_yes Hn.out).trans (by have := hA.out.2.2.2.2.2.2; have := HG.out; omega))
      have hsum2 : (G + ((ys.length : Int) - G) == (ys.length : Int)) = true := by rw [show G + ((ys.length : Int) - G) = (ys.length : Int) by omega]; simp
      go_wp2_with fail
      refine (says_to (fallI_any _ _ _ ys _ sp_1 H64) ((onSi_yes Hv.out).trans HG.out.symm)).mono ?_
      rintro e w2 ⟨rfl, b2⟩
      have t2 := t1.trans (b2.mono t1.size)
      have sp_2 := sp_1.later b2
      go_wp2_with fail
      refine (says_to (fallS_any _ _ _ ys _ sp_2) ((onSi_yes Hv.out).trans HG.out.symm)).mono ?_
      rintro e w3 ⟨rfl, b3⟩
      have t3 := t2.trans (b3.mono t2.size)
      have sp_3 := sp_2.later b3
      go_wp2_with fail
      refine (says_tob (svI_any _ _ _ ys _ sp_3 H64) (decide_eq_true Hv.out)).mono ?_
      rintro e w4 ⟨rfl, b4⟩
      have t4 := t3.trans (b4.mono t3.size)
      have sp_4 := sp_3.later b4
      go_wp2_with fail
      refine (oppS_any _ _ _ ys _ sp_4 Hv).mono ?_
      rintro e w5 ⟨u5, rfl, o5, b5⟩
      have t5 := t4.trans (b5.mono t4.size)
      have sp_5 := sp_4.later b5
      obtain ⟨ado, cpo, rfl, so_5⟩ := o5.sl
      clear o5
      go_wp2_with fail
      refine (says_to (fallI_any _ _ _ (negL ys) _ so_5 Hn64) (E2.out)).mono ?_
      rintro e w6 ⟨rfl, b6⟩
      have t6 := t5.trans (b6.mono t5.size)
      have sp_6 := sp_5.later b6
      have so_6 := so_5.later b6
      go_wp2
      go_ret
      exact ⟨rfl, t6⟩
    · have Hv := hid hv
      clear hv
      go_wp2_with fail
      refine (says_to (fallI_any _ _ _ ys _ sp_1 H64) (onSi_no Hv.out)).mono ?_
      rintro e w2 ⟨rfl, b2⟩
      have t2 := t1.trans (b2.mono t1.size)
      have sp_2 := sp_1.later b2
      go_wp2_with fail
      refine (says_to (fallS_any _ _ _ ys _ sp_2) (onSi_no Hv.out)).mono ?_
      rintro e w3 ⟨rfl, b3⟩
      have t3 := t2.trans (b3.mono t2.size)
      have sp_3 := sp_2.later b3
      go_wp2_with fail
      refine (says_tob (svI_any _ _ _ ys _ sp_3 H64) (decide_eq_false Hv.out)).mono ?_
      rintro e w4 ⟨rfl, b4⟩
      have t4 := t3.trans (b4.mono t3.size)
      have sp_4 := sp_3.later b4
      go_wp2_with fail
      refine (says_to (fallS_any _ _ _ ys _ sp_4) (onSi_no Hv.out)).mono ?_
      rintro e w5 ⟨rfl, b5⟩
      have t5 := t4.trans (b5.mono t4.size)
      have sp_5 := sp_4.later b5
      go_wp2
      go_ret
      exact ⟨rfl, t5⟩
  · go_enter Try.func13, Try.ntmps13
    go_wp2
    go_ret
    exact ⟨rfl, Below.refl _ _⟩

end Go.Proofs.Ytjgaglfinpeeoaa
