/- The walk of the law of InverseSigned. Condition of the law's own: at most 2^20 bytes. -/
import Derived.Test.YtjgaglfinpeeoabLawFn
import Derived.Test.YtjgaglfinpeeoabDrawG
import Derived.Test.YtjgaglfinpeeoabSgnE
import Derived.Test.YtjgaglfinpeeoabFinGm
namespace Go.Proofs.Ytjgaglfinpeeoab
open Go.RowKit

theorem made2_to {P : Program} {f : FuncId} {a : Array Value} {w : World} {v v' : List Int} {b b' : Bool} (h : Calls P f a w (Made2 w v b)) (e : v = v') (e2 : b = b') : Calls P f a w (Made2 w v' b') := by subst e e2; exact h

set_option maxHeartbeats 2000000 in
theorem fnInverseSigned (bo : Option Addr) (n cap : Nat) (cs : List Int) (w : World) (h : Slb w bo n cap cs) :
    Calls Try.prog 5 #[.slice bo n cap] w (Says w (.bool true)) := by
  have hbig := h.big
  by_cases hn : n ≤ 1048576
  · go_enter Try.func5, Try.ntmps5
    go_wp2_with fail
    refine (drawInverseSigned_any _ _ _ _ _ h).mono ?_
    rintro e w1 ⟨u1, ys, rfl, o1, H64, hl, t1⟩
    obtain ⟨adp, cpp, rfl, sp_1⟩ := o1.sl
    have Hl := hid hl
    clear hl o1
    by_cases hv : SV ys
    · have Hv := hid hv
      clear hv
      have Hi := hid (SV.inv Hv.out)
      have Hi64 := hid Hi.out.r64
      have h5 := Hv.out.len
      have Hm : Hid (SM ys (invS ys)) := hid ⟨Hv.out, Hi.out, (invS_len ys).symm⟩
      have Hii : Hid (onS (invS ys) (invS (invS ys)) = ys) := hid ((onS_yes Hi.out).trans Hv.out.okC.2.1)
      go_wp2_with fail
      refine (made_to (isgI_any _ _ _ ys _ sp_1 H64) (onS_yes Hv.out)).mono ?_
      rintro e w2 ⟨u2, rfl, o2, b2⟩
      have t2 := t1.trans (b2.mono t1.size)
      have sp_2 := sp_1.later b2
      obtain ⟨adv, cpv, rfl, sv_2⟩ := o2.sl
      clear o2
      go_wp2_with fail
      refine (made_to (isgS_any _ _ _ ys _ sp_2) (onS_yes Hv.out)).mono ?_
      rintro e w3 ⟨u3, rfl, o3, b3⟩
      have t3 := t2.trans (b3.mono t2.size)
      have sp_3 := sp_2.later b3
      have sv_3 := sv_2.later b3
      obtain ⟨adx, cpx, rfl, sx_3⟩ := o3.sl
      clear o3
      go_wp2_with fail
      refine (says_tob (equalInts_any _ _ _ (invS ys) _ _ _ (invS ys) _ sv_3 sx_3) (decide_eq_true rfl)).mono ?_
      rintro e w4 ⟨rfl, b4⟩
      have t4 := t3.trans (b4.mono t3.size)
      have sp_4 := sp_3.later b4
      have sv_4 := sv_3.later b4
      have sx_4 := sx_3.later b4
      go_wp2_with fail
      refine (says_tob (svI_any _ _ _ ys _ sp_4 H64) (decide_eq_true Hv.out)).mono ?_
      rintro e w5 ⟨rfl, b5⟩
      have t5 := t4.trans (b5.mono t4.size)
      have sp_5 := sp_4.later b5
      have sv_5 := sv_4.later b5
      have sx_5 := sx_4.later b5
      go_wp2_with fail
      refine (made2_to (mulI_any _ _ _ ys _ _ _ (invS ys) _ sp_5 sv_5 H64 Hi64) ((onSM_yes Hm.out).trans Hv.out.okC.2.2) (decide_eq_true Hm.out)).mono ?_
      rintro e w6 ⟨u6, rfl, o6, b6⟩
      have t6 := t5.trans (b6.mono t5.size)
      have sp_6 := sp_5.later b6
      have sv_6 := sv_5.later b6
      have sx_6 := sx_5.later b6
      obtain ⟨ado, cpo, rfl, so_6⟩ := o6.sl
      clear o6
      have hso := so_6
      have hsp := sp_6
      have hsv := sv_6
      have hul : (unit1 1 ys.length).length = ys.length := by have := congrArg List.length (unit1_map id ys.length 1); simpa using this
      have hue : Hid (∀ k, k < ys.length → el (unit1 1 ys.length) k = (k : Int) + 1) := fun k hk => by have e := unit1_map id ys.length 1; rw [List.map_id] at e; rw [e, el_map hk]; simp; omega
      obtain ⟨n2, hn2⟩ : ∃ n2, n2 = ys.length := ⟨_, rfl⟩
      rw [hul] at hso ⊢
      rw [invS_len] at hsv ⊢
      rw [← hn2] at hso hsp hsv hue h5 ⊢
      have Hn2 := hid hn2
      clear hn2 hul
      go_wp2
      go_loopw [7] (fun i wr => ∃ k : Nat, k ≤ n2 ∧ i = .int .i64 k ∧ Below w6.heap.size w6 wr) (fun i _ => n2 - (intOf i).toNat)
      case atStart => exact ⟨0, Nat.zero_le _, rfl, Below.refl _ _⟩
      case round =>
        obtain ⟨k, hk, rfl, hbr⟩ := hrel
        by_cases hlt : k < n2
        · obtain ⟨b, off, rfl, hblt, hc⟩ := hso.row (by omega)
          have hcell := (hbr.cell (p := ⟨b, off + k, none⟩) hblt).trans (hc k hlt)
          rw [hue.out k hlt] at hcell
          have hki : (k : Int) < n2 := by omega
          clear hc
          go_wp2
          go_roundw
          case rel => exact ⟨k + 1, by omega, by go_num, hbr⟩
          case measure => simp [intOf]; omega
        · obtain rfl : k = n2 := by omega
          have tr := t6.trans (hbr.mono t6.size)
          have svr := hsv.later hbr
          have spr := hsp.later hbr
          go_wp2_with fail
          refine (made_to (isgI_any _ _ _ (invS ys) _ svr Hi64) Hii.out).mono ?_
          rintro e wa ⟨ua, rfl, oa, ba⟩
          obtain ⟨ada, cpa, rfl, sa⟩ := oa.sl
          have ta := tr.trans (ba.mono tr.size)
          have spa := spr.later ba
          rw [← Hn2.out] at sa ⊢
          go_wp2_with fail
          refine (says_tob (equalInts_any _ _ _ ys _ _ _ ys _ sa spa) (decide_eq_true rfl)).mono ?_
          rintro e wb ⟨rfl, bb⟩
          go_wp2
          go_ret
          exact ⟨rfl, ta.trans (bb.mono ta.size)⟩
    · have Hv := hid hv
      clear hv
      go_wp2_with fail
      refine (made_to (isgI_any _ _ _ ys _ sp_1 H64) (onS_no Hv.out)).mono ?_
      rintro e w2 ⟨u2, rfl, o2, b2⟩
      have t2 := t1.trans (b2.mono t1.size)
      have sp_2 := sp_1.later b2
      obtain ⟨adv, cpv, rfl, sv_2⟩ := o2.sl
      clear o2
      go_wp2_with fail
      refine (made_to (isgS_any _ _ _ ys _ sp_2) (onS_no Hv.out)).mono ?_
      rintro e w3 ⟨u3, rfl, o3, b3⟩
      have t3 := t2.trans (b3.mono t2.size)
      have sp_3 := sp_2.later b3
      have sv_3 := sv_2.later b3
      obtain ⟨adx, cpx, rfl, sx_3⟩ := o3.sl
      clear o3
      go_wp2_with fail
      refine (says_tob (equalInts_any _ _ _ (([] : List Int)) _ _ _ (([] : List Int)) _ sv_3 sx_3) (decide_eq_true rfl)).mono ?_
      rintro e w4 ⟨rfl, b4⟩
      have t4 := t3.trans (b4.mono t3.size)
      have sp_4 := sp_3.later b4
      have sv_4 := sv_3.later b4
      have sx_4 := sx_3.later b4
      go_wp2_with fail
      refine (says_tob (svI_any _ _ _ ys _ sp_4 H64) (decide_eq_false Hv.out)).mono ?_
      rintro e w5 ⟨rfl, b5⟩
      have t5 := t4.trans (b5.mono t4.size)
      have sp_5 := sp_4.later b5
      have sv_5 := sv_4.later b5
      have sx_5 := sx_4.later b5
      go_wp2_with fail
      refine (made_to (isgS_any _ _ _ ys _ sp_5) (onS_no Hv.out)).mono ?_
      rintro e w6 ⟨u6, rfl, o6, b6⟩
      have t6 := t5.trans (b6.mono t5.size)
      have sp_6 := sp_5.later b6
      have sv_6 := sv_5.later b6
      have sx_6 := sx_5.later b6
      obtain ⟨adx2, cpx2, rfl, sx2_6⟩ := o6.sl
      clear o6
      go_wp2_with fail
      refine (says_tob (equalInts_any _ _ _ (([] : List Int)) _ _ _ (([] : List Int)) _ sv_6 sx2_6) (decide_eq_true rfl)).mono ?_
      rintro e w7 ⟨rfl, b7⟩
      have t7 := t6.trans (b7.mono t6.size)
      have sp_7 := sp_6.later b7
      have sv_7 := sv_6.later b7
      have sx_7 := sx_6.later b7
      have sx2_7 := sx2_6.later b7
      go_wp2
      go_ret
      exact ⟨rfl, t7⟩
  · go_enter Try.func5, Try.ntmps5
    go_wp2
    go_ret
    exact ⟨rfl, Below.refl _ _⟩

end Go.Proofs.Ytjgaglfinpeeoab
