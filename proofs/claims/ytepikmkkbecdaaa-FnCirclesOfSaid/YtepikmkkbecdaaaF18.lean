/- The walk of the law of CirclesOf. Condition of the laws' own: at most 2^20 bytes. -/
import Derived.Test.YtepikmkkbecdaaaLawL
import Derived.Test.YtepikmkkbecdaaaDraw4
import Derived.Test.YtepikmkkbecdaaaCir
import Derived.Test.YtepikmkkbecdaaaFinCyK
import Derived.Test.YtepikmkkbecdaaaDesc
namespace Go.Proofs.Ytepikmkkbecdaaa
open Go.RowKit

theorem sumLen_take {yss : List (List Int)} {k : Nat} (h : k < yss.length) : sumLen (yss.take (k + 1)) = sumLen (yss.take k) + (ell yss k).length := by
  rw [List.take_succ_eq_append_getElem h, sumLen_app, ell_lt h]
theorem sumLen_le (yss : List (List Int)) (k : Nat) : sumLen (yss.take k) ≤ sumLen yss := by
  have e : sumLen yss = sumLen (yss.take k) + sumLen (yss.drop k) := by
    rw [sumLen, sumLen, sumLen, ← List.sum_append, ← List.map_append, List.take_append_drop]
  omega
/-- One circle, for the walk. -/
structure OneC (xs : List Int) (n P : Nat) (c : List Int) : Prop where
  lo : 1 ≤ P
  hi : P ≤ 7
  at' : ∀ i, i < P → ∃ v : Nat, el c i = v ∧ v < n
  next : ∀ i, i < P → el xs (el c i).toNat = if i + 1 < P then el c (i + 1) else el c 0
  head : ∀ i, i < P → el c 0 ≤ el c i
theorem circ_one {xs : List Int} (h : Valid xs) {k : Nat} (hk : k < (circles xs).length) : OneC xs xs.length (ell (circles xs) k).length (ell (circles xs) k) := by
  obtain ⟨x, hx, hl, e⟩ := (ciP_at h xs.length (Nat.le_refl _)).1 k hk
  have hxi : 0 ≤ (x : Int) ∧ (x : Int) < xs.length := ⟨by omega, by omega⟩
  have e' : ell (circles xs) k = cyc xs (x : Int) := e
  have hp := per_spec h hxi
  have h7 := h.len
  rw [e', cyc_len]
  refine ⟨hp.1, by omega, fun i hi => ?_, fun i hi => cyc_next h hxi hi, fun i hi => cyc_head h hxi hl hi⟩
  have := itr_in h hxi i
  rw [el_cyc hi]
  exact ⟨(itr xs x i).toNat, by omega, by omega⟩
theorem circ_up {xs : List Int} (h : Valid xs) {k : Nat} (hk : k + 1 < (circles xs).length) : el (ell (circles xs) k) 0 < el (ell (circles xs) (k + 1)) 0 :=
  (ciP_at h xs.length (Nat.le_refl _)).2 (k + 1) hk (by omega)

set_option maxRecDepth 20000 in
set_option maxHeartbeats 4000000 in
theorem fnCirclesOf (bo : Option Addr) (n cap : Nat) (cs : List Int) (w : World) (h : Slb w bo n cap cs) :
    Calls Try.prog 8 #[.slice bo n cap] w (Says w (.bool true)) := by
  have hbig := h.big
  by_cases hn : n ≤ 1048576
  · go_enter Try.func8, Try.ntmps8
    go_wp2_with fail
    refine (drawCirclesOf_any _ _ _ _ _ h).mono ?_
    rintro e w1 ⟨u1, ys, rfl, o1, hl, t1⟩
    obtain ⟨adp, cpp, rfl, sp_1⟩ := o1.sl
    have Hl := hid hl
    clear hl o1
    by_cases hv : Valid ys
    · have Hv := hid hv
      clear hv
      go_wp2_with fail
      refine (madeL_to (circlesI_any _ _ _ ys _ sp_1) (onVL_yes Hv.out)).mono ?_
      rintro e w2 ⟨u2, rfl, o2, b2⟩
      have t2 := t1.trans (b2.mono t1.size)
      have sp_2 := sp_1.later b2
      obtain ⟨ada, cpa, rfl, sa_2⟩ := o2.sl
      clear o2
      go_wp2_with fail
      refine (madeL_to (circlesS_any _ _ _ ys _ sp_2) (onVL_yes Hv.out)).mono ?_
      rintro e w3 ⟨u3, rfl, o3, b3⟩
      have t3 := t2.trans (b3.mono t2.size)
      have sp_3 := sp_2.later b3
      have sa_3 := sa_2.later b3
      obtain ⟨ade, cpe, rfl, se_3⟩ := o3.sl
      clear o3
      go_wp2_with fail
      refine (says_tob (equalLists_any _ _ _ (circles ys) _ _ _ (circles ys) _ sa_3 se_3) (decide_eq_true rfl)).mono ?_
      rintro e w4 ⟨rfl, b4⟩
      have t4 := t3.trans (b4.mono t3.size)
      have sp_4 := sp_3.later b4
      have sa_4 := sa_3.later b4
      have se_4 := se_3.later b4
      go_wp2_with fail
      refine (says_tob (validI_any _ _ _ ys _ sp_4) (decide_eq_true Hv.out)).mono ?_
      rintro e w5 ⟨rfl, b5⟩
      have t5 := t4.trans (b5.mono t4.size)
      have sp_5 := sp_4.later b5
      have sa_5 := sa_4.later b5
      have se_5 := se_4.later b5
      have hl7 := Hv.out.len
      have hcl : (circles ys).length ≤ ys.length := ciP_len ys ys.length
      have Hf := hid (cir_facts Hv.out)
      have Hsl : Hid (∀ k, sumLen ((circles ys).take k) ≤ 7) := fun k => by have a := sumLen_le (circles ys) k; rw [Hf.out.1] at a; omega
      have Hone : Hid (∀ k, k < (circles ys).length → OneC ys ys.length (ell (circles ys) k).length (ell (circles ys) k)) := fun k hk => circ_one Hv.out hk
      have Hup : Hid (∀ k, k + 1 < (circles ys).length → el (ell (circles ys) k) 0 < el (ell (circles ys) (k + 1)) 0) := fun k hk => circ_up Hv.out hk
      obtain ⟨cs, hcs⟩ : ∃ cs, cs = circles ys := ⟨_, rfl⟩
      have sa := sa_5
      rw [← hcs] at sa hcl Hf Hsl Hone Hup ⊢
      obtain ⟨m, hm⟩ : ∃ m, m = cs.length := ⟨_, rfl⟩
      rw [← hm] at sa hcl Hf Hone Hup ⊢
      have Hm := hid hm
      clear hm hcs
      go_wp2
      go_loopw [5, 6] (fun q i wr => ∃ (k : Nat), k ≤ m ∧ q = .int .i64 (sumLen (cs.take k) : Nat) ∧ i = .int .i64 k ∧ Below w5.heap.size w5 wr)
        (fun _ i _ => m - (intOf i).toNat)
      case atStart => exact ⟨0, Nat.zero_le _, rfl, rfl, Below.refl _ _⟩
      case round =>
        obtain ⟨k, hk, rfl, rfl, hbr⟩ := hrel
        have hs7 := Hsl.out k
        by_cases hlt : k < m
        · have Ho := hid (Hone.out k hlt)
          have hs8 := Hsl.out (k + 1)
          have Hst := hid (sumLen_take (yss := cs) (k := k) (by rw [← Hm.out]; exact hlt))
          obtain ⟨C, hC⟩ : ∃ C, C = ell cs k := ⟨_, rfl⟩
          obtain ⟨b, off, rfl, hblt, hc⟩ := sa.row (by omega)
          have Hc := hid hc
          obtain ⟨a1, c1, hcell0, hs1⟩ := hc k hlt
          rw [← hC] at Ho Hst hcell0 hs1
          obtain ⟨P, hP⟩ : ∃ P, P = C.length := ⟨_, rfl⟩
          rw [← hP] at Ho Hst hcell0 hs1
          have HC := hid hC
          have hp1 := Ho.out.lo
          have hp7 := Ho.out.hi
          have hki : (k : Int) < m := by omega
          have hsb : sumLen (cs.take k) + P ≤ 7 := by have := Hst.out; omega
          have HC0 := hid hcell0
          obtain ⟨b1, o1, rfl, hb1lt, hc1⟩ := hs1.row (by omega)
          have Hc1 := hid hc1
          clear hc hcell0 hC hP hs8 hc1
          go_wp2
          go_loopw [7] (fun i wr => ∃ (t : Nat), t ≤ P ∧ i = .int .i64 t ∧ Below w5.heap.size w5 wr)
            (fun i _ => P - (intOf i).toNat)
          case atStart => exact ⟨0, Nat.zero_le _, rfl, hbr⟩
          case round =>
            obtain ⟨t, ht, rfl, hbt⟩ := hrel
            have hcell0 := (hbt.cell (p := ⟨b, off + k, none⟩) hblt).trans HC0.out
            by_cases htl : t < P
            · obtain ⟨v, hv, hvn⟩ := Ho.out.at' t htl
              obtain ⟨v0, hv0, hv0n⟩ := Ho.out.at' 0 (by omega)
              have hnx := Ho.out.next t htl
              have hhd := Ho.out.head t htl
              rw [hv, hv0] at hhd
              rw [hv, hv0, Int.toNat_natCast] at hnx
              have hcz := (hbt.cell (p := ⟨b1, o1 + 0, none⟩) hb1lt).trans (Hc1.out 0 (by omega))
              rw [hv0, Nat.add_zero] at hcz
              have hct := (hbt.cell (p := ⟨b1, o1 + t, none⟩) hb1lt).trans (Hc1.out t htl)
              rw [hv] at hct
              obtain ⟨bp, op, e1, hbplt, hcp⟩ := sp_5.row (by omega)
              subst e1
              have hcv := (hbt.cell (p := ⟨bp, op + v, none⟩) hbplt).trans (hcp v hvn)
              have hvi : (v : Int) < ys.length := by omega
              have hno : ¬ (v : Int) < v0 := by omega
              have hti : (t : Int) < P := by omega
              have h0i : (0 : Int) < P := by omega
              clear hcp hhd
              by_cases htn : t + 1 < P
              · obtain ⟨v1, hv1, hv1n⟩ := Ho.out.at' (t + 1) htn
                have hc2 := (hbt.cell (p := ⟨b1, o1 + (t + 1), none⟩) hb1lt).trans (Hc1.out (t + 1) htn)
                rw [hv1] at hc2
                rw [if_pos htn, hv1] at hnx
                rw [hnx] at hcv
                have hti2 : (t : Int) + 1 < P := by omega
                have Hv1 := hid hv1
                have Hvv := hid hv
                have Hv0 := hid hv0
                have Htn := hid htn
                clear hv hv0 hv1 hnx htn
                go_wp2_with fail
                go_quiet (fail)
                go_wp2
                go_roundw
                case rel => exact ⟨t + 1, by omega, by go_num, drewN_below hbt _⟩
                case measure => simp [intOf]; omega
              · rw [if_neg htn] at hnx
                rw [hnx] at hcv
                have hti2 : ¬ (t : Int) + 1 < P := by omega
                have Hvv := hid hv
                have Hv0 := hid hv0
                have Htn := hid htn
                clear hv hv0 hnx htn
                go_wp2_with fail
                go_quiet (fail)
                go_wp2
                go_roundw
                case rel => exact ⟨t + 1, by omega, by go_num, drewN_below hbt _⟩
                case measure => simp [intOf]; omega
            · obtain rfl : t = P := by omega
              obtain ⟨v0, hv0, hv0n⟩ := Ho.out.at' 0 (by omega)
              have hcz := (hbt.cell (p := ⟨b1, o1 + 0, none⟩) hb1lt).trans (Hc1.out 0 (by omega))
              rw [hv0, Nat.add_zero] at hcz
              have h0i : (0 : Int) < t := by omega
              cases k with
              | zero =>
                have Hv0 := hid hv0
                have hcell00 := hcell0
                rw [Nat.add_zero] at hcell00
                have h0m : (0 : Int) < m := by omega
                have h00 : ¬ (0 : Int) < 0 := by omega
                clear hv0 hcell0
                have Hst0 : Hid (sumLen (cs.take 1) = t) := hid (by have := Hst.out; rw [Nat.zero_add, show sumLen (cs.take 0) = 0 from rfl, Nat.zero_add] at this; exact this)
                rw [show sumLen (cs.take 0) = 0 from rfl, show ((0 : Nat) : Int) = 0 from rfl]
                go_wp2_with fail
                go_quiet (fail)
                go_wp2
                go_roundw
                case rel => exact ⟨1, by omega, by rw [Hst0.out], by go_num, by first | exact hbt | exact drewN_below hbt _⟩
                case measure => simp [intOf]; omega
              | succ k' =>
                have hup := Hup.out k' hlt
                rw [← HC.out, hv0] at hup
                have Ho' := Hone.out k' (by omega)
                obtain ⟨v9, hv9, hv9n⟩ := Ho'.at' 0 Ho'.lo
                have hl9 := Ho'.lo
                rw [hv9] at hup
                obtain ⟨a9, c9, hcell9, hs9⟩ := Hc.out k' (by omega)
                obtain ⟨P9, hP9⟩ : ∃ P9, P9 = (ell cs k').length := ⟨_, rfl⟩
                rw [← hP9] at hcell9 hs9 hl9
                have hcell9' := (hbt.cell (p := ⟨b, off + k', none⟩) hblt).trans hcell9
                obtain ⟨b9, o9, rfl, hb9lt, hc9⟩ := hs9.row (by omega)
                have hcz9 := (hbt.cell (p := ⟨b9, o9 + 0, none⟩) hb9lt).trans (hc9 0 (by omega))
                rw [hv9, Nat.add_zero] at hcz9
                have hno : ¬ (v0 : Int) ≤ v9 := by omega
                have h9i : (0 : Int) < P9 := by omega
                have hkp : (0 : Int) < (k' : Int) + 1 := by omega
                have hkm : (k' : Int) < m := by omega
                have hkm1 : (k' : Int) + 1 < m := by omega
                have Hv0 := hid hv0
                have Hv9 := hid hv9
                clear hv0 hv9 hup Ho' hc9 hP9 hs9 hcell9
                go_wp2_with fail
                go_quiet (fail)
                go_wp2
                go_roundw
                case rel => exact ⟨k' + 1 + 1, by omega, by rw [Hst.out]; first | rfl | (congr 1; omega) | simp, by go_num, drewN_below hbt _⟩
                case measure => simp [intOf]; omega
        · obtain rfl : k = m := by omega
          have hsum : sumLen (cs.take k) = ys.length := by rw [Hm.out, List.take_length, Hf.out.1]
          rw [hsum] at hs7 ⊢
          have hsg := Hf.out.2.1
          have spx := sp_5.later hbr
          clear hsum
          by_cases hodd : ((ys.length : Int) - (k : Int)) % 2 = 0
          · have hs1 : sgn ys = 1 := by rw [hsg, hodd]; rfl
            have Hs1 := hid hs1
            clear hs1 hsg
            go_wp2_with fail
            refine (says_to (signI_any _ _ _ ys _ spx) ((onVi_yes Hv.out).trans Hs1.out)).mono ?_
            rintro e wz ⟨rfl, bz⟩
            go_wp2
            go_ret
            exact ⟨rfl, (t5.trans (hbr.mono t5.size)).trans (bz.mono (t5.trans (hbr.mono t5.size)).size)⟩
          · have hodd1 : ((ys.length : Int) - (k : Int)) % 2 = 1 := by omega
            have hs1 : sgn ys = -1 := by rw [hsg, hodd1]; rfl
            have Hs1 := hid hs1
            clear hs1 hsg hodd
            go_wp2_with fail
            refine (says_to (signI_any _ _ _ ys _ spx) ((onVi_yes Hv.out).trans Hs1.out)).mono ?_
            rintro e wz ⟨rfl, bz⟩
            go_wp2
            go_ret
            exact ⟨rfl, (t5.trans (hbr.mono t5.size)).trans (bz.mono (t5.trans (hbr.mono t5.size)).size)⟩
    · have Hv := hid hv
      clear hv
      go_wp2_with fail
      refine (madeL_to (circlesI_any _ _ _ ys _ sp_1) (onVL_no Hv.out)).mono ?_
      rintro e w2 ⟨u2, rfl, o2, b2⟩
      have t2 := t1.trans (b2.mono t1.size)
      have sp_2 := sp_1.later b2
      obtain ⟨add, cpd, rfl, sd_2⟩ := o2.sl
      clear o2
      go_wp2_with fail
      refine (madeL_to (circlesS_any _ _ _ ys _ sp_2) (onVL_no Hv.out)).mono ?_
      rintro e w3 ⟨u3, rfl, o3, b3⟩
      have t3 := t2.trans (b3.mono t2.size)
      have sp_3 := sp_2.later b3
      have sd_3 := sd_2.later b3
      obtain ⟨ade, cpe, rfl, se_3⟩ := o3.sl
      clear o3
      go_wp2_with fail
      refine (says_tob (equalLists_any _ _ _ [] _ _ _ [] _ sd_3 se_3) (decide_eq_true rfl)).mono ?_
      rintro e w4 ⟨rfl, b4⟩
      have t4 := t3.trans (b4.mono t3.size)
      have sp_4 := sp_3.later b4
      have sd_4 := sd_3.later b4
      have se_4 := se_3.later b4
      go_wp2_with fail
      refine (says_tob (validI_any _ _ _ ys _ sp_4) (decide_eq_false Hv.out)).mono ?_
      rintro e w5 ⟨rfl, b5⟩
      have t5 := t4.trans (b5.mono t4.size)
      have sp_5 := sp_4.later b5
      have sd_5 := sd_4.later b5
      have se_5 := se_4.later b5
      go_wp2_with fail
      refine (madeL_to (circlesS_any _ _ _ ys _ sp_5) (onVL_no Hv.out)).mono ?_
      rintro e w6 ⟨u6, rfl, o6, b6⟩
      have t6 := t5.trans (b6.mono t5.size)
      have sp_6 := sp_5.later b6
      have sd_6 := sd_5.later b6
      have se_6 := se_5.later b6
      obtain ⟨ade2, cpe2, rfl, se2_6⟩ := o6.sl
      clear o6
      go_wp2_with fail
      refine (says_tob (equalLists_any _ _ _ [] _ _ _ [] _ sd_6 se2_6) (decide_eq_true rfl)).mono ?_
      rintro e w7 ⟨rfl, b7⟩
      have t7 := t6.trans (b7.mono t6.size)
      have sp_7 := sp_6.later b7
      have sd_7 := sd_6.later b7
      have se_7 := se_6.later b7
      have se2_7 := se2_6.later b7
      go_wp2
      go_ret
      exact ⟨rfl, t7⟩
  · go_enter Try.func8, Try.ntmps8
    go_wp2
    go_ret
    exact ⟨rfl, Below.refl _ _⟩

end Go.Proofs.Ytepikmkkbecdaaa
