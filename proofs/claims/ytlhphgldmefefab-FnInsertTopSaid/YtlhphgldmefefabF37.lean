/- The walk of the law of InsertTop. Condition of the laws' own: at most 2^20 bytes. -/
import Derived.Test.YtlhphgldmefefabLawFn2
import Derived.Test.YtlhphgldmefefabDrawI
import Derived.Test.YtlhphgldmefefabInsI
import Derived.Test.YtlhphgldmefefabIns
import Derived.Test.YtlhphgldmefefabTab
namespace Go.Proofs.Ytlhphgldmefefab
open Go.RowKit

theorem made2_to {P : Program} {f : FuncId} {a : Array Value} {w : World} {v v' : List Int} {b b' : Bool} (h : Calls P f a w (Made2 w v b)) (e : v = v') (eb : b = b') : Calls P f a w (Made2 w v' b') := e ▸ eb ▸ h

theorem Sl.cellAt {w : World} {b off n cap j : Nat} {xs : List Int} (h : Sl w (some ⟨b, off, none⟩) n cap xs) (hj : j < n) : w.cell? ⟨b, off + j, none⟩ = some (.int .i64 (el xs j)) := by
  obtain ⟨b', off', e, _, hc⟩ := h.row (by omega)
  simp only [Option.some.injEq, Addr.mk.injEq, and_true] at e
  obtain ⟨rfl, rfl⟩ := e
  exact hc j hj

set_option maxHeartbeats 4000000 in
theorem fnInsertTop (bo : Option Addr) (n cap : Nat) (cs : List Int) (w : World) (h : Slb w bo n cap cs) :
    Calls Try.prog 5 #[.slice bo n cap] w (Says w (.bool true)) := by
  have hbig := h.big
  by_cases hn : n ≤ 1048576
  · go_enter Try.func5, Try.ntmps5
    go_wp2_with fail
    refine (drawInsertTop_any _ _ _ _ _ h).mono ?_
    rintro e w1 ⟨u1, ys, K, rfl, o1, hl, t1⟩
    obtain ⟨adp, cpp, rfl, sp_1⟩ := o1.sl
    have np := hid o1.nilcap
    have Hl := hid hl
    clear hl o1
    by_cases hv : IT ys K
    · have Hv := hid hv
      clear hv
      obtain ⟨m, rfl⟩ := Int.eq_ofNat_of_zero_le Hv.out.2.2.1
      have hmn : m ≤ ys.length := by have := Hv.out.2.2.2; omega
      have Hmn := hid hmn
      have hl7 : ys.length ≤ 6 := by have := Hv.out.2.1; omega
      go_wp2_with fail
      refine (made2_to (insI_any _ _ _ ys (m : Int) _ sp_1 np.out) ((onIT_yes Hv.out).trans (by rw [Int.toNat_natCast])) (decide_eq_true Hv.out)).mono ?_
      rintro e w2 ⟨u2, rfl, o2, b2⟩
      have t2 := t1.trans (b2.mono t1.size)
      have sp_2 := sp_1.later b2
      obtain ⟨ada, cpa, rfl, sa_2⟩ := o2.sl
      clear o2
      go_wp2_with fail
      refine (made2_to (insS_any _ _ _ ys (m : Int) _ sp_2 np.out) ((onIT_yes Hv.out).trans (by rw [Int.toNat_natCast])) (decide_eq_true Hv.out)).mono ?_
      rintro e w3 ⟨u3, rfl, o3, b3⟩
      have t3 := t2.trans (b3.mono t2.size)
      have sp_3 := sp_2.later b3
      have sa_3 := sa_2.later b3
      obtain ⟨ade, cpe, rfl, se_3⟩ := o3.sl
      clear o3
      go_wp2_with fail
      refine (says_tob (equalInts_any _ _ _ (insT ys m) _ _ _ (insT ys m) _ sa_3 se_3) (decide_eq_true rfl)).mono ?_
      rintro e w4 ⟨rfl, b4⟩
      have t4 := t3.trans (b4.mono t3.size)
      have sp_4 := sp_3.later b4
      have sa_4 := sa_3.later b4
      have se_4 := se_3.later b4
      obtain ⟨f1, f2, _, f4⟩ := ins_facts Hv.out.1 hl7
      have F1 := hid f1
      have F2 := hid f2
      have e4 := f4 m hmn
      have Hiv := hid (insT_valid Hv.out.1 Hv.out.2.1 hmn)
      have hib := sumL_bd (table_small Hv.out.1) (L := 7) (by rw [table_len]; omega)
      obtain ⟨I1, hI1⟩ : ∃ I, I = sumL (table (insT ys m)) := ⟨_, rfl⟩
      obtain ⟨I2, hI2⟩ : ∃ I, I = sumL (table ys) := ⟨_, rfl⟩
      rw [← hI1, ← hI2] at e4
      rw [← hI2] at hib
      have HE4 := hid e4
      have Hib := hid (show 0 ≤ I2 ∧ I2 ≤ 7000 by omega)
      have HI1 := hid hI1.symm
      have HI2 := hid hI2.symm
      have hk1 : IntKind.i64.wrap (I2 + (ys.length : Int)) = I2 + (ys.length : Int) := IntWalk.i64_in _ ⟨by omega, by omega⟩
      have hk2 : IntKind.i64.wrap (I2 + (ys.length : Int) - (m : Int)) = I1 := by rw [e4]; exact IntWalk.i64_in _ ⟨by omega, by omega⟩
      have Hk := hid (And.intro hk1 hk2)
      have hmj := major_bd (Hv.out.1).len
      have Hmj := hid hmj
      clear f1 f2 f4 e4 hib hI1 hI2 hk1 hk2 hmj
      go_wp2
      go_loopw [9, 10] (fun v x wr => ∃ (k : Nat) (ao' : Option Addr) (cap' : Nat), k ≤ ys.length + 1 ∧ v = .slice ao' k cap' ∧ x = .int .i64 k ∧ Below w4.heap.size w4 wr ∧ Own wr w4.heap.size (.slice ao' k cap') ((List.range k).map (dfs ys)))
        (fun v _ _ => ys.length + 1 - lenOf v)
      case atStart => exact ⟨0, _, _, Nat.zero_le _, rfl, rfl, (Below.refl _ _).alloc (Nat.le_refl _) _, own_lit w4⟩
      case round =>
        obtain ⟨k, ao', cap', hk, rfl, rfl, hbr, ho⟩ := hrel
        have hsz := hbr.size
        by_cases hlt : k ≤ ys.length
        · have hi1 : (k : Int) ≤ (ys.length : Int) := by omega
          have Hit : Hid (IT ys (k : Int)) := hid ⟨Hv.out.1, Hv.out.2.1, by omega, by omega⟩
          have Hqv := hid (insT_valid Hv.out.1 Hv.out.2.1 hlt)
          have hl : ((List.range k).map (dfs ys)).length ≤ 2000000 := by rw [map_range_len]; omega
          go_wp2_with fail
          refine (made2_to (insI_any _ _ _ ys (k : Int) _ (sp_4.later hbr) np.out) ((onIT_yes Hit.out).trans (by rw [Int.toNat_natCast])) (decide_eq_true Hit.out)).mono ?_
          rintro e wa ⟨ua, rfl, oa, ba⟩
          obtain ⟨ada', cpa', rfl, sa'⟩ := oa.sl
          have ta := hbr.trans (ba.mono hsz)
          have o2 := ho.below (Nat.le_refl _) ba
          clear oa
          go_wp2_with fail
          refine (says_to (majorI_any _ _ _ _ _ sa') (onVi_yes Hqv.out)).mono ?_
          rintro e wb ⟨rfl, bb⟩
          have tb := ta.trans (bb.mono ta.size)
          have o3 := o2.below (Nat.le_refl _) bb
          go_wp2_with fail
          refine (says_to (majorI_any _ _ _ ys _ (sp_4.later tb)) (onVi_yes Hv.out.1)).mono ?_
          rintro e wc ⟨rfl, bc⟩
          have tc := tb.trans (bc.mono tb.size)
          have o4 := o3.below (Nat.le_refl _) bc
          have mq := major_bd Hqv.out.len
          have mq0 := mq.1
          have mq1 := mq.2
          have mp0 := Hmj.out.1
          have mp1 := Hmj.out.2
          have hD := F1.out k hlt
          have hsub : major (insT ys k) - major ys = dfs ys k := rfl
          obtain ⟨D, hDe⟩ : ∃ D, D = dfs ys k := ⟨_, rfl⟩
          rw [← hDe] at hD hsub
          have HDe := hid hDe
          have hwd : IntKind.i64.wrap (major (insT ys k) - major ys) = D := by rw [hsub]; exact IntWalk.i64_in _ ⟨by omega, by omega⟩
          have hD0 := hD.1
          have hD1 := hD.2
          have hno : decide (D ∈ (List.range k).map (dfs ys)) = false := by
            rw [decide_eq_false_iff_not, List.mem_map]
            rintro ⟨j, hj, e⟩
            rw [List.mem_range] at hj
            exact F2.out j k hj hlt (by rw [e, hDe])
          have Hno := hid hno
          have hsub2 : major (insT ys k) - major ys = D := hsub
          clear mq hD hno hDe sa' ho o2 o3 hsub
          have o5 := o4.read
          go_wp2_with fail
          refine (says_tob (isIn_any _ _ _ ((List.range k).map (dfs ys)) D _ o5) Hno.out).mono ?_
          rintro e wd ⟨rfl, bd⟩
          have td := tc.trans (bd.mono tc.size)
          have o6 := o4.below (Nat.le_refl _) bd
          have hszd := td.size
          clear o5 o4
          go_wp2_with (at_builtin; refine app_int _ _ rfl _ _ rfl w4.heap.size _ _ rfl o6 rfl hl hszd ?_)
          intro u' w' ho' hg'
          have hb' := below_app td o6 hg'
          have eD : (List.range k).map (dfs ys) ++ [D] = (List.range (k + 1)).map (dfs ys) := by rw [map_range_succ, HDe.out]
          rw [eD] at ho'
          have hl2 : ((List.range (k + 1)).map (dfs ys)).length = k + 1 := map_range_len _
          obtain ⟨ao', cap', rfl, hs'⟩ := ho'.sl
          rw [hl2] at ho' ⊢
          clear hl2 hs' eD
          go_wp2
          go_roundw
          case rel => exact ⟨k + 1, _, _, by omega, rfl, by go_num, hb', ho'⟩
          case measure => simp [lenOf]; omega
        · have hi1 : ¬ (k : Int) ≤ (ys.length : Int) := by omega
          have tR := t4.trans (hbr.mono t4.size)
          have hel : el (insT ys m) m = (ys.length : Int) := el_ins ys _ hmn
          have hk1 := Hk.out.1
          have hk2 := Hk.out.2
          have hmi : (m : Int) < ((insT ys m).length : Int) := by rw [insT_len _ hmn]; omega
          have hmi2 : m < (insT ys m).length := by rw [insT_len _ hmn]; omega
          obtain ⟨b1, f1, rfl, hb1, -⟩ := sa_4.row (by omega)
          have hI20 := Hib.out.1
          have hI21 := Hib.out.2
          have ht : (I1 == I2 + (ys.length : Int) - (m : Int)) = true := by rw [beq_iff_eq]; exact HE4.out
          have hlL : ys.length ≤ 6 := hl7
          go_wp2_with fail
          refine (says_to (invsI_any _ _ _ (insT ys m) _ (sa_4.later hbr)) ((onVi_yes Hiv.out).trans HI1.out)).mono ?_
          rintro e wx ⟨rfl, bx⟩
          have tx := hbr.trans (bx.mono hsz)
          go_wp2_with fail
          refine (says_to (invsI_any _ _ _ ys _ (sp_4.later tx)) ((onVi_yes Hv.out.1).trans HI2.out)).mono ?_
          rintro e wy ⟨rfl, by'⟩
          have ty := tx.trans (by'.mono tx.size)
          have c1 := (sa_4.later ty).cellAt (j := m) hmi2
          rw [hel] at c1
          go_wp2
          go_ret
          exact ⟨rfl, t4.trans (ty.mono t4.size)⟩
    · have Hv := hid hv
      clear hv
      go_wp2_with fail
      refine (made2_to (insI_any _ _ _ ys K _ sp_1 np.out) (onIT_no Hv.out) (decide_eq_false Hv.out)).mono ?_
      rintro e w2 ⟨u2, rfl, o2, b2⟩
      have t2 := t1.trans (b2.mono t1.size)
      have sp_2 := sp_1.later b2
      obtain ⟨ada, cpa, rfl, sa_2⟩ := o2.sl
      clear o2
      go_wp2_with fail
      refine (made2_to (insS_any _ _ _ ys K _ sp_2 np.out) (onIT_no Hv.out) (decide_eq_false Hv.out)).mono ?_
      rintro e w3 ⟨u3, rfl, o3, b3⟩
      have t3 := t2.trans (b3.mono t2.size)
      have sp_3 := sp_2.later b3
      have sa_3 := sa_2.later b3
      obtain ⟨ade, cpe, rfl, se_3⟩ := o3.sl
      clear o3
      go_wp2_with fail
      refine (says_tob (equalInts_any _ _ _ [] _ _ _ [] _ sa_3 se_3) (decide_eq_true rfl)).mono ?_
      rintro e w4 ⟨rfl, b4⟩
      have t4 := t3.trans (b4.mono t3.size)
      have sp_4 := sp_3.later b4
      have sa_4 := sa_3.later b4
      have se_4 := se_3.later b4
      go_wp2_with fail
      refine (says_tob (equalInts_any _ _ _ [] _ _ _ [] _ sa_4 se_4) (decide_eq_true rfl)).mono ?_
      rintro e w5 ⟨rfl, b5⟩
      have t5 := t4.trans (b5.mono t4.size)
      have sp_5 := sp_4.later b5
      have sa_5 := sa_4.later b5
      have se_5 := se_4.later b5
      go_wp2
      go_ret
      exact ⟨rfl, t5⟩
  · go_enter Try.func5, Try.ntmps5
    go_wp2
    go_ret
    exact ⟨rfl, Below.refl _ _⟩

end Go.Proofs.Ytlhphgldmefefab
