/- Orders of ranks, in the program and in its model. No condition. -/
import Derived.Test.YtlhphgldmefefaaOfT
import Derived.Test.YtlhphgldmefefaaMirK
import Derived.Test.YtlhphgldmefefaaRank
namespace Go.Proofs.Ytlhphgldmefefaa
open Go.RowKit

set_option maxHeartbeats 1000000 in
theorem ofRank_any (n : Nat) (r : Int) (w : World) (hn : n ≤ 7) (h0 : 0 ≤ r) (h1 : r < fac n) :
    Calls Try.prog 68 #[.int .i64 n, .int .i64 r] w (Made w (ordT (digs n r))) := by
  have H1 := hid h1
  clear h1
  go_enter Try.func68, Try.ntmps68
  go_wp2
  go_loopw [1, 5, 6] (fun q v i wr => ∃ (k : Nat) (ao' : Option Addr) (cap' : Nat) (q' : Int), k ≤ n ∧ q = .int .i64 q' ∧ Hid (q' = r % fac (n - k)) ∧ v = .slice ao' k cap' ∧ i = .int .i64 k ∧ Below w.heap.size w wr ∧ Own wr w.heap.size (.slice ao' k cap') ((List.range k).map (dig n r)))
    (fun _ v _ _ => n - lenOf v)
  case atStart => exact ⟨0, _, _, r, Nat.zero_le _, rfl, hid (by rw [Nat.sub_zero, Int.emod_eq_of_lt h0 H1.out]), rfl, rfl, (Below.refl _ _).alloc (Nat.le_refl _) _, own_lit w⟩
  case round =>
    obtain ⟨k, ao', cap', q', hk, rfl, Hq, rfl, rfl, hbr, ho⟩ := hrel
    by_cases hlt : k < n
    · have hsz := hbr.size
      have hl : ((List.range k).map (dig n r)).length ≤ 2000000 := by rw [map_range_len]; omega
      have f1 := fac_pos (n - 1 - k)
      have f2 := fac_le (n := n - 1 - k) (by omega)
      have q0 : 0 ≤ q' := by rw [Hq.out]; exact Int.emod_nonneg _ (Int.ne_of_gt (fac_pos0 _))
      have q1 : q' < 5041 := by have a := Int.emod_lt_of_pos r (fac_pos0 (n - k)); have b := fac_le (n := n - k) (by omega); rw [Hq.out]; omega
      have etn : ((n : Int) - 1 - k).toNat = n - 1 - k := by omega
      have hi : (k : Int) < n := by omega
      go_wp2_with fail
      refine (fac_any _ _ (by omega) (by omega)).mono ?_
      rintro e w' ⟨rfl, rfl⟩
      rw [etn]
      obtain ⟨f, hf⟩ : ∃ f, f = fac (n - 1 - k) := ⟨_, rfl⟩
      rw [← hf] at f1 f2 ⊢
      have Hf := hid hf
      clear hf etn
      have hf1 : (f == 0) = false := by simp; omega
      go_wp2_with (at_builtin; refine app_int _ _ rfl _ _ rfl w.heap.size _ _ rfl ho rfl hl hsz ?_)
      intro u' w2 ho' hg'
      have hb' := below_app hbr ho hg'
      have eq1 : q' / f = dig n r k := by rw [Hq.out, Hf.out]; exact dig_dn hlt
      rw [eq1, ← map_range_succ (dig n r)] at ho'
      have hl2 : ((List.range (k + 1)).map (dig n r)).length = k + 1 := map_range_len _
      obtain ⟨ao', cap', rfl, hs'⟩ := ho'.sl
      rw [hl2] at ho' ⊢
      clear eq1 hl2 hs'
      go_wp2
      go_roundw
      case rel => exact ⟨k + 1, _, _, _, by omega, rfl, hid (by rw [Hq.out, Hf.out, rest_dn hlt, show n - (k + 1) = n - 1 - k by omega]), rfl, by go_num, hb', ho'⟩
      case measure => simp [lenOf]; omega
    · obtain rfl : k = n := by omega
      have hs := ho.read
      have e : (List.range k).map (dig k r) = digs k r := rfl
      rw [e] at hs
      go_wp2_with fail
      refine (ofTable_any _ _ _ (digs k r) _ hs (digs_vt hn)).mono ?_
      rintro e w2 ⟨u2, rfl, o2, b2⟩
      go_wp2
      go_ret
      exact ⟨_, rfl, o2.mono hbr.size, hbr.trans (b2.mono hbr.size)⟩

theorem inR_any (n lo hi : Int) (w : World) : Calls Try.prog 67 #[.int .i64 n, .int .i64 lo, .int .i64 hi] w fun e w' => e = .returned (.bool (decide (lo ≤ n ∧ n ≤ hi))) ∧ w = w' := by
  go_enter Try.func67, Try.ntmps67
  by_cases h1 : lo ≤ n <;> by_cases h2 : n ≤ hi
  all_goals go_wp2
  all_goals go_ret
  all_goals exact ⟨ret_eq (congrArg Value.bool (by simp [h1, h2])), rfl⟩

/-- The arguments are a number of values and a rank. -/
def RK (n r : Int) : Prop := 0 ≤ n ∧ n ≤ 7 ∧ 0 ≤ r ∧ r < fac n.toNat
instance (n r : Int) : Decidable (RK n r) := inferInstanceAs (Decidable (_ ∧ _ ∧ _ ∧ _))
def onR (n r : Int) : List Int := if RK n r then ordT (digs n.toNat r) else []
theorem onR_yes {n r : Int} (h : RK n r) : onR n r = ordT (digs n.toNat r) := if_pos h
theorem onR_no {n r : Int} (h : ¬ RK n r) : onR n r = [] := if_neg h
def isR (n r : Int) : Bool := decide (RK n r)
theorem isR_yes {n r : Int} (h : RK n r) : isR n r = true := decide_eq_true h
theorem isR_no {n r : Int} (h : ¬ RK n r) : isR n r = false := decide_eq_false h

set_option maxHeartbeats 1000000 in
theorem ofRS_any (n r : Int) (w : World) :
    Calls Try.prog 17 #[.int .i64 n, .int .i64 r] w (Made2 w (onR n r) (isR n r)) := by
  go_enter Try.func17, Try.ntmps17
  go_wp2_with fail
  refine (inR_any _ _ _ _).mono ?_
  rintro e w' ⟨rfl, rfl⟩
  by_cases hn : 0 ≤ n ∧ n ≤ 7
  · rw [decide_eq_true hn]
    obtain ⟨m, rfl⟩ := Int.eq_ofNat_of_zero_le hn.1
    have hm : m ≤ 7 := by omega
    have f1 := fac_pos m
    have f2 := fac_le hm
    clear hn
    go_wp2_with fail
    refine (fac_nat m _ hm).mono ?_
    rintro e w' ⟨rfl, rfl⟩
    go_wp2_with fail
    refine (inR_any _ _ _ _).mono ?_
    rintro e w' ⟨rfl, rfl⟩
    by_cases hr : 0 ≤ r ∧ r ≤ fac m - 1
    · rw [decide_eq_true hr]
      have Hk : RK (m : Int) r := ⟨by omega, by omega, hr.1, by rw [Int.toNat_natCast]; omega⟩
      have hk := hid Hk
      have hr0 := hr.1
      have hr1 : r < fac m := by omega
      clear hr Hk
      go_wp2_with fail
      refine (ofRank_any m r _ hm hr0 hr1).mono ?_
      rintro e w2 ⟨u2, rfl, o2, b2⟩
      go_wp2
      go_ret2
      rw [onR_yes hk.out, isR_yes hk.out, Int.toNat_natCast]
      exact ⟨_, rfl, o2, b2⟩
    · rw [decide_eq_false hr]
      have Hk : ¬ RK (m : Int) r := fun h => hr ⟨h.2.2.1, by have := h.2.2.2; rw [Int.toNat_natCast] at this; omega⟩
      have hk := hid Hk
      clear hr Hk
      go_wp2
      go_ret2
      rw [onR_no hk.out, isR_no hk.out]
      exact ⟨_, rfl, Own.nil, Below.refl _ _⟩
  · rw [decide_eq_false hn]
    have Hk : ¬ RK n r := fun h => hn ⟨h.1, h.2.1⟩
    have hk := hid Hk
    clear hn Hk
    go_wp2
    go_ret2
    rw [onR_no hk.out, isR_no hk.out]
    exact ⟨_, rfl, Own.nil, Below.refl _ _⟩

set_option maxHeartbeats 1000000 in
theorem ofRI_any (n r : Int) (w : World) (hr63 : r ≤ 9223372036854775807) :
    Calls Try.prog 16 #[.int .i64 n, .int .i64 r] w (Made2 w (onR n r) (isR n r)) := by
  by_cases hn : 0 ≤ n ∧ n ≤ 7 ∧ 0 ≤ r
  · obtain ⟨m, rfl⟩ := Int.eq_ofNat_of_zero_le hn.1
    have hm : m ≤ 7 := by omega
    have hr0 := hn.2.2
    have hx1 : ¬ (m : Int) < 0 := by omega
    have hx2 : ¬ (7 : Int) < m := by omega
    have hx3 : ¬ r < 0 := by omega
    clear hn
    go_enter Try.func16, Try.ntmps16
    go_wp2_with (at_make; refine make_ints _ rfl _ _ rfl _ _ m rfl rfl rfl rfl (by omega) ?_)
    intro w2 ho2 hb2
    go_wp2
    go_loopw [1, 7] (fun q i wr => ∃ (t : Nat) (q' k : Int) (zs : List Int), t ≤ m ∧ q = .int .i64 q' ∧ 0 ≤ q' ∧ q' ≤ 9223372036854775807 ∧ Hid (q' = r / fac t) ∧ i = .int .i64 k ∧ Hid (k = (m : Int) - 1 - t) ∧ Below w.heap.size w wr ∧ OwS wr w.heap.size w.heap.size m m zs ∧ Hid (∀ j, m - t ≤ j → j < m → el zs j = dig m r j))
      (fun _ i _ => (intOf i + 1).toNat)
    case atStart => exact ⟨0, r, _, _, Nat.zero_le _, rfl, hr0, hr63, hid (by rw [fac, Int.ediv_one]), rfl, hid (by omega), hb2, ho2, fun j h1 h2 => by omega⟩
    case round =>
      obtain ⟨t, q', k, zs, ht, rfl, hq0, hq1, Hq, rfl, Hk, hbr, hr, hz⟩ := hrel
      by_cases hlt : t < m
      · have hk0 : 0 ≤ k := by rw [Hk.out]; omega
        have hkm : k < m := by rw [Hk.out]; omega
        obtain ⟨k, rfl⟩ := Int.eq_ofNat_of_zero_le hk0
        have hkn : k < m := by omega
        have hfz := hr.frozen k
        have hcz := hr.cell hkn
        have hzl := hid hr.len
        have hsz := hbr.size
        have hd0 : 0 < (m : Int) - k := by omega
        have hd1 : ((m : Int) - k == 0) = false := by simp; omega
        have ek : m - 1 - k = t := by have := Hk.out; omega
        have ed : (m : Int) - k = (t : Int) + 1 := by have := Hk.out; omega
        have eq1 : Hid (q' % ((m : Int) - k) = dig m r k) := hid (by rw [dig, ek, Hq.out])
        have eq2 : Hid (q' / ((m : Int) - k) = r / fac (t + 1)) := hid (by rw [Hq.out, ed, fac, Int.ediv_ediv_of_nonneg (Int.le_of_lt (fac_pos0 t))])
        have hqa : 0 ≤ q' / ((m : Int) - k) := Int.ediv_nonneg hq0 (by omega)
        have hqb : q' / ((m : Int) - k) ≤ 9223372036854775807 := Int.le_trans (Int.ediv_le_self _ hq0) hq1
        have Ek := hid ek
        clear ek ed
        go_wp2
        go_roundw
        case rel =>
          refine ⟨t + 1, _, _, zs.set k (dig m r k), by omega, rfl, hqa, hqb, eq2, rfl, hid (by have := Hk.out; omega), ?_, ?_, fun j h1 h2 => ?_⟩
          · exact hbr.setCell (Nat.le_refl _) _
          · rw [eq1.out]; exact hr.set k _
          · by_cases e : j = k
            · rw [e, el_set_same (by rw [hzl.out]; exact hkn)]
            · rw [el_set_ne (by omega)]
              have := Ek.out
              exact hz.out j (by omega) h2
        case measure => simp [intOf]
      · obtain rfl : t = m := by omega
        have hk1 : k = -1 := by rw [Hk.out]; omega
        subst hk1
        have hs := hr.sl
        have ez : zs = digs t r := ext_el (by rw [hr.len, digs_len]) (fun j hj => by rw [hr.len] at hj; rw [hz.out j (by omega) hj, el_digs hj])
        subst ez
        by_cases hq : 0 < q'
        · have Hk : ¬ RK (t : Int) r := fun h => by
            have h2 := h.2.2.2
            rw [Int.toNat_natCast] at h2
            have := Int.ediv_eq_zero_of_lt hr0 h2
            rw [← Hq.out] at this
            omega
          have hk := hid Hk
          clear Hk
          go_wp2
          go_ret2
          rw [onR_no hk.out, isR_no hk.out]
          exact ⟨_, rfl, Own.nil, hbr⟩
        · have hlt2 : r < fac t := by
            have h1 : r / fac t = 0 := by rw [← Hq.out]; omega
            have h2 := Int.emod_add_mul_ediv r (fac t)
            rw [h1, Int.mul_zero, Int.add_zero] at h2
            rw [← h2]
            exact Int.emod_lt_of_pos r (fac_pos0 t)
          have Hk : RK (t : Int) r := ⟨by omega, by omega, hr0, by rw [Int.toNat_natCast]; exact hlt2⟩
          have hk := hid Hk
          have Hvt := hid (digs_vt (r := r) hm)
          clear Hk hlt2
          go_wp2_with fail
          refine (ordTI_any _ _ _ (digs t r) _ hs).mono ?_
          rintro e w3 ⟨u3, rfl, o3, b3⟩
          rw [isVT_yes Hvt.out]
          rw [onVT_yes Hvt.out] at o3
          go_wp2
          go_ret2
          rw [onR_yes hk.out, isR_yes hk.out, Int.toNat_natCast]
          refine ⟨_, rfl, ?_, hbr.trans (b3.mono hbr.size)⟩
          exact o3.mono hbr.size
  · have Hk : ¬ RK n r := fun h => hn ⟨h.1, h.2.1, h.2.2.1⟩
    have hk := hid Hk
    clear Hk
    have hno : n < 0 ∨ (¬ n < 0 ∧ 7 < n) ∨ (¬ n < 0 ∧ ¬ 7 < n ∧ r < 0) := by omega
    clear hn
    rcases hno with h1 | ⟨h1, h2⟩ | ⟨h1, h2, h3⟩
    all_goals go_enter Try.func16, Try.ntmps16
    all_goals go_wp2
    all_goals go_ret2
    all_goals rw [onR_no hk.out, isR_no hk.out]
    all_goals exact ⟨_, rfl, Own.nil, Below.refl _ _⟩

end Go.Proofs.Ytlhphgldmefefaa
