/- Values taken out, in the program. Condition: the list's cells can be read. -/
import Derived.Test.YtlhphgldmefefabInsI
namespace Go.Proofs.Ytlhphgldmefefab
open Go.RowKit

theorem Own.at {w : World} {B n cap : Nat} {ao : Option Addr} {ys : List Int} (h : Own w B (.slice ao n cap) ys) (hn : 0 < n) : ∃ g, ao = some ⟨g, 0, none⟩ ∧ OwS w B g n cap ys := by
  rcases h.place with ⟨e, rfl⟩ | ⟨g, c, e, o⟩
  · simp only [Value.slice.injEq] at e
    omega
  · simp only [Value.slice.injEq] at e
    obtain ⟨rfl, rfl, rfl⟩ := e
    exact ⟨g, rfl, o⟩
theorem OwS.own' {w : World} {B g n cap : Nat} {ys : List Int} (h : OwS w B g n cap ys) : Own w B (.slice (some ⟨g, 0, none⟩) n cap) ys := h.own
def dnP (zs : List Int) (v : Int) (k : Nat) : List Int := (zs.take k).map (dn v) ++ zs.drop k
theorem dnP_el (zs : List Int) (v : Int) {j : Nat} (h : j < zs.length) : el (dnP zs v j) j = el zs j := by
  have : ((zs.take j).map (dn v)).length = j := by rw [List.length_map, List.length_take]; omega
  rw [dnP, el, el, List.getD_eq_getElem?_getD, List.getD_eq_getElem?_getD, List.getElem?_append_right (by omega), this, Nat.sub_self, List.getElem?_drop, Nat.add_zero]
theorem dnP_succ (zs : List Int) (v : Int) {j : Nat} (h : j < zs.length) : dnP zs v (j + 1) = (dnP zs v j).set j (dn v (el zs j)) := by
  have hl : ((zs.take j).map (dn v)).length = j := by rw [List.length_map, List.length_take]; omega
  rw [dnP, dnP, take_el h, List.map_append, drop_cons h, List.set_append_right _ _ (by omega), hl, Nat.sub_self, List.set_cons_zero, List.append_assoc]
  rfl
theorem dnP_yes (zs : List Int) {v : Int} {j : Nat} (h : j < zs.length) (he : v < el zs j) : dnP zs v (j + 1) = (dnP zs v j).set j (el zs j - 1) := by
  rw [dnP_succ zs v h, dn, if_pos he]
theorem dnP_no (zs : List Int) {v : Int} {j : Nat} (h : j < zs.length) (he : ¬ v < el zs j) : dnP zs v (j + 1) = dnP zs v j := by
  have hl : (dnP zs v j).length = zs.length := by rw [dnP, List.length_append, List.length_map, List.length_take, List.length_drop]; omega
  rw [dnP_succ zs v h, dn, if_neg he]
  refine ext_el (by simp) (fun i hi => ?_)
  by_cases e : j = i
  · subst e
    rw [el_set_same (by omega), dnP_el zs v h]
  · rw [el_set_ne e]
theorem dnP_all (zs : List Int) (v : Int) : dnP zs v zs.length = zs.map (dn v) := by rw [dnP, List.take_of_length_le (Nat.le_refl _), List.drop_eq_nil_of_le (Nat.le_refl _), List.append_nil]

set_option maxHeartbeats 8000000 in
theorem rmI_any (ao : Option Addr) (n cap : Nat) (xs : List Int) (k : Int) (w : World) (h : Sl w ao n cap xs) (hnil : ao = none → cap = 0) :
    Calls Try.prog 39 #[.slice ao n cap, .int .i64 k] w (Made2 w (onRT xs k) (decide (RT xs k))) := by
  have hbig := h.big
  have hlen := hid h.len
  have hle := h.le
  have hmax : cap ≤ 9223372036854775807 := by have := h.max; unfold maxLen at this; omega
  have Hnil := hid hnil
  clear hnil
  by_cases hv : Valid xs
  · have h7 : n ≤ 7 := by have := hv.len; rw [hlen.out] at this; exact this
    have Hv := hid hv
    clear hv
    by_cases hk0 : 0 ≤ k
    · by_cases hk1 : k < n
      · have Hit : Hid (RT xs k) := hid ⟨Hv.out, hk0, by rw [hlen.out]; exact hk1⟩
        obtain ⟨m, rfl⟩ := Int.eq_ofNat_of_zero_le hk0
        have hmn : m < n := by omega
        have hi3 : (m : Int) ≤ cap := by omega
        have hi4 : (m : Int) + 1 ≤ n := by omega
        have hwt : IntKind.i64.wrap ((m : Int) + 1) = (m : Int) + 1 := IntWalk.i64_in _ ⟨by omega, by omega⟩
        have htn : ((m : Int) + 1).toNat = m + 1 := by omega
        have ht0 : 0 ≤ (m : Int) + 1 := by omega
        go_enter Try.func39, Try.ntmps39
        go_wp2_with fail
        refine (validI_any _ _ _ xs _ h).mono ?_
        rintro e w1 ⟨rfl, hb1⟩
        rw [decide_eq_true Hv.out]
        have h1 := h.later hb1
        by_cases hcm : cap = m + 1
        · have hz0 : n - (m + 1) = 0 := by omega
          subst hcm
          have hP := (prt2 (h1.take (k := m) (by omega)) (Sl.zero w1 ao) Hnil.out (fun _ => rfl)).drew
          have HP := hid hP
          clear hP
          go_wp2_with fail
          go_region_with (first
            | (go_at_call 66; refine (concat_any _ 2 _ _ HP.out rfl (by omega) (small2 (by rw [List.length_take, hlen.out]; omega) (by simp))).mono ?_; rintro e w2 ⟨u2, rfl, o2, b2⟩))
          all_goals (
            have eF : catP [xs.take m, []] 2 = rm xs m := by
              rw [cat2, rm, List.drop_eq_nil_of_le (by rw [hlen.out]; omega)]
            rw [eF] at o2
            have oF := o2.one hb1.size
            have tF := below_one hb1 b2
            have lR : (rm xs m).length = n - 1 := by rw [rm_len xs (by rw [hlen.out]; exact hmn), hlen.out]
            obtain ⟨aR, cR, rfl, -⟩ := oF.sl
            rw [lR] at oF ⊢
            have HlR := hid lR
            have Hmem := hid (rm_mem Hv.out (k := m) (by rw [hlen.out]; exact hmn)).2
            obtain ⟨zs, hzs⟩ : ∃ zs, zs = rm xs m := ⟨_, rfl⟩
            rw [← hzs] at oF HlR Hmem
            have Hzs := hid hzs
            have o0 : Own w2 w.heap.size (.slice aR (n - 1) cR) (dnP zs (el xs m) 0) := oF
            clear eF HP o2 b2 oF lR hzs
            go_wp2
            go_loopw [33] (fun i wr => ∃ (j : Nat), j ≤ n - 1 ∧ i = .int .i64 j ∧ Below w.heap.size w wr ∧ Own wr w.heap.size (.slice aR (n - 1) cR) (dnP zs (el xs m) j))
              (fun i _ => n - 1 - (intOf i).toNat)
            case atStart => exact ⟨0, Nat.zero_le _, rfl, tF, o0⟩
            case round =>
              obtain ⟨j, hj, rfl, hbr, ho⟩ := hrel
              by_cases hlt : j < n - 1
              · have hi1 : (j : Int) < ((n - 1 : Nat) : Int) := by omega
                obtain ⟨g, rfl, hr⟩ := ho.at (by omega)
                obtain ⟨b, off, rfl, hblt, hc⟩ := h.row (by omega)
                have hcell := (hbr.cell (p := ⟨b, off + m, none⟩) hblt).trans (hc m hmn)
                have hmi : (m : Int) < n := by omega
                have hcell2 := hr.cell hlt
                rw [dnP_el zs (el xs m) (by rw [HlR.out]; exact hlt)] at hcell2
                have hfr := hr.frozen j
                have hgl := hr.lt.1
                have hm2 := Hmem.out _ (el_mem (xs := zs) (j := j) (by rw [HlR.out]; exact hlt))
                have hm0 := hm2.1
                have hm1 : el zs j < 8 := by have := hm2.2.1; rw [hlen.out] at this; omega
                have hne : ¬ el zs j = el xs m := hm2.2.2
                clear hc hm2
                by_cases he : el xs m < el zs j
                · have E1 := hid (dnP_yes zs (by rw [HlR.out]; exact hlt) he)
                  go_wp2
                  go_roundw
                  case rel => exact ⟨j + 1, by omega, by go_num, hbr.setCell hgl _, by rw [E1.out]; exact (hr.set j _).own'⟩
                  case measure => simp [intOf]; omega
                · have E1 := hid (dnP_no zs (by rw [HlR.out]; exact hlt) he)
                  have he' : el zs j ≤ el xs m := by omega
                  go_wp2
                  go_roundw
                  case rel => exact ⟨j + 1, by omega, by go_num, hbr, by rw [E1.out]; exact ho⟩
                  case measure => simp [intOf]; omega
              · obtain rfl : j = n - 1 := by omega
                have oF : Own wr w.heap.size (.slice aR (n - 1) cR) (onRT xs (m : Int)) := by
                  rw [onRT_yes Hit.out, Int.toNat_natCast, rmv, ← Hzs.out, ← dnP_all zs (el xs m), HlR.out]; exact ho
                go_wp2
                go_ret2
                exact made2_yes Hit.out oF hbr)
        · have hP := (prt2 (h1.take (k := m) (by omega)) (h1.drop' (k := m + 1) (by omega) hcm) Hnil.out (drop_nil' Hnil.out)).drew
          have HP := hid hP
          clear hP
          go_wp2_with fail
          go_region_with (first
            | (go_at_call 66; refine (concat_any _ 2 _ _ HP.out rfl (by omega) (small2 (by rw [List.length_take, hlen.out]; omega) (by rw [List.length_drop, hlen.out]; omega))).mono ?_; rintro e w2 ⟨u2, rfl, o2, b2⟩))
          all_goals (
            have eF : catP [xs.take m, xs.drop (m + 1)] 2 = rm xs m := by
              rw [cat2, rm]
            rw [eF] at o2
            have oF := o2.one hb1.size
            have tF := below_one hb1 b2
            have lR : (rm xs m).length = n - 1 := by rw [rm_len xs (by rw [hlen.out]; exact hmn), hlen.out]
            obtain ⟨aR, cR, rfl, -⟩ := oF.sl
            rw [lR] at oF ⊢
            have HlR := hid lR
            have Hmem := hid (rm_mem Hv.out (k := m) (by rw [hlen.out]; exact hmn)).2
            obtain ⟨zs, hzs⟩ : ∃ zs, zs = rm xs m := ⟨_, rfl⟩
            rw [← hzs] at oF HlR Hmem
            have Hzs := hid hzs
            have o0 : Own w2 w.heap.size (.slice aR (n - 1) cR) (dnP zs (el xs m) 0) := oF
            clear eF HP o2 b2 oF lR hzs
            go_wp2
            go_loopw [33] (fun i wr => ∃ (j : Nat), j ≤ n - 1 ∧ i = .int .i64 j ∧ Below w.heap.size w wr ∧ Own wr w.heap.size (.slice aR (n - 1) cR) (dnP zs (el xs m) j))
              (fun i _ => n - 1 - (intOf i).toNat)
            case atStart => exact ⟨0, Nat.zero_le _, rfl, tF, o0⟩
            case round =>
              obtain ⟨j, hj, rfl, hbr, ho⟩ := hrel
              by_cases hlt : j < n - 1
              · have hi1 : (j : Int) < ((n - 1 : Nat) : Int) := by omega
                obtain ⟨g, rfl, hr⟩ := ho.at (by omega)
                obtain ⟨b, off, rfl, hblt, hc⟩ := h.row (by omega)
                have hcell := (hbr.cell (p := ⟨b, off + m, none⟩) hblt).trans (hc m hmn)
                have hmi : (m : Int) < n := by omega
                have hcell2 := hr.cell hlt
                rw [dnP_el zs (el xs m) (by rw [HlR.out]; exact hlt)] at hcell2
                have hfr := hr.frozen j
                have hgl := hr.lt.1
                have hm2 := Hmem.out _ (el_mem (xs := zs) (j := j) (by rw [HlR.out]; exact hlt))
                have hm0 := hm2.1
                have hm1 : el zs j < 8 := by have := hm2.2.1; rw [hlen.out] at this; omega
                have hne : ¬ el zs j = el xs m := hm2.2.2
                clear hc hm2
                by_cases he : el xs m < el zs j
                · have E1 := hid (dnP_yes zs (by rw [HlR.out]; exact hlt) he)
                  go_wp2
                  go_roundw
                  case rel => exact ⟨j + 1, by omega, by go_num, hbr.setCell hgl _, by rw [E1.out]; exact (hr.set j _).own'⟩
                  case measure => simp [intOf]; omega
                · have E1 := hid (dnP_no zs (by rw [HlR.out]; exact hlt) he)
                  have he' : el zs j ≤ el xs m := by omega
                  go_wp2
                  go_roundw
                  case rel => exact ⟨j + 1, by omega, by go_num, hbr, by rw [E1.out]; exact ho⟩
                  case measure => simp [intOf]; omega
              · obtain rfl : j = n - 1 := by omega
                have oF : Own wr w.heap.size (.slice aR (n - 1) cR) (onRT xs (m : Int)) := by
                  rw [onRT_yes Hit.out, Int.toNat_natCast, rmv, ← Hzs.out, ← dnP_all zs (el xs m), HlR.out]; exact ho
                go_wp2
                go_ret2
                exact made2_yes Hit.out oF hbr)
      · have Hit : Hid (¬ RT xs k) := hid fun t => hk1 (by have := t.2.2; rw [hlen.out] at this; exact this)
        go_enter Try.func39, Try.ntmps39
        go_wp2_with fail
        refine (validI_any _ _ _ xs _ h).mono ?_
        rintro e w1 ⟨rfl, hb1⟩
        rw [decide_eq_true Hv.out]
        go_wp2
        go_ret2
        exact made2_no Hit.out (onRT_no Hit.out) hb1
    · have Hit : Hid (¬ RT xs k) := hid fun t => hk0 t.2.1
      go_enter Try.func39, Try.ntmps39
      go_wp2_with fail
      refine (validI_any _ _ _ xs _ h).mono ?_
      rintro e w1 ⟨rfl, hb1⟩
      rw [decide_eq_true Hv.out]
      go_wp2
      go_ret2
      exact made2_no Hit.out (onRT_no Hit.out) hb1
  · have Hit : Hid (¬ RT xs k) := hid fun t => hv t.1
    have Hv := hid hv
    clear hv
    go_enter Try.func39, Try.ntmps39
    go_wp2_with fail
    refine (validI_any _ _ _ xs _ h).mono ?_
    rintro e w1 ⟨rfl, hb1⟩
    rw [decide_eq_false Hv.out]
    go_wp2
    go_ret2
    exact made2_no Hit.out (onRT_no Hit.out) hb1

end Go.Proofs.Ytlhphgldmefefab
