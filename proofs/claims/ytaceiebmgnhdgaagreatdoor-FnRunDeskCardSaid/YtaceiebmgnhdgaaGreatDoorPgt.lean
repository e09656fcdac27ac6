/- Signed orders out of texts, in the model. Condition: at most 2^20 bytes. -/
import Derived.Test.YtaceiebmgnhdgaaGreatDoorPgi
import Derived.Test.YtaceiebmgnhdgaaGreatDoorSvq
import Derived.Deep.RegionWith
namespace Go.Proofs.YtaceiebmgnhdgaaGreatDoor
open Go.RowKit

theorem mtk_one {vs zs : List Int} {p : Nat} (h : p < vs.length) (hn : el vs p ≠ -3 ∨ ¬ p + 1 < vs.length) (hm : mtk vs = (mtk (vs.drop p)).map (zs ++ ·)) : mtk vs = (mtk (vs.drop (p + 1))).map ((zs ++ [el vs p]) ++ ·) := by
  rw [hm, drop_el h]
  by_cases h2 : p + 1 < vs.length
  · have hv : el vs p ≠ -3 := by omega
    rw [drop_el h2, mtk, if_neg hv, Option.map_map]
    congr 1
    funext r
    simp
  · rw [List.drop_eq_nil_of_le (by omega)]
    simp [mtk]
theorem mtk_two {vs zs : List Int} {p : Nat} (h : p + 1 < vs.length) (h1 : el vs p = -3) (h2 : el vs (p + 1) ≠ -3) (hm : mtk vs = (mtk (vs.drop p)).map (zs ++ ·)) : mtk vs = (mtk (vs.drop (p + 2))).map ((zs ++ [-el vs (p + 1)]) ++ ·) := by
  rw [hm, drop_el (k := p) (by omega), drop_el h, mtk, if_pos h1, if_neg h2, Option.map_map]
  congr 1
  funext r
  simp
theorem mtk_bad {vs zs : List Int} {p : Nat} (h : p + 1 < vs.length) (h1 : el vs p = -3) (h2 : el vs (p + 1) = -3) (hm : mtk vs = (mtk (vs.drop p)).map (zs ++ ·)) : mtk vs = none := by
  rw [hm, drop_el (k := p) (by omega), drop_el h, mtk, if_pos h1, if_pos h2]
  rfl
theorem okX_bad {vs : List Int} (h : ¬ (good vs = true ∧ ∃ w, mtk vs = some w)) : okX vs = false ∧ outX vs = [] := by
  cases ht : tok vs with
  | none => exact okX_none ht
  | some w => exact absurd ⟨((tok_iff vs w).1 ht).1, w, ((tok_iff vs w).1 ht).2⟩ h
theorem okX_good {vs zs : List Int} (hg : good vs = true) (hm : mtk vs = some zs) : okX vs = decide (SV zs) ∧ outX vs = if SV zs then zs else [] := okX_some ((tok_iff vs zs).2 ⟨hg, hm⟩)
theorem good_iff (vs : List Int) : good vs = true ↔ (∀ j, j < vs.length → gd (el vs j) = true) ∧ (0 < vs.length → el vs (vs.length - 1) ≠ -3) := by
  simp only [good, Bool.and_eq_true, List.all_eq_true, Bool.not_eq_true', beq_eq_false_iff_ne, ne_eq]
  constructor
  · rintro ⟨h1, h2⟩
    refine ⟨fun j hj => h1 _ (el_mem hj), fun h0 e => h2 ?_⟩
    rw [List.getLast?_eq_getElem?, List.getElem?_eq_getElem (by omega), ← el_lt (by omega), e]
  · rintro ⟨h1, h2⟩
    refine ⟨fun x hx => ?_, fun e => ?_⟩
    · obtain ⟨j, hj, rfl⟩ := List.mem_iff_getElem.1 hx
      rw [← el_lt hj]; exact h1 j hj
    · rcases Nat.eq_zero_or_pos vs.length with h0 | h0
      · rw [List.eq_nil_of_length_eq_zero h0] at e; simp at e
      · rw [List.getLast?_eq_getElem?, List.getElem?_eq_getElem (by omega), ← el_lt (by omega)] at e
        exact h2 h0 (Option.some.inj e)

/-- What the model reads off a text. -/
def ReadX (w : World) (vs : List Int) (e : Ending) (w' : World) : Prop := ∃ u zs, e = .returned (.tuple #[u, .bool (okX vs)]) ∧ Own w' w.heap.size u zs ∧ (okX vs = true → zs = outX vs) ∧ Below w.heap.size w w'
theorem readX_no {w w' : World} {vs : List Int} (h : okX vs = false ∧ outX vs = []) (hb : Below w.heap.size w w') : ReadX w vs (.returned (.tuple #[.slice none 0 0, .bool false])) w' := by
  refine ⟨_, [], by rw [h.1], Own.nil, ?_, hb⟩
  intro e
  rw [h.1] at e
  cases e
theorem readX_at {w w' : World} {vs zs : List Int} {u : Value} {b : Bool} (h : b = okX vs) (ho : Own w' w.heap.size u zs) (hz : okX vs = true → zs = outX vs) (hb : Below w.heap.size w w') : ReadX w vs (.returned (.tuple #[u, .bool b])) w' := ⟨u, zs, by rw [h], ho, hz, hb⟩

set_option maxRecDepth 20000 in
set_option maxHeartbeats 8000000 in
theorem pgs0_any (s : ByteArray) (w : World) (hs : s.size ≤ 1048576) :
    Calls Tryz.prog 34 #[.string s] w (ReadX w (prs s)) := by
  obtain ⟨vs, HV⟩ : ∃ vs, Hid (vs = prs s) := ⟨_, rfl⟩
  have HL : Hid (vs.length = s.size) := hid (by rw [HV.out, prs_len])
  have HE : Hid (∀ k (h : k < s.size), el vs k = (s[k].toNat : Int) - 48) := hid (fun k h => by rw [HV.out]; exact el_prs h)
  rw [← HV.out]
  go_enter Tryz.func34, Tryz.ntmps34
  go_wp2
  go_loopw [4, 5] (fun v i wr => ∃ (p n : Nat) (zs : List Int) (ao' : Option Addr) (cap' : Nat), p ≤ s.size ∧ v = .slice ao' n cap' ∧ i = .int .i64 p ∧ Hid (zs.length = n) ∧ n ≤ p ∧ Below w.heap.size w wr ∧ Own wr w.heap.size (.slice ao' n cap') zs ∧ Hid (mtk vs = (mtk (vs.drop p)).map (zs ++ ·)))
    (fun _ i _ => s.size - (intOf i).toNat)
  case atStart => exact ⟨0, 0, [], _, _, Nat.zero_le _, rfl, rfl, hid rfl, Nat.le_refl _, (Below.refl _ _).alloc (Nat.le_refl _) _, own_lit w, hid (by simp)⟩
  case round =>
    obtain ⟨p, n, zs, ao', cap', hp, rfl, rfl, Hl, hnp, hbr, ho, Hm⟩ := hrel
    have hsz := hbr.size
    have hll : zs.length ≤ 2000000 := by rw [Hl.out]; omega
    by_cases hlt : p < s.size
    · have hpi : (p : Int) < s.size := by omega
      have h255 : (s[p].toNat : Int) ≤ 255 := by have := s[p].toNat_lt; omega
      have He := hid (HE.out p hlt)
      by_cases h1 : (s[p].toNat : Int) = 45
      · by_cases h2 : p + 1 < s.size
        · have hpi2 : (p : Int) + 1 < s.size := by omega
          have h255b : (s[p + 1].toNat : Int) ≤ 255 := by have := s[p + 1].toNat_lt; omega
          have He2 := hid (HE.out (p + 1) h2)
          have h1b : ((s[p].toNat : Int) == 45) = true := by rw [h1]; rfl
          have hn0 : 0 ≤ (p : Int) + 1 := by omega
          have htn : ((p : Int) + 1).toNat = p + 1 := by omega
          by_cases h3 : (s[p + 1].toNat : Int) = 45
          · have h3b : ((s[p + 1].toNat : Int) == 45) = true := by rw [h3]; rfl
            have Hno := hid (okX_bad (vs := vs) (by rintro ⟨_, q, hq⟩; rw [mtk_bad (by rw [HL.out]; exact h2) (by rw [He.out, h1]; rfl) (by rw [He2.out, h3]; rfl) Hm.out] at hq; cases hq))
            clear h1 h3
            go_wp2
            go_ret2
            exact readX_no Hno.out hbr
          · have h3b : ((s[p + 1].toNat : Int) == 45) = false := by rw [beq_eq_false_iff_ne]; exact h3
            have Hm2 := hid (mtk_two (by rw [HL.out]; exact h2) (by rw [He.out, h1]; rfl) (by rw [He2.out]; omega) Hm.out)
            have hval : (48 : Int) - s[p + 1].toNat = -el vs (p + 1) := by rw [He2.out]; omega
            have Hval := hid hval
            clear h1 h3 hval
            go_wp2_with (at_builtin; refine app_int _ ((48 : Int) - s[p + 1].toNat) rfl _ _ rfl w.heap.size _ _ rfl ho rfl hll hsz ?_)
            intro u' w' ho' hg'
            have hb' := below_app hbr ho hg'
            rw [Hval.out] at ho'
            obtain ⟨ao6, cap6, rfl, hs'⟩ := ho'.sl
            have Hl6 : Hid ((zs ++ [-el vs (p + 1)]).length = n + 1) := hid (by rw [List.length_append, Hl.out]; rfl)
            rw [Hl6.out] at ho' ⊢
            clear hs' hg' ho
            go_wp2
            go_roundw
            case rel => exact ⟨p + 2, n + 1, _, _, _, by omega, rfl, by go_num, Hl6, by omega, hb', ho', Hm2⟩
            case measure => simp [intOf]; omega
        · have hpi2 : ¬ (p : Int) + 1 < s.size := by omega
          have h1b : ((s[p].toNat : Int) == 45) = true := by rw [h1]; rfl
          have Hm2 := hid (mtk_one (by rw [HL.out]; exact hlt) (Or.inr (by rw [HL.out]; exact h2)) Hm.out)
          have Hval : Hid ((s[p].toNat : Int) - 48 = el vs p) := hid He.out.symm
          clear h1
          go_wp2_with (at_builtin; refine app_int _ ((s[p].toNat : Int) - 48) rfl _ _ rfl w.heap.size _ _ rfl ho rfl hll hsz ?_)
          intro u' w' ho' hg'
          have hb' := below_app hbr ho hg'
          rw [Hval.out] at ho'
          obtain ⟨ao6, cap6, rfl, hs'⟩ := ho'.sl
          have Hl6 : Hid ((zs ++ [el vs p]).length = n + 1) := hid (by rw [List.length_append, Hl.out]; rfl)
          rw [Hl6.out] at ho' ⊢
          clear hs' hg' ho
          go_wp2
          go_roundw
          case rel => exact ⟨p + 1, n + 1, _, _, _, by omega, rfl, by go_num, Hl6, by omega, hb', ho', Hm2⟩
          case measure => simp [intOf]; omega
      · have h1b : ((s[p].toNat : Int) == 45) = false := by rw [beq_eq_false_iff_ne]; exact h1
        have Hm2 := hid (mtk_one (by rw [HL.out]; exact hlt) (Or.inl (by rw [He.out]; omega)) Hm.out)
        have Hval : Hid ((s[p].toNat : Int) - 48 = el vs p) := hid He.out.symm
        clear h1
        go_wp2_with (at_builtin; refine app_int _ ((s[p].toNat : Int) - 48) rfl _ _ rfl w.heap.size _ _ rfl ho rfl hll hsz ?_)
        intro u' w' ho' hg'
        have hb' := below_app hbr ho hg'
        rw [Hval.out] at ho'
        obtain ⟨ao6, cap6, rfl, hs'⟩ := ho'.sl
        have Hl6 : Hid ((zs ++ [el vs p]).length = n + 1) := hid (by rw [List.length_append, Hl.out]; rfl)
        rw [Hl6.out] at ho' ⊢
        clear hs' hg' ho
        go_wp2
        go_roundw
        case rel => exact ⟨p + 1, n + 1, _, _, _, by omega, rfl, by go_num, Hl6, by omega, hb', ho', Hm2⟩
        case measure => simp [intOf]; omega
    · have HM : Hid (mtk vs = some zs) := hid (by rw [Hm.out, List.drop_eq_nil_of_le (by rw [HL.out]; omega)]; simp [mtk])
      have hpn : ¬ (p : Int) < s.size := by omega
      clear Hm
      go_wp2
      obtain ⟨wo, hwo⟩ : ∃ wo : World, wo = wr := ⟨_, rfl⟩
      subst hwo
      go_loopw [6] (fun i wr => ∃ k : Nat, k ≤ s.size ∧ i = .int .i64 k ∧ Below wo.heap.size wo wr ∧ Hid (∀ j, j < k → gd (el vs j) = true))
        (fun i _ => s.size - (intOf i).toNat)
      case atStart => exact ⟨0, Nat.zero_le _, rfl, Below.refl _ _, hid (fun j hj => by omega)⟩
      case round =>
        obtain ⟨k, hk, rfl, hbk, HG⟩ := hrel
        have hb3 := hbr.trans (hbk.mono hsz)
        have ho3 := ho.below (Nat.le_refl _) hbk
        by_cases hkl : k < s.size
        · have hki : (k : Int) < s.size := by omega
          have h255 : (s[k].toNat : Int) ≤ 255 := by have := s[k].toNat_lt; omega
          have He := hid (HE.out k hkl)
          by_cases h1 : (s[k].toNat : Int) = 45
          · have h1b : ((s[k].toNat : Int) != 45) = false := by rw [h1]; rfl
            have Hg : Hid (gd (el vs k) = true) := hid (by rw [He.out, h1]; rfl)
            clear h1
            go_wp2
            go_roundw
            case rel => exact ⟨k + 1, by omega, by go_num, hbk, upto_step HG.out Hg.out⟩
            case measure => simp [intOf]; omega
          · have h1b : ((s[k].toNat : Int) != 45) = true := by rw [bne_iff_ne]; exact h1
            by_cases h2 : (s[k].toNat : Int) < 48
            · have Hno := hid (okX_bad (vs := vs) (by
                rintro ⟨hg, _⟩
                have := ((good_iff vs).1 hg).1 k (by rw [HL.out]; exact hkl)
                rw [He.out, gd, dg] at this
                simp at this
                omega))
              clear h1
              go_wp2
              go_ret2
              exact readX_no Hno.out hb3
            · by_cases h3 : (57 : Int) < s[k].toNat
              · have Hno := hid (okX_bad (vs := vs) (by
                  rintro ⟨hg, _⟩
                  have := ((good_iff vs).1 hg).1 k (by rw [HL.out]; exact hkl)
                  rw [He.out, gd, dg] at this
                  simp at this
                  omega))
                clear h1
                go_wp2
                go_ret2
                exact readX_no Hno.out hb3
              · have Hg : Hid (gd (el vs k) = true) := hid (by rw [He.out, gd, dg]; simp; omega)
                clear h1
                go_wp2
                go_roundw
                case rel => exact ⟨k + 1, by omega, by go_num, hbk, upto_step HG.out Hg.out⟩
                case measure => simp [intOf]; omega
        · obtain rfl : k = s.size := by omega
          have hbR := hb3
          have hoR := ho3
          have HsR := hid ho3.read
          by_cases hv : SV zs
          · have Hv := hid hv
            clear hv
            by_cases h0 : s.size = 0
            · have h0b : ((s.size : Int) == 0) = true := by rw [h0]; rfl
              have hg : good vs = true := (good_iff vs).2 ⟨fun j hj => HG.out j (by rw [HL.out] at hj; exact hj), fun q => by rw [HL.out] at q; omega⟩
              have Hok := hid (okX_good hg HM.out)
              have hwm : IntKind.i64.wrap ((s.size : Int) - 1) = -1 := by rw [h0]; rfl
              clear hg h0
              go_wp2_with fail
              go_quiet ((go_at_call 27; exact Calls.quiet_of (quietG_to (svQ_any _ _ _ zs _ (HsR.out.drewG _)) (decide_eq_true Hv.out))))
              go_wp2
              go_ret2
              exact readX_at (by rw [Hok.out.1, decide_eq_true Hv.out]) (hoR.drewN _) (fun _ => by rw [Hok.out.2, if_pos Hv.out]) (drewN_below hbR _)
            · have h0b : ((s.size : Int) == 0) = false := by rw [beq_eq_false_iff_ne]; omega
              obtain ⟨q, hq⟩ : ∃ q : Nat, s.size = q + 1 := ⟨s.size - 1, by omega⟩
              have hqi : (s.size : Int) - 1 = (q : Int) := by omega
              have hqw : IntKind.i64.wrap ((s.size : Int) - 1) = (q : Int) := by rw [hqi]; exact IntWalk.i64_in _ ⟨by omega, by omega⟩
              have hql : q < s.size := by omega
              have hqli : (q : Int) < s.size := by omega
              have h255 : (s[q].toNat : Int) ≤ 255 := by have := s[q].toNat_lt; omega
              have He := hid (HE.out q hql)
              have Hq := hid hq
              clear hq h0
              by_cases h1 : (s[q].toNat : Int) = 45
              · have h1b : ((s[q].toNat : Int) != 45) = false := by rw [h1]; rfl
                have Hf : Hid (okX vs = false) := hid (okX_bad (by
                  rintro ⟨hg, _⟩
                  have h5 := ((good_iff vs).1 hg).2 (by rw [HL.out]; omega)
                  rw [HL.out, show s.size - 1 = q by have := Hq.out; omega, He.out, h1] at h5
                  exact h5 rfl)).1
                clear h1
                go_wp2_with fail
                go_quiet ((go_at_call 27; exact Calls.quiet_of (quietG_to (svQ_any _ _ _ zs _ (HsR.out.drewG _)) (decide_eq_true Hv.out))))
                go_wp2
                go_ret2
                exact readX_at (Hf.out.symm) (hoR.drewN _) (fun q => absurd (Hf.out.symm.trans q) (by decide)) (drewN_below hbR _)
              · have h1b : ((s[q].toNat : Int) != 45) = true := by rw [bne_iff_ne]; exact h1
                have hg : good vs = true := (good_iff vs).2 ⟨fun j hj => HG.out j (by rw [HL.out] at hj; exact hj), fun _ => by
                  rw [HL.out, show s.size - 1 = q by have := Hq.out; omega, He.out]; omega⟩
                have Hok := hid (okX_good hg HM.out)
                clear hg h1
                go_wp2_with fail
                go_quiet ((go_at_call 27; exact Calls.quiet_of (quietG_to (svQ_any _ _ _ zs _ (HsR.out.drewG _)) (decide_eq_true Hv.out))))
                go_wp2
                go_ret2
                exact readX_at (by rw [Hok.out.1, decide_eq_true Hv.out]) (hoR.drewN _) (fun _ => by rw [Hok.out.2, if_pos Hv.out]) (drewN_below hbR _)
          · have Hv := hid hv
            have Hf : Hid (okX vs = false) := hid (by
              cases ht : tok vs with
              | none => exact (okX_none ht).1
              | some w =>
                have h5 := (tok_iff vs w).1 ht
                rw [HM.out] at h5
                rw [(okX_some ht).1, ← Option.some.inj h5.2]
                exact decide_eq_false hv)
            clear hv
            go_wp2_with fail
            go_quiet ((go_at_call 27; exact Calls.quiet_of (quietG_to (svQ_any _ _ _ zs _ (HsR.out.drewG _)) (decide_eq_false Hv.out))))
            go_wp2
            go_ret2
            exact readX_at (Hf.out.symm) (hoR.drewN _) (fun q => absurd (Hf.out.symm.trans q) (by decide)) (drewN_below hbR _)

end Go.Proofs.YtaceiebmgnhdgaaGreatDoor
