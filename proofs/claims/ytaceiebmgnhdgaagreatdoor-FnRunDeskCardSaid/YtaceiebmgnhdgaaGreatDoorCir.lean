/- Circles, in the program and in its model. Condition: the list's cells can be read. -/
import Derived.Test.YtaceiebmgnhdgaaGreatDoorBnd
import Derived.Test.YtaceiebmgnhdgaaGreatDoorOwnL
import Derived.Test.YtaceiebmgnhdgaaGreatDoorMirCy
import Derived.Test.YtaceiebmgnhdgaaGreatDoorOfT
namespace Go.Proofs.YtaceiebmgnhdgaaGreatDoor
open Go.RowKit

set_option maxHeartbeats 1000000 in
theorem circleFrom_any (ao : Option Addr) (n cap : Nat) (xs : List Int) (x : Nat) (w : World) (h : Sl w ao n cap xs) (hv : Valid xs) (hx : x < n) :
    Calls Tryz.prog 122 #[.slice ao n cap, .int .i64 x] w (Made w (cyc xs x)) := by
  have hbig := h.big
  have hlen := hid h.len
  have hxi : Hid (0 ≤ (x : Int) ∧ (x : Int) < xs.length) := hid ⟨by omega, by rw [hlen.out]; omega⟩
  have HP := hid (per_spec hv hxi.out)
  have h7 : n ≤ 7 := by have := hv.len; rw [hlen.out] at this; exact this
  have Hin := hid (itr_in hv hxi.out)
  rw [hlen.out] at Hin HP
  obtain ⟨P, hP⟩ : ∃ P, P = per xs x := ⟨_, rfl⟩
  rw [← hP] at HP
  have HPe := hid hP
  have hp1 := HP.out.1
  have hp2 := HP.out.2.1
  clear hv hP
  obtain ⟨b, off, rfl, hblt, hc⟩ := h.row (by omega)
  have hcc := hid hc
  have hcell := (((Below.refl w.heap.size w).alloc (Nat.le_refl _) (.cells #[.int .i64 (x : Int)] 3)).cell (p := ⟨b, off + x, none⟩) hblt).trans (hc x hx)
  have hxn : (x : Int) < n := by omega
  have e1 : el xs x = itr xs x 1 := rfl
  rw [e1] at hcell
  clear hc e1
  go_enter Tryz.func122, Tryz.ntmps122
  go_wp2
  go_loopw [5, 6] (fun v y wr => ∃ (t : Nat) (ao' : Option Addr) (cap' : Nat), 1 ≤ t ∧ t ≤ P ∧ v = .slice ao' t cap' ∧ y = .int .i64 (itr xs x t) ∧ Below w.heap.size w wr ∧ Own wr w.heap.size (.slice ao' t cap') ((List.range t).map (itr xs x)))
    (fun v _ _ => P - lenOf v)
  case atStart => exact ⟨1, _, _, Nat.le_refl _, hp1, rfl, rfl, (Below.refl _ _).alloc (Nat.le_refl _) _, own_one' w _ _ (Nat.le_refl _)⟩
  case round =>
    obtain ⟨t, ao', cap', ht1, htP, rfl, rfl, hbr, ho⟩ := hrel
    by_cases hlt : t < P
    · have hne : ¬ itr xs x t = x := HP.out.2.2.2 t ht1 hlt
      have hnb : (itr xs x t != (x : Int)) = true := by simpa using hne
      obtain ⟨y, hy⟩ := Int.eq_ofNat_of_zero_le (Hin.out t).1
      have hyn : y < n := by have := (Hin.out t).2; omega
      have hyi : (y : Int) < n := by omega
      have hsz := hbr.size
      have hl : ((List.range t).map (itr xs x)).length ≤ 2000000 := by rw [map_range_len]; omega
      have hnext : el xs y = itr xs x (t + 1) := by rw [itr, hy, Int.toNat_natCast]
      have Hy := hid hy
      rw [hy] at hne hnb ⊢
      clear hy hne
      go_wp2_with (at_builtin; refine app_int _ _ rfl _ _ rfl w.heap.size _ _ rfl ho rfl hl hsz ?_)
      intro u' w' ho' hg'
      have hb' := below_app hbr ho hg'
      rw [← Hy.out, ← map_range_succ (itr xs x)] at ho'
      have hl2 : ((List.range (t + 1)).map (itr xs x)).length = t + 1 := map_range_len _
      obtain ⟨ao', cap', rfl, hs'⟩ := ho'.sl
      rw [hl2] at ho' ⊢
      have hcell := (hb'.cell (p := ⟨b, off + y, none⟩) hblt).trans (hcc.out y hyn)
      rw [hnext] at hcell
      clear hl2 hs' hnext
      go_wp2
      go_roundw
      case rel => exact ⟨t + 1, _, _, by omega, by omega, rfl, rfl, hb', ho'⟩
      case measure => simp [lenOf]; omega
    · obtain rfl : t = P := by omega
      have hret := HP.out.2.2.1
      rw [hret]
      have hnb : ((x : Int) != (x : Int)) = false := by simp
      clear hret
      go_wp2
      go_ret
      exact ⟨_, rfl, by rw [cyc, ← HPe.out]; exact ho, hbr⟩

/-- Are the first t values of a circle at least x? -/
def leaP (xs : List Int) (x : Int) (t : Nat) : Bool := (List.range t).all fun j => decide (x ≤ itr xs x j)
theorem leaP_succ (xs : List Int) (x : Int) (t : Nat) : leaP xs x (t + 1) = (leaP xs x t && decide (x ≤ itr xs x t)) := by
  rw [leaP, List.range_succ, List.all_append]; simp [leaP]
theorem lea_eq (xs : List Int) (x : Int) : lea xs x = leaP xs x (per xs x) := by
  rw [lea, cyc, List.all_map]; rfl

set_option maxHeartbeats 2000000 in
theorem circles0_any (ao : Option Addr) (n cap : Nat) (xs : List Int) (w : World) (h : Sl w ao n cap xs) (hv : Valid xs) :
    Calls Tryz.prog 60 #[.slice ao n cap] w (MadeL w (circles xs)) := by
  have hbig := h.big
  have hlen := hid h.len
  have h7 : n ≤ 7 := by have := hv.len; rw [hlen.out] at this; exact this
  have Hv := hid hv
  clear hv
  go_enter Tryz.func60, Tryz.ntmps60
  go_wp2
  go_loopw [3, 4] (fun v i wr => ∃ (k m : Nat) (ao' : Option Addr) (cap' : Nat), k ≤ n ∧ v = .slice ao' m cap' ∧ i = .int .i64 k ∧ Below w.heap.size w wr ∧ OwnL wr w.heap.size wr.heap.size (.slice ao' m cap') (ciP xs k))
    (fun _ i _ => n - (intOf i).toNat)
  case atStart => exact ⟨0, _, _, _, Nat.zero_le _, rfl, rfl, (Below.refl _ _).alloc (Nat.le_refl _) _, (ownL_lit (Nat.le_refl _)).now⟩
  case round =>
    obtain ⟨k, m, ao', cap', hk, rfl, rfl, hbr, ho⟩ := hrel
    by_cases hlt : k < n
    · obtain ⟨b, off, rfl, hblt, hc⟩ := h.row (by omega)
      have hcc := hid hc
      have hki : Hid (0 ≤ (k : Int) ∧ (k : Int) < xs.length) := hid ⟨by omega, by rw [hlen.out]; omega⟩
      have HP := hid (per_spec Hv.out hki.out)
      have Hin := hid (itr_in Hv.out hki.out)
      rw [hlen.out] at Hin HP
      obtain ⟨P, hP⟩ : ∃ P, P = per xs k := ⟨_, rfl⟩
      rw [← hP] at HP
      have HPe := hid hP
      have hp1 := HP.out.1
      have hp2 := HP.out.2.1
      have hl0 : (ciP xs k).length ≤ 2000000 := by have := ciP_len xs k; omega
      have hsz := hbr.size
      have hcell := ((hbr.alloc hsz (.cells #[.int .i64 (k : Int)] 3)).cell (p := ⟨b, off + k, none⟩) hblt).trans (hc k hlt)
      have hki2 : (k : Int) < n := by omega
      have e1 : el xs k = itr xs k 1 := rfl
      rw [e1] at hcell
      clear hc e1 hP
      go_wp2
      obtain ⟨wo, hwo⟩ : ∃ wo : World, wo = wr := ⟨_, rfl⟩
      subst hwo
      go_loopw [5, 6] (fun v y wr => ∃ (t : Nat) (ao' : Option Addr) (cap' : Nat), 1 ≤ t ∧ t ≤ P ∧ v = .slice ao' t cap' ∧ y = .int .i64 (itr xs k t) ∧ Below wo.heap.size wo wr ∧ Own wr wo.heap.size (.slice ao' t cap') ((List.range t).map (itr xs k)))
        (fun v _ _ => P - lenOf v)
      case atStart => exact ⟨1, _, _, Nat.le_refl _, hp1, rfl, rfl, (Below.refl _ _).alloc (Nat.le_refl _) _, own_one' _ _ _ (Nat.le_refl _)⟩
      case round =>
        obtain ⟨t, al, cl, ht1, htP, rfl, rfl, hbi, hi⟩ := hrel
        by_cases hlt2 : t < P
        · have hne : ¬ itr xs k t = k := HP.out.2.2.2 t ht1 hlt2
          have hnb : (itr xs k t != (k : Int)) = true := by simpa using hne
          obtain ⟨y, hy⟩ := Int.eq_ofNat_of_zero_le (Hin.out t).1
          have hyn : y < n := by have := (Hin.out t).2; omega
          have hyi : (y : Int) < n := by omega
          have hszi := hbi.size
          have hl : ((List.range t).map (itr xs k)).length ≤ 2000000 := by rw [map_range_len]; omega
          have hnext : el xs y = itr xs k (t + 1) := by rw [itr, hy, Int.toNat_natCast]
          have Hy := hid hy
          rw [hy] at hne hnb ⊢
          clear hy hne
          go_wp2_with (at_builtin; refine app_int _ _ rfl _ _ rfl wo.heap.size _ _ rfl hi rfl hl hszi ?_)
          intro u' w' ho' hg'
          have hb' := below_app hbi hi hg'
          rw [← Hy.out, ← map_range_succ (itr xs k)] at ho'
          have hl2 : ((List.range (t + 1)).map (itr xs k)).length = t + 1 := map_range_len _
          obtain ⟨al, cl, rfl, hs'⟩ := ho'.sl
          rw [hl2] at ho' ⊢
          have hbx := hbr.trans (hb'.mono hsz)
          have hcell := (hbx.cell (p := ⟨b, off + y, none⟩) hblt).trans (hcc.out y hyn)
          rw [hnext] at hcell
          clear hl2 hs' hnext
          go_wp2
          go_roundw
          case rel => exact ⟨t + 1, _, _, by omega, by omega, rfl, rfl, hb', ho'⟩
          case measure => simp [lenOf]; omega
        · obtain rfl : t = P := by omega
          have hret := HP.out.2.2.1
          rw [hret]
          have hnb : ((k : Int) != (k : Int)) = false := by simp
          clear hret
          go_wp2
          obtain ⟨wi, hwi⟩ : ∃ wi : World, wi = wr := ⟨_, rfl⟩
          subst hwi
          go_loopw [7, 8] (fun l i wr => ∃ (s : Nat), s ≤ t ∧ l = .bool (leaP xs k s) ∧ i = .int .i64 s ∧ Below wr.heap.size wr wr ∧ Below wo.heap.size wo wr ∧ Own wr wo.heap.size (.slice al t cl) ((List.range t).map (itr xs k)))
            (fun _ i _ => t - (intOf i).toNat)
          case atStart => exact ⟨0, Nat.zero_le _, rfl, rfl, Below.refl _ _, hbi, hi⟩
          case round =>
            obtain ⟨s, hs, rfl, rfl, _, hbj, hj⟩ := hrel
            by_cases hlt3 : s < t
            · have hsi : (s : Int) < t := by omega
              obtain ⟨bj, oj, rfl, hbjlt, hcj⟩ := hj.read.row (by omega)
              have hcell := hcj s hlt3
              rw [el_map hlt3] at hcell
              clear hcj
              cases hq : leaP xs k s
              · have e3 : Hid (leaP xs k (s + 1) = false) := hid (by rw [leaP_succ, hq]; rfl)
                go_wp2
                go_roundw
                case rel => exact ⟨s + 1, by omega, by rw [e3.out], by go_num, Below.refl _ _, hbj, hj⟩
                case measure => simp [intOf]; omega
              · have e3 : Hid (leaP xs k (s + 1) = decide ((k : Int) ≤ itr xs k s)) := hid (by rw [leaP_succ, hq]; rfl)
                go_wp2
                go_roundw
                case rel => exact ⟨s + 1, by omega, by rw [e3.out], by go_num, Below.refl _ _, hbj, hj⟩
                case measure => simp [intOf]; omega
            · obtain rfl : s = t := by omega
              have el1 : leaP xs k s = lea xs k := by rw [lea_eq, ← HPe.out]
              rw [el1]
              cases hq : lea xs k
              · have e3 := hid (ciP_no hq)
                clear el1
                go_wp2
                go_roundw
                case rel => exact ⟨k + 1, _, _, _, by omega, rfl, by go_num, hbr.trans (hbj.mono hsz), by rw [e3.out]; exact (ho.later hbj).now⟩
                case measure => simp [intOf]; omega
              · have e3 := hid (ciP_yes hq)
                clear el1
                go_wp2_with (at_builtin; refine app_lst wo _ _ (cyc xs k) rfl _ _ rfl w.heap.size _ _ _ ho hbj (by rw [cyc, ← HPe.out]; exact hj) rfl rfl hl0 ?_)
                intro u' w' ho' hb'
                have hbz := (hbr.trans (hbj.mono hsz)).trans hb'
                rw [← e3.out] at ho'
                have hl' := hid (rfl : (ciP xs (k + 1)).length = (ciP xs (k + 1)).length)
                obtain ⟨ao', cap', rfl, hs'⟩ := ho'.sl
                go_wp2
                go_roundw
                case rel => exact ⟨k + 1, _, _, _, by omega, rfl, by go_num, hbz, ho'⟩
                case measure => simp [intOf]; omega
    · obtain rfl : k = n := by omega
      go_wp2
      go_ret
      exact ⟨_, rfl, by rw [circles, hlen.out]; exact ho, hbr⟩

theorem madeL_no {w w1 : World} {xs : List Int} {yss : List (List Int)} (h : ¬ Valid xs) (hb : Below w.heap.size w w1) : MadeL w (onVL xs yss) (.returned (.slice none 0 0)) w1 :=
  ⟨_, rfl, by rw [onVL_no h]; exact ((OwnL.nil hb.size).mono (Nat.le_refl _)).now, hb⟩

theorem take_cyc {xs : List Int} {x : Int} {t : Nat} (ht : t < per xs x) (v : Int) : decide (v ∈ (cyc xs x).take (t + 1)) = (decide (v ∈ (cyc xs x).take t) || decide (v = itr xs x t)) := by
  rw [take_el (by rw [cyc_len]; exact ht), el_cyc ht]
  simp

set_option maxHeartbeats 2000000 in
theorem circlesI_any (ao : Option Addr) (n cap : Nat) (xs : List Int) (w : World) (h : Sl w ao n cap xs) :
    Calls Tryz.prog 95 #[.slice ao n cap] w (MadeL w (onVL xs (circles xs))) := by
  have hbig := h.big
  have hlen := hid h.len
  by_cases hv : Valid xs
  · have Hv := hid hv
    have h7 : n ≤ 7 := by have := hv.len; rw [hlen.out] at this; exact this
    clear hv
    go_enter Tryz.func95, Tryz.ntmps95
    go_wp2_with fail
    refine (validI_any _ _ _ xs _ h).mono ?_
    rintro e w1 ⟨rfl, hb1⟩
    rw [decide_eq_true Hv.out]
    have hsz := hb1.size
    go_wp2
    go_loopw [3, 15] (fun v i wr => ∃ (k m : Nat) (ao' : Option Addr) (cap' : Nat) (bs : List Bool), k ≤ n ∧ v = .slice ao' m cap' ∧ i = .int .i64 k ∧ Below w.heap.size w wr ∧ OwnLx (some (w1.heap.size + 1)) wr w.heap.size wr.heap.size (.slice ao' m cap') (ciP xs k) ∧ ArrB wr (w1.heap.size + 1) 141 bs ∧ bs.length = 7 ∧ Hid (∀ x, x < 7 → elB bs x = sn xs k x))
      (fun _ i _ => n - (intOf i).toNat)
    case atStart =>
      refine ⟨0, _, _, _, [false, false, false, false, false, false, false], Nat.zero_le _, rfl, rfl, (hb1.alloc hsz _).alloc (by simp; omega) _, ?_, ?_, rfl, fun x hx => ?_⟩
      · exact ((ownLx_lit hsz (by simp)).later ((Below.refl _ _).alloc (Nat.le_refl _) _)).now
      · have := ArrB.made (w1.alloc (.cells #[] 35)) 141 [false, false, false, false, false, false, false]
        rw [World.size_alloc] at this
        exact this
      · rw [nots x hx, sn_zero]
    case round =>
      obtain ⟨k, m, ao', cap', bs, hk, rfl, rfl, hbr, ho, hB, hB7, hbs⟩ := hrel
      by_cases hlt : k < n
      · have hbk := hbs.out k (by omega)
        rw [sn_lea Hv.out (by rw [hlen.out]; exact hlt)] at hbk
        have hcell := hB.cell (j := k) (by omega)
        rw [hbk] at hcell
        have hszr := hbr.size
        have hgs := hB.lt
        have HB7 := hid hB7
        have hi1 : (k : Int) < n := by omega
        have hi7 : (k : Int) < 7 := by omega
        clear hbk hB7
        cases hq : lea xs k
        · rw [hq] at hcell
          have e1 := hid (ciP_no hq)
          have e2 := hid (sn_same Hv.out (by rw [hlen.out]; exact hlt) hq)
          clear hq
          go_wp2
          go_roundw
          case rel => exact ⟨k + 1, _, _, _, bs, by omega, rfl, by go_num, hbr, by rw [e1.out]; exact ho, hB, HB7.out, fun x hx => by rw [hbs.out x hx, e2.out]⟩
          case measure => simp [intOf]; omega
        · rw [hq] at hcell
          have e1 := hid (ciP_yes hq)
          clear hq
          go_wp2_with fail
          refine (circleFrom_any _ _ _ xs k _ (h.later hbr) Hv.out hlt).mono ?_
          rintro e w2 ⟨u2, rfl, o2, b2⟩
          obtain ⟨a2, c2, rfl, s2⟩ := o2.sl
          have hki : Hid (0 ≤ (k : Int) ∧ (k : Int) < xs.length) := hid ⟨by omega, by rw [hlen.out]; omega⟩
          have Hci : Hid (∀ j, j < (cyc xs k).length → 0 ≤ el (cyc xs k) j ∧ el (cyc xs k) j < n) := fun j hj => by have := cyc_in Hv.out hki.out (el_mem hj); rw [hlen.out] at this; exact this
          obtain ⟨ys, hys⟩ : ∃ ys, ys = cyc xs k := ⟨_, rfl⟩
          rw [← hys] at o2 s2 Hci e1 ⊢
          obtain ⟨P, hP⟩ : ∃ P, P = ys.length := ⟨_, rfl⟩
          rw [← hP] at o2 s2 Hci ⊢
          have HP := hid hP
          have Hys := hid hys
          clear hP hys
          have hbig2 := s2.big
          have hbA : ArrB w2 (w1.heap.size + 1) 141 bs := (b2.block _ hgs).trans hB
          have hob := o2.blocks
          have hbr2 := hbr.trans (b2.mono hszr)
          go_wp2
          obtain ⟨wo, hwo⟩ : ∃ wo : World, wo = wr := ⟨_, rfl⟩
          subst hwo
          go_loopw [26] (fun i wq => ∃ (t : Nat) (bs' : List Bool), t ≤ P ∧ i = .int .i64 t ∧ Below w.heap.size w wq ∧ wo.heap.size ≤ wq.heap.size ∧ OwnLx (some (w1.heap.size + 1)) wq w.heap.size wo.heap.size (.slice ao' m cap') (ciP xs k) ∧ Own wq wo.heap.size (.slice a2 P c2) ys ∧ ArrB wq (w1.heap.size + 1) 141 bs' ∧ bs'.length = 7 ∧ Hid (∀ x, x < 7 → elB bs' x = (sn xs k x || decide ((x : Int) ∈ ys.take t))))
            (fun i _ => P - (intOf i).toNat)
          case atStart => exact ⟨0, bs, Nat.zero_le _, rfl, hbr2, b2.size, ho.later b2, o2, hbA, HB7.out, fun x hx => by rw [hbs.out x hx]; simp⟩
          case round =>
            obtain ⟨t, bs', htP, rfl, hbq, hszq, hoq, oq, hA, hA7, hbq'⟩ := hrel
            by_cases hlt2 : t < P
            · obtain ⟨bj, oj, rfl, hbjlt, hcj⟩ := oq.read.row (by omega)
              have hcell2 := hcj t hlt2
              obtain ⟨y, hy⟩ := Int.eq_ofNat_of_zero_le (Hci.out t hlt2).1
              have hyn : y < n := by have := (Hci.out t hlt2).2; omega
              have hy7 : (y : Int) < 7 := by omega
              rw [hy] at hcell2
              have hfz := hA.frozen y
              have hcz := hA.cell (j := y) (by omega)
              have Hy := hid hy
              have hti : (t : Int) < P := by omega
              have HA7 := hid hA7
              clear hcj hy hA7
              go_wp2
              go_roundw
              case rel =>
                refine ⟨t + 1, bs'.set y true, by omega, by go_num, hbq.setCell (by show w.heap.size ≤ w1.heap.size + 1; omega) _, by simp [World.setCell]; omega, hoq.set y _, ?_, hA.set y true, by rw [List.length_set]; exact HA7.out, fun x hx => ?_⟩
                · exact own_chg oq (fun k' e _ => Below.heap_setCell _ _ _ _ (fun e2 => by have := (oq.blocks k' e).1; simp at e2; omega))
                · rw [take_el (by rw [← HP.out]; exact hlt2), Hy.out]
                  by_cases e : y = x
                  · subst e
                    rw [elB_set_same (by rw [HA7.out]; exact hx)]
                    simp
                  · rw [elB_set_ne e, hbq'.out x hx]
                    have hne : ¬ (x : Int) = y := by omega
                    simp [hne]
              case measure => simp [intOf]; omega
            · obtain rfl : t = P := by omega
              have hl0 : (ciP xs k).length ≤ 2000000 := by have := ciP_len xs k; omega
              have hgs2 := hA.lt
              go_wp2_with (at_builtin; refine app_lstx (some (w1.heap.size + 1)) wo.heap.size _ _ ys rfl _ _ rfl w.heap.size _ _ _ hoq (Nat.le_refl _) hszq (fun k e => by rw [← Option.some.inj e]; exact hgs) oq rfl rfl hl0 ?_)
              intro u' w' ho' hb' hg'
              have hA' : ArrB w' (w1.heap.size + 1) 141 bs' := by
                have hne : (some (w1.heap.size + 1)) ≠ (Value.slice ao' m cap').ownBlock := by
                  obtain ⟨vs, _, h2, _⟩ := hoq.ex
                  intro e
                  exact (h2 _ e.symm).2 rfl
                exact (hg'.block _ hgs2 hne).trans hA
              have hbz := hbq.trans hb'
              rw [← e1.out] at ho'
              have hl' := hid (rfl : (ciP xs (k + 1)).length = (ciP xs (k + 1)).length)
              obtain ⟨ao'', cap'', rfl, hs'⟩ := ho'.any.sl
              go_wp2
              go_roundw
              case rel => exact ⟨k + 1, _, _, _, bs', by omega, rfl, by go_num, hbz, ho', hA', hA7, fun x hx => by rw [hbq'.out x hx, sn_succ, ← Hys.out, HP.out, List.take_length]⟩
              case measure => simp [intOf]; omega
      · obtain rfl : k = n := by omega
        go_wp2
        go_ret
        exact ⟨_, rfl, by rw [onVL_yes Hv.out, circles, hlen.out]; exact ho.any, hbr⟩
  · have Hv := hid hv
    go_enter Tryz.func95, Tryz.ntmps95
    go_wp2_with fail
    refine (validI_any _ _ _ xs _ h).mono ?_
    rintro e w1 ⟨rfl, hb1⟩
    go_wp2
    go_ret
    exact madeL_no Hv.out hb1

end Go.Proofs.YtaceiebmgnhdgaaGreatDoor
