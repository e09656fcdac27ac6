/- The way back of Foata's map, in the program. Condition: the slice is an array of the call's own. -/
import Derived.Test.YtlhphgldmefefabFoJ
namespace Go.Proofs.Ytlhphgldmefefab
open Go.RowKit

/-- The values while those of v are turned back, from place T on. -/
def sbk (T : Nat) (v R r : List Int) : List Int := v.take T ++ R ++ r
theorem sbk_len (T : Nat) (v R r : List Int) (h : T ≤ v.length) : (sbk T v R r).length = T + R.length + r.length := by simp [sbk]; omega
theorem sbk_el (T : Nat) (v R r : List Int) {j : Nat} (h1 : j < T) (h2 : T ≤ v.length) : el (sbk T v R r) j = el v j := by
  rw [sbk, List.append_assoc, el, el, List.getD_eq_getElem?_getD, List.getD_eq_getElem?_getD, List.getElem?_append_left (by rw [List.length_take]; omega), List.getElem?_take, if_pos h1]
theorem sbk_rot (v R r : List Int) {f d : Nat} (h : f + d + 1 ≤ v.length) : rotL (sbk (f + d + 1) v R r) f d = sbk f v ((v.drop (f + 1)).take d ++ [el v f] ++ R) r := by
  have hl : (v.take (f + d + 1)).length = f + d + 1 := by rw [List.length_take]; omega
  have e1 : (sbk (f + d + 1) v R r).take f = v.take f := by
    rw [sbk, List.append_assoc, List.take_append_of_le_length (by omega), List.take_take]
    congr 1; omega
  have e2 : ((sbk (f + d + 1) v R r).drop (f + 1)).take d = (v.drop (f + 1)).take d := by
    rw [sbk, List.append_assoc, List.drop_append_of_le_length (by omega), List.take_append_of_le_length (by rw [List.length_drop]; omega), List.drop_take, List.take_take]
    congr 1; omega
  have e3 : (sbk (f + d + 1) v R r).drop (f + d + 1) = R ++ r := by
    rw [sbk, List.append_assoc, List.drop_append_of_le_length (by omega), List.drop_eq_nil_of_le (by omega), List.nil_append]
  rw [rotL, e1, e2, e3, sbk_el _ _ _ _ (by omega) h, sbk]
  simp only [List.append_assoc]

set_option maxHeartbeats 8000000 in
theorem back_any (g n : Nat) (xs : List Int) (w : World) (hA : Arr w g 3 xs) (hl : xs.length = n) (hn : n ≤ 1000) :
    Calls Try.prog 62 #[.agg #[], .slice (some ⟨g, 0, none⟩) n n] w (fun e w' => e = .returned (.slice (some ⟨g, 0, none⟩) n n) ∧ Arr w' g 3 (fbac xs) ∧ w.grownBy w' (some g)) := by
  have HA := hid hA
  have Hl := hid hl
  have hgl := hA.lt
  clear hA hl
  by_cases hn00 : n = 0
  · subst hn00
    have hx : Hid (xs = fbac xs) := hid (by rw [List.eq_nil_of_length_eq_zero Hl.out]; rfl)
    go_enter Try.func62, Try.ntmps62
    go_wp2
    go_loopw [6] (fun i wr => i = .int .i64 (-1) ∧ wr.cell? ⟨w.heap.size + 1, 0, none⟩ = some (.slice (some ⟨g, 0, none⟩) 0 0) ∧ Hid (Arr wr g 3 xs) ∧ w.grownBy wr (some g))
      (fun _ _ => 0)
    case atStart => exact ⟨rfl, by simp, hid ((HA.out.alloc _).alloc _), grownAny ((World.grownBy_alloc w _ _).trans (World.grownBy_alloc _ _ _)) _⟩
    case round =>
      obtain ⟨rfl, hV, HZ, hG⟩ := hrel
      go_wp2
      go_ret
      exact ⟨rfl, by rw [← hx.out]; exact HZ.out, hG⟩
  · obtain ⟨m, rfl⟩ : ∃ m, n = m + 1 := ⟨n - 1, by omega⟩
    have hm0 : ((m : Int) + 1 - 1) = m := by omega
    go_enter Try.func62, Try.ntmps62
    go_wp2
    go_loopw [6] (fun i wr => ∃ (k t : Nat), Hid (k + t = m) ∧ i = .int .i64 k ∧ wr.cell? ⟨w.heap.size + 1, 0, none⟩ = some (.slice (some ⟨g, 0, none⟩) (m + 1) (m + 1)) ∧ Hid (Arr wr g 3 (fbP xs t ++ fbT xs t)) ∧ w.grownBy wr (some g))
      (fun i _ => (intOf i).toNat)
    case atStart =>
      refine ⟨m, 0, hid rfl, by simp, by simp, ?_, grownAny ((World.grownBy_alloc w _ _).trans (World.grownBy_alloc _ _ _)) _⟩
      rw [fbP, fbT, List.append_nil]
      exact hid ((HA.out.alloc _).alloc _)
    case round =>
      obtain ⟨k, t, hkt, rfl, hV, HZ, hG⟩ := hrel
      have hfl := fbP_len xs t
      rw [Hl.out] at hfl
      have htl := fbT_len xs t
      by_cases hlt : 1 ≤ k
      · obtain ⟨q, rfl⟩ : ∃ q, k = q + 1 := ⟨k - 1, by omega⟩
        have hfl2 : (fbP xs t).length = q + 2 := by have := hkt.out; omega
        obtain ⟨v, hv⟩ : ∃ v, v = (fbP xs t).take (q + 1) := ⟨_, rfl⟩
        obtain ⟨X, hX⟩ : ∃ X, X = el (fbP xs t) (q + 1) := ⟨_, rfl⟩
        have hvl : v.length = q + 1 := by rw [hv, List.length_take]; omega
        have hZe : fbP xs t ++ fbT xs t = sbk (q + 1) v [] (X :: fbT xs t) := by
          rw [sbk, List.take_of_length_le (by omega), List.append_nil, hv, hX]
          conv => lhs; rw [← List.take_append_drop (q + 1) (fbP xs t), drop_cons (show q + 1 < (fbP xs t).length by omega), List.drop_eq_nil_of_le (by omega)]
          simp
        have hnext : Hid (backB v X ++ X :: fbT xs t = fbP xs (t + 1) ++ fbT xs (t + 1)) := hid (by
          rw [fbP, fbT, hfl2, show q + 2 - 1 = q + 1 by omega, ← hv, ← hX])
        rw [hZe] at HZ
        have hi1 : (q : Int) + 1 < (m : Int) + 1 := by have := hkt.out; omega
        have hi2 : (1 : Int) ≤ (q : Int) + 1 := by omega
        have hq0 : 0 ≤ (q : Int) + 1 := by omega
        have hqn : ((q : Int) + 1).toNat = q + 1 := by omega
        have hwq : IntKind.i64.wrap (q : Int) = q := IntWalk.i64_in _ ⟨by omega, by have := hkt.out; omega⟩
        have hZl : (sbk (q + 1) v [] (X :: fbT xs t)).length = m + 1 := by rw [sbk_len _ _ _ _ (by omega), List.length_cons, htl, List.length_nil]; have := hkt.out; omega
        have hc1 := HZ.out.cell (j := 0) (by omega)
        rw [sbk_el _ _ _ _ (by omega) (by omega)] at hc1
        have hc2 := HZ.out.cell (j := q + 1) (by have := hkt.out; omega)
        have ez2 : el (sbk (q + 1) v [] (X :: fbT xs t)) (q + 1) = X := by
          rw [sbk, List.take_of_length_le (by omega), List.append_nil, el, List.getD_eq_getElem?_getD, List.getElem?_append_right (by omega), hvl, Nat.sub_self]; rfl
        rw [ez2] at hc2
        obtain ⟨Y, hY⟩ : ∃ Y, Y = el v 0 := ⟨_, rfl⟩
        rw [← hY] at hc1
        have Hlo : Hid (decide (Y < X) = lowB v X) := hid (by rw [lowB, hvl, hY]; simp)
        obtain ⟨lo, hlo⟩ : ∃ lo, lo = decide (Y < X) := ⟨_, rfl⟩
        have HloE := hid hlo
        have Hvl := hid hvl
        obtain ⟨rs, hrs⟩ : ∃ rs, rs = X :: fbT xs t := ⟨_, rfl⟩
        rw [← hrs] at HZ hnext
        have Hrl : Hid (rs.length = m - q) := hid (by rw [hrs, List.length_cons, htl]; have := hkt.out; omega)
        clear hfl hfl2 htl hv hX hvl hZe hZl ez2 hY hlo hrs
        go_wp2
        go_still_tail 7, (by kernel_rfl)
        change wpList _ _ _ _ _ wr.drew
        have hG1 : w.grownBy wr.drew (some g) := grown_trans hG ⟨rfl, rfl, rfl, Nat.le_refl _, fun _ _ _ => rfl⟩
        have hV1 : wr.drew.cell? ⟨w.heap.size + 1, 0, none⟩ = some (.slice (some ⟨g, 0, none⟩) (m + 1) (m + 1)) := hV
        have HZ1 : Hid (Arr wr.drew g 3 (sbk (q + 1) v [] rs)) := HZ
        have hlV : w.heap.size + 1 < wr.drew.heap.size := cell_lt (by rw [hV1]; rfl)
        have hgl1 : g < wr.drew.heap.size := HZ1.out.lt
        obtain ⟨w2, hw2⟩ : ∃ w2, w2 = wr.drew := ⟨_, rfl⟩
        rw [← hw2] at hG1 hV1 HZ1 hlV hgl1 ⊢
        clear hw2 hG hV HZ hc1 hc2
        go_wp2_with fail
        refine (sameSide_any Y X w2).mono ?_
        rintro e w3 ⟨rfl, hS, hb3⟩
        rw [← HloE.out] at hS
        obtain ⟨A, hA⟩ : ∃ A, A = w2.heap.size := ⟨_, rfl⟩
        rw [← hA] at hS hlV hgl1 ⊢
        have hG3 : w.grownBy w3 (some g) := grown_trans hG1 (grownAny (below_grown hb3) _)
        have hV3 : w3.cell? ⟨w.heap.size + 1, 0, none⟩ = some (.slice (some ⟨g, 0, none⟩) (m + 1) (m + 1)) := (hb3.cell (p := ⟨w.heap.size + 1, 0, none⟩) (by rw [← hA]; exact hlV)).trans hV1
        have HZ3 : Hid (Arr w3 g 3 (sbk (q + 1) v [] rs)) := hid (HZ1.out.below (by rw [← hA]; exact hgl1) hb3)
        have Hd0 : Hid (bkS lo X (v.drop (q + 1)) = ([], [])) := hid (by rw [List.drop_eq_nil_of_le (by rw [Hvl.out]; exact Nat.le_refl _)]; rfl)
        clear hA hb3 hG1 hV1 HZ1
        go_wp2
        go_loopw [8, 9] (fun to f wr => ∃ (p : Nat), p ≤ q + 1 ∧ f = .int .i64 ((p : Int) - 1) ∧ to = .int .i64 ((p + (bkS lo X (v.drop p)).1.length : Nat) : Int) ∧ wr.cell? ⟨w.heap.size + 1, 0, none⟩ = some (.slice (some ⟨g, 0, none⟩) (m + 1) (m + 1)) ∧ Hid (Arr wr g 3 (sbk (p + (bkS lo X (v.drop p)).1.length) v (bkS lo X (v.drop p)).2 rs)) ∧ Hid (Sid wr A (A + 1) X lo) ∧ w.grownBy wr (some g))
          (fun _ f _ => (intOf f + 1).toNat)
        case atStart => exact ⟨q + 1, Nat.le_refl _, by simp, by rw [Hd0.out]; simp, hV3, by rw [Hd0.out]; exact HZ3, hid hS, hG3⟩
        case round =>
          obtain ⟨p, hp, rfl, rfl, hVi, HZi, HSi, hGi⟩ := hrel
          have hDl := bkS_len lo X (v.drop p)
          have hDr := bkS_run lo X (v.drop p)
          rw [List.length_drop, Hvl.out] at hDl
          by_cases hp0 : 0 < p
          · obtain ⟨f, rfl⟩ : ∃ f, p = f + 1 := ⟨p - 1, by omega⟩
            obtain ⟨d, hd⟩ : ∃ d, d = (bkS lo X (v.drop (f + 1))).1.length := ⟨_, rfl⟩
            rw [← hd] at HZi hDl hDr ⊢
            have hfv : f < v.length := by rw [Hvl.out]; omega
            have hfm : (f : Int) < (m : Int) + 1 := by have := hkt.out; omega
            have hzl : (sbk (f + 1 + d) v (bkS lo X (v.drop (f + 1))).2 rs).length = m + 1 := by rw [sbk_len _ _ _ _ (by rw [Hvl.out]; omega), Hrl.out]; have := hkt.out; omega
            have hcl := HZi.out.cell (j := f) (by rw [hzl]; have := hkt.out; omega)
            rw [sbk_el _ _ _ _ (by omega) (by rw [Hvl.out]; omega)] at hcl
            obtain ⟨E, hE⟩ : ∃ E, E = el v f := ⟨_, rfl⟩
            rw [← hE] at hcl
            have HE := hid hE
            have hi3 : (0 : Int) ≤ f := by omega
            have Hzl := hid hzl
            clear hE hzl
            cases hs : sid lo X E
            · have E1 := bkS_no hfv (by rw [← HE.out]; exact hs)
              have El : Hid ((bkS lo X (v.drop f)).1.length = d + 1) := hid (by rw [E1, List.length_cons, hd])
              have Er : Hid ((bkS lo X (v.drop f)).2 = (bkS lo X (v.drop (f + 1))).2) := hid (by rw [E1])
              go_wp2_with fail
              refine (side_any A (A + 1) X E lo wr HSi.out).mono ?_
              rintro e w4 ⟨rfl, hww⟩
              subst hww
              rw [hs]
              clear hs hDl hDr E1 hd
              go_wp2
              go_roundw
              case rel => exact ⟨f, by omega, rfl, by rw [El.out]; congr 1; omega, hVi, by rw [El.out, Er.out, show f + (d + 1) = f + 1 + d by omega]; exact HZi, HSi, hGi⟩
              case measure => simp [intOf]
            · have E1 := bkS_yes hfv (by rw [← HE.out]; exact hs)
              have hrot := sbk_rot v (bkS lo X (v.drop (f + 1))).2 rs (f := f) (d := d) (by rw [Hvl.out]; omega)
              rw [← hDr, show f + d + 1 = f + 1 + d by omega] at hrot
              have eR : (bkS lo X (v.drop (f + 1))).1 ++ [el v f] ++ (bkS lo X (v.drop (f + 1))).2 = (bkS lo X (v.drop f)).2 := by rw [E1]
              rw [eR] at hrot
              have El : Hid ((bkS lo X (v.drop f)).1.length = 0) := hid (by rw [E1]; rfl)
              have earg : ((f + d + 1 : Nat) : Int) = (f : Int) + 1 + d := by omega
              have hcon := fun (w4 : World) (h1 : w4.cell? ⟨w.heap.size + 1, 0, none⟩ = some (.slice (some ⟨g, 0, none⟩) (m + 1) (m + 1))) (h2 : Arr w4 g 3 (sbk (f + 1 + d) v (bkS lo X (v.drop (f + 1))).2 rs)) => firstLast_any (w.heap.size + 1) g (m + 1) f d _ w4 h1 h2 Hzl.out hn (by have := hkt.out; omega)
              rw [earg, hrot] at hcon
              have Hcon := hid hcon
              clear hrot eR earg hcon E1 hDl hDr hd
              go_wp2_with fail
              refine (side_any A (A + 1) X E lo wr HSi.out).mono ?_
              rintro e w4 ⟨rfl, hww⟩
              subst hww
              rw [hs]
              clear hs
              go_wp2_with fail
              refine (Hcon.out _ hVi HZi.out).mono ?_
              rintro e w5 ⟨rfl, hA5, hG5⟩
              have hVne : w.heap.size + 1 ≠ g := by omega
              have hV5 := hG5.cell hVi (fun e => hVne (Option.some.inj e))
              have HS5 := hid (HSi.out.grown hG5 (fun e => by have := Option.some.inj e; omega) (fun e => by have := Option.some.inj e; omega))
              have HA5 := hid hA5
              have hG6 := grown_trans hGi hG5
              clear hA5 hG5 Hcon HSi HZi hVi hGi
              go_wp2
              go_roundw
              case rel => exact ⟨f, by omega, rfl, by rw [El.out]; simp, hV5, by rw [El.out, Nat.add_zero]; exact HA5, HS5, hG6⟩
              case measure => simp [intOf]
          · obtain rfl : p = 0 := by omega
            have hF : Hid (sbk (0 + (bkS lo X (v.drop 0)).1.length) v (bkS lo X (v.drop 0)).2 rs = fbP xs (t + 1) ++ fbT xs (t + 1)) := hid (by
              rw [← hnext.out, sbk, backB, ← Hlo.out, ← HloE.out, List.drop_zero, Nat.zero_add, ← bkS_run])
            rw [hF.out] at HZi
            obtain ⟨TO, hTO⟩ : ∃ T : Int, T = ((0 + (bkS lo X (v.drop 0)).1.length : Nat) : Int) := ⟨_, rfl⟩
            rw [← hTO]
            have hkt2 : Hid (q + (t + 1) = m) := hid (by have := hkt.out; omega)
            clear hDl hDr hTO hF
            go_wp2
            go_roundw
            case rel => exact ⟨q, t + 1, hkt2, by go_num, hVi, HZi, hGi⟩
            case measure => simp [intOf]
      · obtain rfl : k = 0 := by omega
        have hF : Hid (fbP xs t ++ fbT xs t = fbac xs) := hid (by
          obtain rfl : t = m := by have := hkt.out; omega
          have h1 : (fbP xs t).length = 1 := by omega
          have h2 : fbP xs t = [el (fbP xs t) 0] := by
            match hq : fbP xs t, h1 with
            | [a], _ => rfl
          rw [fbac, Hl.out, fbT, h1]
          conv => lhs; rw [h2]
          rfl)
        rw [hF.out] at HZ
        clear hfl htl
        go_wp2
        go_ret
        exact ⟨rfl, HZ.out, hG⟩

end Go.Proofs.Ytlhphgldmefefab
