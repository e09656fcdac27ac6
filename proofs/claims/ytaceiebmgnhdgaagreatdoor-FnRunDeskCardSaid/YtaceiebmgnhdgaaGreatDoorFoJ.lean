/- Foata's map, in the program. Condition: the slice is an array of the call's own. -/
import Derived.Test.YtaceiebmgnhdgaaGreatDoorFoI
import Derived.Test.YtaceiebmgnhdgaaGreatDoorBnd
import Derived.StillTailTactics
namespace Go.Proofs.YtaceiebmgnhdgaaGreatDoor
open Go.RowKit

theorem cell_lt {w : World} {b : Nat} (h : (w.cell? ⟨b, 0, none⟩).isSome = true) : b < w.heap.size := by
  rcases Nat.lt_or_ge b w.heap.size with hq | hq
  · exact hq
  · have e : w.heap[b]? = none := Array.getElem?_eq_none hq
    unfold World.cell? at h
    simp [e] at h

/-- Blocks a and b hold x and low. -/
structure Sid (w : World) (a b : Nat) (x : Int) (low : Bool) : Prop where
  ca : w.cell? ⟨a, 0, none⟩ = some (.int .i64 x)
  cb : w.cell? ⟨b, 0, none⟩ = some (.bool low)
  la : a < w.heap.size
  lb : b < w.heap.size

set_option maxHeartbeats 1000000 in
theorem sameSide_any (y x : Int) (w : World) :
    Calls Tryz.prog 126 #[.int .i64 y, .int .i64 x] w (fun e w' => e = .returned (.func (.func 135) #[] #[.pointer (some ⟨w.heap.size, 0, none⟩), .pointer (some ⟨w.heap.size + 1, 0, none⟩)]) ∧ Sid w' w.heap.size (w.heap.size + 1) x (decide (y < x)) ∧ Below w.heap.size w w') := by
  go_enter Tryz.func126, Tryz.ntmps126
  go_wp2
  go_ret
  refine ⟨rfl, ⟨by simp, by simp, by simp; omega, by simp⟩, ?_⟩
  go_grown

theorem side_any (a b : Nat) (x z : Int) (low : Bool) (w : World) (h : Sid w a b x low) :
    Calls Tryz.prog 135 #[.int .i64 z, .pointer (some ⟨a, 0, none⟩), .pointer (some ⟨b, 0, none⟩)] w (fun e w' => e = .returned (.bool (sid low x z)) ∧ w' = w) := by
  have h1 := h.ca
  have h2 := h.cb
  go_enter Tryz.func135, Tryz.ntmps135
  go_wp2
  go_ret
  exact ⟨rfl, rfl⟩

theorem Sid.grown {w w' : World} {a b : Nat} {x : Int} {low : Bool} {row : Option Nat} (h : Sid w a b x low) (hg : w.grownBy w' row) (ha : row ≠ some a) (hb : row ≠ some b) : Sid w' a b x low :=
  ⟨hg.cell h.ca (fun e => ha e.symm), hg.cell h.cb (fun e => hb e.symm), Nat.lt_of_lt_of_le h.la hg.size, Nat.lt_of_lt_of_le h.lb hg.size⟩
theorem Arr.grown {w w' : World} {g T : Nat} {fs : List Int} {row : Option Nat} (h : Arr w g T fs) (hg : w.grownBy w' row) (ha : row ≠ some g) : Arr w' g T fs :=
  (hg.block g h.lt (fun e => ha e.symm)).trans h
theorem below_grown {w w' : World} (h : Below w.heap.size w w') : w.grownBy w' none := ⟨h.os, h.tape, h.output, h.size, fun k hk _ => h.block k hk⟩
theorem grownAny {w w' : World} (h : w.grownBy w' none) (row : Option Nat) : w.grownBy w' row := ⟨h.os, h.tape, h.output, h.size, fun k hk _ => h.block k hk (by simp)⟩

/-- The values while those of v are turned: O the pieces that are turned already. -/
def stt (O v r : List Int) : List Int := O ++ v.drop O.length ++ r
theorem stt_len (O v r : List Int) (h : O.length ≤ v.length) : (stt O v r).length = v.length + r.length := by simp [stt]; omega
theorem stt_el (O v r : List Int) {j : Nat} (h1 : O.length ≤ j) (h2 : j < v.length) : el (stt O v r) j = el v j := by
  rw [stt, List.append_assoc, el, el, List.getD_eq_getElem?_getD, List.getD_eq_getElem?_getD, List.getElem?_append_right h1, List.getElem?_append_left (by rw [List.length_drop]; omega), List.getElem?_drop, show O.length + (j - O.length) = j by omega]
theorem stt_rot (O v r : List Int) {d : Nat} (h : O.length + d < v.length) : rotR (stt O v r) O.length d = stt (O ++ [el v (O.length + d)] ++ (v.take (O.length + d)).drop O.length) v r := by
  have hs : ((v.take (O.length + d)).drop O.length).length = d := by rw [List.length_drop, List.length_take]; omega
  have e1 : (stt O v r).take O.length = O := by rw [stt, List.append_assoc, List.take_left]
  have e2 : (stt O v r).drop O.length = v.drop O.length ++ r := by rw [stt, List.append_assoc, List.drop_left]
  have e3 : (stt O v r).drop (O.length + d + 1) = v.drop (O.length + d + 1) ++ r := by
    rw [Nat.add_assoc, ← List.drop_drop, e2, List.drop_append_of_le_length (by rw [List.length_drop]; omega), List.drop_drop]
  have e4 : ((stt O v r).drop O.length).take d = (v.take (O.length + d)).drop O.length := by
    rw [e2, List.take_append_of_le_length (by rw [List.length_drop]; omega), List.drop_take, show O.length + d - O.length = d by omega]
  rw [rotR, e1, e3, e4, stt_el O v r (by omega) h, stt]
  have : (O ++ [el v (O.length + d)] ++ (v.take (O.length + d)).drop O.length).length = O.length + d + 1 := by rw [List.length_append, List.length_append, hs, List.length_singleton]; omega
  rw [this]
  simp only [List.append_assoc]

set_option maxRecDepth 20000 in
set_option maxHeartbeats 8000000 in
theorem there_any (g n : Nat) (xs : List Int) (w : World) (hA : Arr w g 3 xs) (hl : xs.length = n) (hn : n ≤ 1000) :
    Calls Tryz.prog 102 #[.agg #[], .slice (some ⟨g, 0, none⟩) n n] w (fun e w' => e = .returned (.slice (some ⟨g, 0, none⟩) n n) ∧ Arr w' g 3 (foat xs) ∧ w.grownBy w' (some g)) := by
  have HA := hid hA
  have Hl := hid hl
  have hgl := hA.lt
  clear hA hl
  go_enter Tryz.func102, Tryz.ntmps102
  go_wp2
  have hZ0 : Hid (xs = if n = 0 then [] else foP xs 1 ++ xs.drop 1) := hid (by
    split
    · rename_i e; exact List.eq_nil_of_length_eq_zero (by rw [Hl.out]; exact e)
    · rename_i e
      have hd : xs = el xs 0 :: xs.drop 1 := by
        have := drop_cons (v := xs) (j := 0) (by rw [Hl.out]; omega)
        rwa [List.drop_zero] at this
      conv => lhs; rw [hd]
      rfl)
  go_loopw [6] (fun i wr => ∃ (k : Nat) (Z : List Int), 1 ≤ k ∧ (k ≤ n ∨ (n = 0 ∧ k = 1)) ∧ i = .int .i64 k ∧ wr.cell? ⟨w.heap.size + 1, 0, none⟩ = some (.slice (some ⟨g, 0, none⟩) n n) ∧ Hid (Arr wr g 3 Z) ∧ Hid (Z = if n = 0 then [] else foP xs k ++ xs.drop k) ∧ w.grownBy wr (some g))
    (fun i _ => n - (intOf i).toNat)
  case atStart =>
    refine ⟨1, xs, Nat.le_refl _, by omega, rfl, by simp, ?_, hZ0, ?_⟩
    · exact hid ((HA.out.alloc _).alloc _)
    · exact grownAny ((World.grownBy_alloc w _ _).trans (World.grownBy_alloc _ _ _)) _
  case round =>
    obtain ⟨k, Z, hk1, hk2, rfl, hV, HZ, hZ, hG⟩ := hrel
    by_cases hlt : k < n
    · obtain ⟨q, rfl⟩ : ∃ q, k = q + 1 := ⟨k - 1, by omega⟩
      have hi1 : (q : Int) + 1 < n := by omega
      have hwq : IntKind.i64.wrap (q : Int) = q := IntWalk.i64_in _ ⟨by omega, by omega⟩
      have hi2 : (q : Int) < n := by omega
      have hq0 : 0 ≤ (q : Int) + 1 := by omega
      have hqn : ((q : Int) + 1).toNat = q + 1 := by omega
      have hn0 : ¬ n = 0 := by omega
      have hZe : Hid (Z = stt [] (foP xs (q + 1)) (xs.drop (q + 1))) := hid (by have := hZ.out; rw [if_neg hn0] at this; rw [this]; simp [stt])
      have hfl := foP_len xs (q + 1)
      have hZl : Z.length = n := by rw [hZe.out, stt_len _ _ _ (by simp), hfl, List.length_drop, Hl.out]; omega
      have ez1 : el Z q = el (foP xs (q + 1)) q := by rw [hZe.out, stt_el _ _ _ (by simp) (by rw [hfl]; omega)]
      have ez2 : el Z (q + 1) = el xs (q + 1) := by
        rw [hZe.out, stt]
        simp only [List.length_nil, List.drop_zero, List.nil_append]
        rw [el, List.getD_eq_getElem?_getD, List.getElem?_append_right (by omega), hfl, Nat.sub_self, List.getElem?_drop, Nat.add_zero]
        rfl
      have hc1 := HZ.out.cell (j := q) (by omega)
      have hc2 := HZ.out.cell (j := q + 1) (by omega)
      rw [ez1] at hc1
      rw [ez2] at hc2
      obtain ⟨Y, hY⟩ : ∃ Y, Y = el (foP xs (q + 1)) q := ⟨_, rfl⟩
      obtain ⟨X, hX⟩ : ∃ X, X = el xs (q + 1) := ⟨_, rfl⟩
      rw [← hY] at hc1
      rw [← hX] at hc2
      have Hlo : Hid (decide (Y < X) = lowOf (foP xs (q + 1)) X) := hid (by rw [lowOf, hfl, hY]; simp)
      obtain ⟨lo, hlo⟩ : ∃ lo, lo = decide (Y < X) := ⟨_, rfl⟩
      have HX := hid hX
      have HloE := hid hlo
      have HZl := hid hZl
      have Hfl := hid hfl
      clear hZ ez1 ez2 hY hX hlo hZl hfl hk2
      go_wp2
      go_still_tail 9, (by kernel_rfl)
      change wpList _ _ _ _ _ wr.drew
      have hG1 : w.grownBy wr.drew (some g) := grown_trans hG ⟨rfl, rfl, rfl, Nat.le_refl _, fun _ _ _ => rfl⟩
      have hV1 : wr.drew.cell? ⟨w.heap.size + 1, 0, none⟩ = some (.slice (some ⟨g, 0, none⟩) n n) := hV
      have HZ1 : Hid (Arr wr.drew g 3 Z) := HZ
      have hlV : w.heap.size + 1 < wr.drew.heap.size := cell_lt (by rw [hV1]; rfl)
      have hgl1 : g < wr.drew.heap.size := HZ1.out.lt
      obtain ⟨w2, hw2⟩ : ∃ w2, w2 = wr.drew := ⟨_, rfl⟩
      rw [← hw2] at hG1 hV1 HZ1 hlV hgl1 ⊢
      clear hw2 hG hV HZ hc1 hc2
      go_wp2_with fail
      refine (sameSide_any Y X w2).mono ?_
      rintro e w3 ⟨rfl, hS, hb3⟩
      rw [← HloE.out] at hS
      have hA1 := w2.heap.size
      obtain ⟨A, hA⟩ : ∃ A, A = w2.heap.size := ⟨_, rfl⟩
      rw [← hA] at hS hlV hgl1 ⊢
      have hG3 : w.grownBy w3 (some g) := grown_trans hG1 (grownAny (below_grown hb3) _)
      have hV3 : w3.cell? ⟨w.heap.size + 1, 0, none⟩ = some (.slice (some ⟨g, 0, none⟩) n n) := (hb3.cell (p := ⟨w.heap.size + 1, 0, none⟩) (by rw [← hA]; exact hlV)).trans hV1
      have HZ3 : Hid (Arr w3 g 3 (stt [] (foP xs (q + 1)) (xs.drop (q + 1)))) := hid (by rw [← hZe.out]; exact HZ1.out.below (by rw [← hA]; exact hgl1) hb3)
      clear hA hb3 hG1 hV1 HZ1 hA1
      go_wp2
      go_loopw [8, 9] (fun f t wr => ∃ (i : Nat), i ≤ q + 1 ∧ f = .int .i64 (((tbP lo X (foP xs (q + 1)) i).1.length : Nat) : Int) ∧ t = .int .i64 ((i + 1 : Nat) : Int) ∧ wr.cell? ⟨w.heap.size + 1, 0, none⟩ = some (.slice (some ⟨g, 0, none⟩) n n) ∧ Hid (Arr wr g 3 (stt (tbP lo X (foP xs (q + 1)) i).1 (foP xs (q + 1)) (xs.drop (q + 1)))) ∧ Hid (Sid wr A (A + 1) X lo) ∧ w.grownBy wr (some g))
        (fun _ t _ => q + 2 - (intOf t).toNat)
      case atStart => exact ⟨0, Nat.zero_le _, rfl, rfl, hV3, HZ3, hid hS, hG3⟩
      case round =>
        obtain ⟨i, hi, rfl, rfl, hVi, HZi, HSi, hGi⟩ := hrel
        have htl := tbP_len lo X (foP xs (q + 1)) i
        have htr := tbP_run lo X (foP xs (q + 1)) i (by rw [Hfl.out]; exact hi)
        by_cases hlt2 : i < q + 1
        · have hi3 : ((i + 1 : Nat) : Int) ≤ ((q + 1 : Nat) : Int) := by omega
          have hin : (i : Int) < n := by omega
          have hcl := HZi.out.cell (j := i) (by rw [stt_len _ _ _ (by rw [Hfl.out]; omega), Hfl.out]; omega)
          rw [stt_el _ _ _ (by omega) (by rw [Hfl.out]; exact hlt2)] at hcl
          obtain ⟨E, hE⟩ : ∃ E, E = el (foP xs (q + 1)) i := ⟨_, rfl⟩
          rw [← hE] at hcl
          have HE := hid hE
          clear hE
          cases hs : sid lo X E
          · have E1 := hid (tbP_no (by rw [← HE.out]; exact hs))
            go_wp2_with fail
            refine (side_any A (A + 1) X E lo wr HSi.out).mono ?_
            rintro e w4 ⟨rfl, hww⟩
            subst hww
            rw [hs]
            clear hs htr
            go_wp2
            go_roundw
            case rel => exact ⟨i + 1, by omega, by rw [E1.out], by go_num, hVi, by rw [E1.out]; exact HZi, HSi, hGi⟩
            case measure => simp [intOf]; omega
          · have E1 := hid (tbP_yes (by rw [← HE.out]; exact hs))
            obtain ⟨d, hd⟩ : ∃ d, d = (tbP lo X (foP xs (q + 1)) i).2.length := ⟨_, rfl⟩
            obtain ⟨f, hf⟩ : ∃ f, f = (tbP lo X (foP xs (q + 1)) i).1.length := ⟨_, rfl⟩
            rw [← hd, ← hf] at htl
            rw [← hf] at htr ⊢
            have hst := stt_rot (tbP lo X (foP xs (q + 1)) i).1 (foP xs (q + 1)) (xs.drop (q + 1)) (d := d) (by rw [← hf, Hfl.out]; omega)
            rw [← hf, htl, ← htr, ← HE.out] at hst
            have eN : (tbP lo X (foP xs (q + 1)) i).1 ++ [E] ++ (tbP lo X (foP xs (q + 1)) i).2 = (tbP lo X (foP xs (q + 1)) (i + 1)).1 := by rw [E1.out, HE.out]
            rw [eN] at hst
            have HST := hid hst
            have HNl : Hid ((tbP lo X (foP xs (q + 1)) (i + 1)).1.length = i + 1) := hid (by rw [← eN]; simp; omega)
            have hsl := stt_len (tbP lo X (foP xs (q + 1)) i).1 (foP xs (q + 1)) (xs.drop (q + 1)) (by rw [← hf, Hfl.out]; omega)
            rw [Hfl.out, List.length_drop, Hl.out] at hsl
            have hsl2 : (stt (tbP lo X (foP xs (q + 1)) i).1 (foP xs (q + 1)) (xs.drop (q + 1))).length = n := by omega
            have hVne : w.heap.size + 1 ≠ g := by omega
            have HSl := hid hsl2
            have Htl := hid htl
            clear htr hst eN hsl hsl2 hd hf
            go_wp2_with fail
            refine (side_any A (A + 1) X E lo wr HSi.out).mono ?_
            rintro e w4 ⟨rfl, hww⟩
            subst hww
            rw [hs]
            clear hs
            have earg : ((f + d + 1 : Nat) : Int) = (i : Int) + 1 := by have := Htl.out; omega
            have hcon := lastFirst_any (w.heap.size + 1) g n f d _ w4 hVi HZi.out HSl.out hn (by have := Htl.out; omega)
            rw [earg, HST.out] at hcon
            have Hcon := hid hcon
            have hfi : Hid (f ≤ i) := hid (by have := Htl.out; omega)
            clear hcon earg htl
            go_wp2_with fail
            refine Hcon.out.mono ?_
            rintro e w5 ⟨rfl, hA5, hG5⟩
            have hV5 := hG5.cell hVi (fun e => hVne (Option.some.inj e))
            have HS5 := hid (HSi.out.grown hG5 (fun e => by have := Option.some.inj e; omega) (fun e => by have := Option.some.inj e; omega))
            have HA5 := hid hA5
            have hG6 := grown_trans hGi hG5
            clear hA5 hG5 Hcon HSi HZi hVi hGi
            go_wp2
            go_roundw
            case rel => exact ⟨i + 1, by omega, by rw [HNl.out]; go_num, by go_num, hV5, HA5, HS5, hG6⟩
            case measure => simp [intOf]; omega
        · obtain rfl : i = q + 1 := by omega
          have eB : Hid (stt (tbP lo X (foP xs (q + 1)) (q + 1)).1 (foP xs (q + 1)) (xs.drop (q + 1)) = foP xs (q + 1 + 1) ++ xs.drop (q + 1 + 1)) := hid (by
            have e : foP xs (q + 1 + 1) = turnB (foP xs (q + 1)) X ++ [X] := by rw [HX.out]; rfl
            have e2 : turnB (foP xs (q + 1)) X = (tbP lo X (foP xs (q + 1)) (q + 1)).1 ++ (tbP lo X (foP xs (q + 1)) (q + 1)).2 := by unfold turnB; rw [← Hlo.out, ← HloE.out, Hfl.out]
            rw [e, e2, stt, htr, List.take_of_length_le (by rw [Hfl.out]; exact Nat.le_refl _), drop_cons (show q + 1 < xs.length by rw [Hl.out]; exact hlt), ← HX.out]
            simp)
          have hk3 : ¬ (((q + 1 : Nat) : Int) + 1 ≤ ((q + 1 : Nat) : Int)) := by omega
          clear htr htl
          go_wp2
          go_roundw
          case rel => exact ⟨q + 1 + 1, _, by omega, by omega, by go_num, hVi, HZi, hid (by rw [if_neg hn0]; exact eB.out), hGi⟩
          case measure => simp [intOf]; omega
    · have hke : Hid (Z = foat xs) := hid (by
        have := hZ.out
        by_cases e : n = 0
        · rw [if_pos e] at this
          rw [this, List.eq_nil_of_length_eq_zero (show xs.length = 0 by rw [Hl.out]; exact e)]; rfl
        · rw [if_neg e] at this
          rw [this, foat, Hl.out, show k = n by omega, List.drop_eq_nil_of_le (by rw [Hl.out]; exact Nat.le_refl _), List.append_nil])
      have hi1 : ¬ (k : Int) < n := by omega
      go_wp2
      go_ret
      exact ⟨rfl, by rw [← hke.out]; exact HZ.out, hG⟩

end Go.Proofs.YtaceiebmgnhdgaaGreatDoor
