/- The draw and the walk of the law of SignedRow. Condition of the law's own: at most 2^20 bytes. -/
import Derived.Test.YtjgaglfinpeeoacSgR
import Derived.Test.YtjgaglfinpeeoacDbl
import Derived.Test.YtjgaglfinpeeoacFal
import Derived.Test.YtjgaglfinpeeoacLawRow
import Derived.Test.YtjgaglfinpeeoacDrawS
namespace Go.Proofs.Ytjgaglfinpeeoac
open Go.RowKit

def g7 : List ByteArray := [gm_length, gm_flag, gm_falls, gm_negatives, gm_length, gm_flag, ⟨#[109, 97, 106, 111, 114]⟩]

set_option maxHeartbeats 1000000 in
theorem drawSignedRow_any (bo : Option Addr) (n cap : Nat) (cs : List Int) (w : World) (h : Slb w bo n cap cs) :
    Calls Try.prog 21 #[.slice bo n cap] w fun e w' => ∃ (s : ByteArray) (v : Int), e = .returned (.tuple #[.string s, .int .i64 v]) ∧ -1 ≤ v ∧ v ≤ 4 ∧ Below w.heap.size w w' := by
  go_enter Try.func21, Try.ntmps21
  go_wp2_with fail
  refine (newReader_any bo n cap cs w h).mono ?_
  rintro e w1 ⟨rfl, hr1, hb1⟩
  have hlt := hr1.lt
  have Ha7 := hid (ArrS.made w1 9 g7)
  have Hr7 : Hid (Rdr (w1.alloc (.cells (g7.map Value.string).toArray 9)) w.heap.size 0) := hid (hr1.below ((Below.refl w1.heap.size w1).alloc (Nat.le_refl _) _))
  go_wp2_with fail
  refine (of_any w.heap.size 0 w1.heap.size 7 9 g7 _ Hr7.out (by omega) Ha7.out rfl (by omega) (by omega) (by omega)).mono ?_
  rintro e w2 ⟨j, hj, rfl, hr2, hg2⟩
  have hb2 : Below w.heap.size w w2 := below_reader (hb1.alloc hb1.size _) hg2
  have hlt2 := hr2.lt
  have ha := lit_arr w2 [3, 2, 1, 0, 4, -1]
  have hr := hr2.below ((Below.refl w2.heap.size w2).alloc (Nat.le_refl _) (.cells ([3, 2, 1, 0, 4, -1].map (Value.int .i64)).toArray 3))
  have Ha := hid ha
  have Hr := hid hr
  obtain ⟨s, hs⟩ : ∃ s, s = els g7 j := ⟨_, rfl⟩
  rw [← hs]
  clear ha hr hj hs
  go_wp2_with fail
  refine (one_any w.heap.size 1 w2.heap.size 6 3 [3, 2, 1, 0, 4, -1] _ Hr.out (by omega) Ha.out rfl (by omega) (by omega) (by omega)).mono ?_
  rintro e w3 ⟨j, hj, rfl, hr3, hg3⟩
  have hv : ∀ j, j < 6 → -1 ≤ el [3, 2, 1, 0, 4, -1] j ∧ el [3, 2, 1, 0, 4, -1] j ≤ 4 := by decide
  have hv' := hv j hj
  obtain ⟨v, hv2⟩ : ∃ v, v = el [3, 2, 1, 0, 4, -1] j := ⟨_, rfl⟩
  rw [← hv2] at hv' ⊢
  clear hv hv2 hj
  go_wp2
  go_ret2
  exact ⟨_, v, rfl, hv'.1, hv'.2, below_reader (hb2.alloc hb2.size _) hg3⟩

/-- How many sets of i of n there are. -/
def chG (n : Int) : Nat → Int
  | 0 => 1
  | i + 1 => chG n i * (n - i) / ((i : Int) + 1)
theorem chG_in : ∀ n : Nat, n < 4 → ∀ i : Nat, i < 4 → 0 ≤ chG n i ∧ chG n i ≤ 100 := by decide
def ngR (n : Nat) : List Int := (List.range (n + 1)).map fun k => fac n * chG n k
theorem tal_all : ∀ n : Nat, n < 4 → (decide (tal (numG 0 n) = dbl n) && decide (tal (numG 1 n) = dbl n) && decide (tal (numG 2 n) = fal n) && decide (tal (numG 3 n) = ngR n)) = true := by decide +kernel
theorem tal_facts {n : Nat} (h : n ≤ 3) : tal (numG 0 n) = dbl n ∧ tal (numG 1 n) = dbl n ∧ tal (numG 2 n) = fal n ∧ tal (numG 3 n) = ngR n := by
  have := tal_all n (by omega)
  simp only [Bool.and_eq_true, decide_eq_true_eq] at this
  exact ⟨this.1.1.1, this.1.1.2, this.1.2, this.2⟩

theorem choose_any (n K : Nat) (w : World) (h3 : n ≤ 3) (hK : K ≤ n) :
    Calls Try.prog 27 #[.int .i64 n, .int .i64 K] w (fun e w' => e = .returned (.int .i64 (chG n K)) ∧ w' = w) := by
  go_enter Try.func27, Try.ntmps27
  go_wp2
  go_loop [5, 6] (fun c i => ∃ (t : Nat), t ≤ K ∧ c = .int .i64 (chG n t) ∧ i = .int .i64 t)
    (fun _ i => K - (intOf i).toNat)
  case atStart => exact ⟨0, Nat.zero_le _, rfl, rfl⟩
  case round =>
    obtain ⟨t, ht, rfl, rfl⟩ := hrel
    by_cases htl : t < K
    · have hb := chG_in n (by omega) t (by omega)
      have he : Hid (chG n (t + 1) = chG n t * ((n : Int) - t) / ((t : Int) + 1)) := hid rfl
      obtain ⟨c, hc⟩ : ∃ c, c = chG n t := ⟨_, rfl⟩
      rw [← hc] at he hb ⊢
      have hb0 := hb.1
      have hb1 := hb.2
      obtain ⟨pr, hpr⟩ : ∃ pr, pr = c * ((n : Int) - (t : Int)) := ⟨_, rfl⟩
      have hp0 : 0 ≤ pr := by rw [hpr]; exact Int.mul_nonneg hb0 (by omega)
      have hp1 : pr ≤ 300 := by
        have : c * ((n : Int) - (t : Int)) ≤ 100 * 3 := Int.mul_le_mul hb1 (by omega) (by omega) (by omega)
        rw [hpr]; omega
      have hw : wrap64 (c * ((n : Int) - (t : Int))) = pr := by rw [← hpr]; exact IntWalk.wrap64_in _ ⟨by omega, by omega⟩
      have Hpr := hid hpr
      have hi : (t : Int) + 1 ≤ 7 := by omega
      clear hb hc hpr
      go_wp2
      go_round
      case rel =>
        refine ⟨t + 1, by omega, ?_, by go_num⟩
        rw [he.out, ← Hpr.out]
      case measure => simp [intOf]; omega
    · obtain rfl : t = K := by omega
      go_wp2
      go_ret
      exact ⟨rfl, rfl⟩

set_option maxRecDepth 20000 in
set_option maxHeartbeats 8000000 in
theorem fnSignedRow (bo : Option Addr) (n cap : Nat) (cs : List Int) (w : World) (h : Slb w bo n cap cs) :
    Calls Try.prog 5 #[.slice bo n cap] w (Says w (.bool true)) := by
  have hbig := h.big
  by_cases hn : n ≤ 1048576
  · go_enter Try.func5, Try.ntmps5
    go_wp2_with fail
    refine (drawSignedRow_any _ _ _ _ _ h).mono ?_
    rintro e w1 ⟨s, v, rfl, v0, v1, t1⟩
    by_cases hok : ixG s < 4 ∧ 0 ≤ v ∧ v ≤ 3
    · obtain ⟨h4, hv0, hv3⟩ := hok
      obtain ⟨m, rfl⟩ := Int.eq_ofNat_of_zero_le hv0
      have hm : m ≤ 3 := by omega
      have e0 := eqlg_length s
      have e1 := eqlg_flag s
      have e2 := eqlg_falls s
      have e3 := eqlg_negatives s
      obtain ⟨k, hk⟩ : ∃ k, k = ixG s := ⟨_, rfl⟩
      rw [← hk] at e0 e1 e2 e3 h4
      have hk4 : k = 0 ∨ k = 1 ∨ k = 2 ∨ k = 3 := by omega
      clear v0 v1 hv0 hv3 h4
      rcases hk4 with hk4 | hk4 | hk4 | hk4
      all_goals subst hk4
      · have Htal := hid (tal_facts hm)
        replace e0 : (s.toList == [108, 101, 110, 103, 116, 104]) = true := e0.trans (decide_eq_true rfl)
        replace e1 : (s.toList == [102, 108, 97, 103]) = false := e1.trans (decide_eq_false (by omega))
        replace e2 : (s.toList == [102, 97, 108, 108, 115]) = false := e2.trans (decide_eq_false (by omega))
        replace e3 : (s.toList == [110, 101, 103, 97, 116, 105, 118, 101, 115]) = false := e3.trans (decide_eq_false (by omega))
        obtain ⟨L, HL⟩ : ∃ L, Hid (L = tal (numG 0 m)) := ⟨_, rfl⟩
        have HI : Hid (∀ w : World, Calls Try.prog 22 #[.string s, .int .i64 m] w (Made2 w L true)) := hid (fun w => by rw [HL.out]; exact sgRI_yes s 0 m w hk (by omega) hm)
        have HS : Hid (∀ w : World, Calls Try.prog 23 #[.string s, .int .i64 m] w (Made2 w L true)) := hid (fun w => by rw [HL.out]; exact sgRS_yes s 0 m w hk (by omega) hm)
        clear hk
        go_wp2_with fail
        refine (HI.out _).mono ?_
        rintro e w2 ⟨u2, rfl, o2, b2⟩
        have t2 := t1.trans (b2.mono t1.size)
        obtain ⟨ad2, cp2, rfl, s2⟩ := o2.sl
        clear o2
        go_wp2_with fail
        refine (HS.out _).mono ?_
        rintro e w3 ⟨u3, rfl, o3, b3⟩
        have t3 := t2.trans (b3.mono t2.size)
        obtain ⟨ad3, cp3, rfl, s3⟩ := o3.sl
        have s23 := s2.later b3
        clear o3
        go_wp2_with fail
        refine (says_tob (equalInts_any _ _ _ L _ _ _ L _ s23 s3) (decide_eq_true rfl)).mono ?_
        rintro e w4 ⟨rfl, b4⟩
        have t4 := t3.trans (b4.mono t3.size)
        have s24 := s23.later b4
        clear s2 s23 s3
        go_wp2_with fail
        refine (made_to (dblI_yes m _ (by omega)) (Htal.out.1.symm.trans HL.out.symm)).mono ?_
        rintro e w5 ⟨u5, rfl, o5, b5⟩
        have t5 := t4.trans (b5.mono t4.size)
        obtain ⟨ad5, cp5, rfl, s5⟩ := o5.sl
        have s25 := s24.later b5
        clear o5
        go_wp2_with fail
        refine (says_tob (equalInts_any _ _ _ L _ _ _ L _ s25 s5) (decide_eq_true rfl)).mono ?_
        rintro e w6 ⟨rfl, b6⟩
        go_wp2
        go_ret
        exact ⟨rfl, t5.trans (b6.mono t5.size)⟩
      · have Htal := hid (tal_facts hm)
        replace e0 : (s.toList == [108, 101, 110, 103, 116, 104]) = false := e0.trans (decide_eq_false (by omega))
        replace e1 : (s.toList == [102, 108, 97, 103]) = true := e1.trans (decide_eq_true rfl)
        replace e2 : (s.toList == [102, 97, 108, 108, 115]) = false := e2.trans (decide_eq_false (by omega))
        replace e3 : (s.toList == [110, 101, 103, 97, 116, 105, 118, 101, 115]) = false := e3.trans (decide_eq_false (by omega))
        obtain ⟨L, HL⟩ : ∃ L, Hid (L = tal (numG 1 m)) := ⟨_, rfl⟩
        have HI : Hid (∀ w : World, Calls Try.prog 22 #[.string s, .int .i64 m] w (Made2 w L true)) := hid (fun w => by rw [HL.out]; exact sgRI_yes s 1 m w hk (by omega) hm)
        have HS : Hid (∀ w : World, Calls Try.prog 23 #[.string s, .int .i64 m] w (Made2 w L true)) := hid (fun w => by rw [HL.out]; exact sgRS_yes s 1 m w hk (by omega) hm)
        clear hk
        go_wp2_with fail
        refine (HI.out _).mono ?_
        rintro e w2 ⟨u2, rfl, o2, b2⟩
        have t2 := t1.trans (b2.mono t1.size)
        obtain ⟨ad2, cp2, rfl, s2⟩ := o2.sl
        clear o2
        go_wp2_with fail
        refine (HS.out _).mono ?_
        rintro e w3 ⟨u3, rfl, o3, b3⟩
        have t3 := t2.trans (b3.mono t2.size)
        obtain ⟨ad3, cp3, rfl, s3⟩ := o3.sl
        have s23 := s2.later b3
        clear o3
        go_wp2_with fail
        refine (says_tob (equalInts_any _ _ _ L _ _ _ L _ s23 s3) (decide_eq_true rfl)).mono ?_
        rintro e w4 ⟨rfl, b4⟩
        have t4 := t3.trans (b4.mono t3.size)
        have s24 := s23.later b4
        clear s2 s23 s3
        go_wp2_with fail
        refine (made_to (dblI_yes m _ (by omega)) (Htal.out.2.1.symm.trans HL.out.symm)).mono ?_
        rintro e w5 ⟨u5, rfl, o5, b5⟩
        have t5 := t4.trans (b5.mono t4.size)
        obtain ⟨ad5, cp5, rfl, s5⟩ := o5.sl
        have s25 := s24.later b5
        clear o5
        go_wp2_with fail
        refine (says_tob (equalInts_any _ _ _ L _ _ _ L _ s25 s5) (decide_eq_true rfl)).mono ?_
        rintro e w6 ⟨rfl, b6⟩
        go_wp2
        go_ret
        exact ⟨rfl, t5.trans (b6.mono t5.size)⟩
      · have Htal := hid (tal_facts hm)
        replace e0 : (s.toList == [108, 101, 110, 103, 116, 104]) = false := e0.trans (decide_eq_false (by omega))
        replace e1 : (s.toList == [102, 108, 97, 103]) = false := e1.trans (decide_eq_false (by omega))
        replace e2 : (s.toList == [102, 97, 108, 108, 115]) = true := e2.trans (decide_eq_true rfl)
        replace e3 : (s.toList == [110, 101, 103, 97, 116, 105, 118, 101, 115]) = false := e3.trans (decide_eq_false (by omega))
        obtain ⟨L, HL⟩ : ∃ L, Hid (L = tal (numG 2 m)) := ⟨_, rfl⟩
        have HI : Hid (∀ w : World, Calls Try.prog 22 #[.string s, .int .i64 m] w (Made2 w L true)) := hid (fun w => by rw [HL.out]; exact sgRI_yes s 2 m w hk (by omega) hm)
        have HS : Hid (∀ w : World, Calls Try.prog 23 #[.string s, .int .i64 m] w (Made2 w L true)) := hid (fun w => by rw [HL.out]; exact sgRS_yes s 2 m w hk (by omega) hm)
        clear hk
        go_wp2_with fail
        refine (HI.out _).mono ?_
        rintro e w2 ⟨u2, rfl, o2, b2⟩
        have t2 := t1.trans (b2.mono t1.size)
        obtain ⟨ad2, cp2, rfl, s2⟩ := o2.sl
        clear o2
        go_wp2_with fail
        refine (HS.out _).mono ?_
        rintro e w3 ⟨u3, rfl, o3, b3⟩
        have t3 := t2.trans (b3.mono t2.size)
        obtain ⟨ad3, cp3, rfl, s3⟩ := o3.sl
        have s23 := s2.later b3
        clear o3
        go_wp2_with fail
        refine (says_tob (equalInts_any _ _ _ L _ _ _ L _ s23 s3) (decide_eq_true rfl)).mono ?_
        rintro e w4 ⟨rfl, b4⟩
        have t4 := t3.trans (b4.mono t3.size)
        have s24 := s23.later b4
        clear s2 s23 s3
        go_wp2_with fail
        refine (made_to (falI_yes m _ (by omega)) (Htal.out.2.2.1.symm.trans HL.out.symm)).mono ?_
        rintro e w5 ⟨u5, rfl, o5, b5⟩
        have t5 := t4.trans (b5.mono t4.size)
        obtain ⟨ad5, cp5, rfl, s5⟩ := o5.sl
        have s25 := s24.later b5
        clear o5
        go_wp2_with fail
        refine (says_tob (equalInts_any _ _ _ L _ _ _ L _ s25 s5) (decide_eq_true rfl)).mono ?_
        rintro e w6 ⟨rfl, b6⟩
        go_wp2
        go_ret
        exact ⟨rfl, t5.trans (b6.mono t5.size)⟩
      · have Htal := hid (tal_facts hm)
        replace e0 : (s.toList == [108, 101, 110, 103, 116, 104]) = false := e0.trans (decide_eq_false (by omega))
        replace e1 : (s.toList == [102, 108, 97, 103]) = false := e1.trans (decide_eq_false (by omega))
        replace e2 : (s.toList == [102, 97, 108, 108, 115]) = false := e2.trans (decide_eq_false (by omega))
        replace e3 : (s.toList == [110, 101, 103, 97, 116, 105, 118, 101, 115]) = true := e3.trans (decide_eq_true rfl)
        obtain ⟨L, HL⟩ : ∃ L, Hid (L = tal (numG 3 m)) := ⟨_, rfl⟩
        have HI : Hid (∀ w : World, Calls Try.prog 22 #[.string s, .int .i64 m] w (Made2 w L true)) := hid (fun w => by rw [HL.out]; exact sgRI_yes s 3 m w hk (by omega) hm)
        have HS : Hid (∀ w : World, Calls Try.prog 23 #[.string s, .int .i64 m] w (Made2 w L true)) := hid (fun w => by rw [HL.out]; exact sgRS_yes s 3 m w hk (by omega) hm)
        clear hk
        go_wp2_with fail
        refine (HI.out _).mono ?_
        rintro e w2 ⟨u2, rfl, o2, b2⟩
        have t2 := t1.trans (b2.mono t1.size)
        obtain ⟨ad2, cp2, rfl, s2⟩ := o2.sl
        clear o2
        go_wp2_with fail
        refine (HS.out _).mono ?_
        rintro e w3 ⟨u3, rfl, o3, b3⟩
        have t3 := t2.trans (b3.mono t2.size)
        obtain ⟨ad3, cp3, rfl, s3⟩ := o3.sl
        have s23 := s2.later b3
        clear o3
        go_wp2_with fail
        refine (says_tob (equalInts_any _ _ _ L _ _ _ L _ s23 s3) (decide_eq_true rfl)).mono ?_
        rintro e w4 ⟨rfl, b4⟩
        have t4 := t3.trans (b4.mono t3.size)
        have s24 := s23.later b4
        clear s2 s23 s3
        have hLn : Hid (L = ngR m) := hid (HL.out.trans Htal.out.2.2.2)
        have hll : L.length = m + 1 := by rw [hLn.out, ngR, map_range_len]
        have hle : Hid (∀ j, j < m + 1 → el L j = fac m * chG m j) := hid (fun j hj => by rw [hLn.out, ngR, el_map hj])
        rw [hll] at s24 ⊢
        clear hll
        obtain ⟨FF, HFF⟩ : ∃ FF, Hid (FF = fac m) := ⟨_, rfl⟩
        have hF : 0 ≤ FF ∧ FF ≤ 6 := by
          rw [HFF.out]
          have : ∀ n : Nat, n < 4 → 0 ≤ fac n ∧ fac n ≤ 6 := by decide
          exact this m (by omega)
        go_wp2
        go_loopw [9] (fun i wr => ∃ t : Nat, t ≤ m + 1 ∧ i = .int .i64 t ∧ Below w4.heap.size w4 wr) (fun i _ => m + 1 - (intOf i).toNat)
        case atStart => exact ⟨0, Nat.zero_le _, rfl, Below.refl _ _⟩
        case round =>
          obtain ⟨t, ht, rfl, hbr⟩ := hrel
          by_cases htl : t < m + 1
          · have hti : (t : Int) < (m : Int) + 1 := by omega
            obtain ⟨b, off, rfl, hblt, hc⟩ := s24.row (by omega)
            have hcell : wr.drew.cell? ⟨b, off + t, none⟩ = some (.int .i64 (el L t)) := (hbr.cell (p := ⟨b, off + t, none⟩) hblt).trans (hc t htl)
            have hch := chG_in m (by omega) t (by omega)
            obtain ⟨C, HC⟩ : ∃ C, Hid (C = chG m t) := ⟨_, rfl⟩
            rw [← HC.out] at hch
            obtain ⟨pr, hpr⟩ : ∃ pr, pr = FF * C := ⟨_, rfl⟩
            have hp0 : 0 ≤ pr := by rw [hpr]; exact Int.mul_nonneg hF.1 hch.1
            have hp1 : pr ≤ 600 := by have : FF * C ≤ 6 * 100 := Int.mul_le_mul hF.2 hch.2 hch.1 (by omega); rw [hpr]; omega
            have hel : el L t = pr := by rw [hle.out t htl, ← HFF.out, ← HC.out, hpr]
            rw [hel] at hcell
            have hw : IntKind.i64.wrap (FF * C) = pr := by rw [← hpr]; exact IntWalk.i64_in _ ⟨by omega, by omega⟩
            have hne : (pr != pr) = false := by simp
            have hbD := hbr.drew
            clear hc hpr hel hch
            go_wp2_with fail
            go_region_with (first
              | (go_at_call 27; refine (choose_any m t _ hm (by omega)).mono ?_; rintro e v2 ⟨rfl, hv2⟩; subst hv2; rw [← HC.out])
              | (go_at_call 17; refine (product_any m _ (by omega)).mono ?_; rintro e v1 ⟨rfl, hv1⟩; subst hv1; rw [← HFF.out]))
            all_goals (
              go_wp2
              go_roundw
              case rel => exact ⟨t + 1, by omega, by go_num, hbD⟩
              case measure => simp [intOf]; omega)
          · obtain rfl : t = m + 1 := by omega
            go_wp2
            go_ret
            exact ⟨rfl, t4.trans (hbr.mono t4.size)⟩
    · have Hok := hid hok
      clear hok
      go_wp2_with fail
      refine (sgRI_no s v _ Hok.out).mono ?_
      rintro e w2 ⟨u2, rfl, o2, b2⟩
      have t2 := t1.trans (b2.mono t1.size)
      obtain ⟨ad2, cp2, rfl, s2⟩ := o2.sl
      clear o2
      go_wp2_with fail
      refine (sgRS_no s v _ Hok.out).mono ?_
      rintro e w3 ⟨u3, rfl, o3, b3⟩
      have t3 := t2.trans (b3.mono t2.size)
      obtain ⟨ad3, cp3, rfl, s3⟩ := o3.sl
      have s23 := s2.later b3
      clear o3
      go_wp2_with fail
      refine (says_tob (equalInts_any _ _ _ [] _ _ _ [] _ s23 s3) (decide_eq_true rfl)).mono ?_
      rintro e w4 ⟨rfl, b4⟩
      have t4 := t3.trans (b4.mono t3.size)
      go_wp2_with fail
      refine (says_tob (equalInts_any _ _ _ [] _ _ _ [] _ (s23.later b4) (s3.later b4)) (decide_eq_true rfl)).mono ?_
      rintro e w5 ⟨rfl, b5⟩
      go_wp2
      go_ret
      exact ⟨rfl, t4.trans (b5.mono t4.size)⟩
  · go_enter Try.func5, Try.ntmps5
    go_wp2
    go_ret
    exact ⟨rfl, Below.refl _ _⟩

end Go.Proofs.Ytjgaglfinpeeoac
