/- binomialRow of the model, alone. Condition: at most seven. -/
import Derived.Test.YtjphaphnmclbcaaBnP
import Derived.Test.YtjphaphnmclbcaaBnf
import Derived.Test.YtjphaphnmclbcaaBng
namespace Go.Proofs.Ytjphaphnmclbcaa
open Go.RowKit

set_option maxRecDepth 20000 in
set_option maxHeartbeats 4000000 in
theorem bRS_any : ∀ (m k : Nat) (w : World), m ≤ 7 → k ≤ m → Calls Try.prog 86 #[.int .i64 (m : Int), .int .i64 (k : Int)] w (Made w (bR m k)) := by
  intro m
  induction m with
  | zero =>
    intro k w _ hk
    obtain rfl : k = 0 := by omega
    rw [bR]
    go_enter Try.func86, Try.ntmps86
    go_wp2
    go_ret
    exact ⟨_, rfl, own_one w 1 w.heap.size (Nat.le_refl _), (Below.refl _ _).alloc (Nat.le_refl _) _⟩
  | succ n ih =>
    intro k w hn hk
    obtain ⟨m, hm⟩ : ∃ m, m = n + 1 := ⟨_, rfl⟩
    have hbr : bR (n + 1) k = if k = 0 ∨ k = m then [1] else addR (addR (List.replicate (k * (m - k) + 1) 0) (bR n k) k (bR n k).length) (bR n (k - 1)) 0 (bR n (k - 1)).length := by rw [hm, bR]
    rw [hbr]
    clear hbr
    rw [← hm]
    by_cases h0 : k = 0
    · subst h0
      rw [if_pos (.inl rfl)]
      go_enter Try.func86, Try.ntmps86
      go_wp2
      go_ret
      exact ⟨_, rfl, own_one w 1 w.heap.size (Nat.le_refl _), (Below.refl _ _).alloc (Nat.le_refl _) _⟩
    · have hz0 : ((k : Int) == 0) = false := by simp; omega
      by_cases h1 : k = m
      · rw [if_pos (.inr h1)]
        have hz1 : ((k : Int) == (m : Int)) = true := by simp; omega
        clear h1 h0 hm
        go_enter Try.func86, Try.ntmps86
        go_wp2
        go_ret
        exact ⟨_, rfl, own_one w 1 w.heap.size (Nat.le_refl _), (Below.refl _ _).alloc (Nat.le_refl _) _⟩
      · rw [if_neg (by omega)]
        have hz1 : ((k : Int) == (m : Int)) = false := by simp; omega
        obtain ⟨hla, hba⟩ := bR_at (n := n) (k := k) (by omega) (by omega)
        obtain ⟨hlb, hbb⟩ := bR_at (n := n) (k := k - 1) (by omega) (by omega)
        have hw1 : IntKind.i64.wrap ((m : Int) - 1) = (n : Int) := by rw [IntKind.wrap_i64]; omega
        have hw2 : IntKind.i64.wrap ((k : Int) - 1) = ((k - 1 : Nat) : Int) := by rw [IntKind.wrap_i64]; omega
        have hq : k * (m - k) ≤ 49 := Nat.le_trans (Nat.mul_le_mul (show k ≤ 7 by omega) (show m - k ≤ 7 by omega)) (by decide)
        obtain ⟨s, hs⟩ : ∃ s, s = k * (m - k) + 1 := ⟨_, rfl⟩
        have hw3 : IntKind.i64.wrap ((m : Int) - k) = ((m - k : Nat) : Int) := by rw [IntKind.wrap_i64]; omega
        have hw4 : IntKind.i64.wrap ((k : Int) * ((m - k : Nat) : Int)) = ((k * (m - k) : Nat) : Int) := by rw [IntKind.wrap_i64]; push_cast; omega
        have hw5 : IntKind.i64.wrap (((k * (m - k) : Nat) : Int) + 1) = (s : Int) := by rw [IntKind.wrap_i64]; omega
        have hfa : k + (bR n k).length ≤ s := by rw [hla, hs]; exact fit1 (by omega) (by omega)
        have hfb : (bR n (k - 1)).length ≤ s := by rw [hlb, hs]; exact fit2 (by omega) (by omega)
        rw [← hs]
        have hs60 : s ≤ 50 := by omega
        have iha := ih k
        have ihb := ih (k - 1)
        have hkn : k ≤ n := by omega
        have hkn2 : k - 1 ≤ n := by omega
        have hn7 : n ≤ 7 := by omega
        obtain ⟨A, hA⟩ : ∃ A, A = bR n k := ⟨_, rfl⟩
        obtain ⟨B, hB⟩ : ∃ B, B = bR n (k - 1) := ⟨_, rfl⟩
        rw [← hA] at hla hba hfa iha ⊢
        rw [← hB] at hlb hbb hfb ihb ⊢
        clear hA hB ih
        have hA0 : 0 < A.length := by omega
        have hB0 : 0 < B.length := by omega
        have Hs : Hid ((k : Int) * ((m - k : Nat) : Int) + 1 = (s : Int)) := hid (by rw [hs]; push_cast; rfl)
        have Hfa := hid hfa
        have Hfb := hid hfb
        have Hba := hid hba
        have Hbb := hid hbb
        clear hs hfa hfb hba hbb hla hlb hm
        obtain ⟨la, hla⟩ : ∃ la, la = A.length := ⟨_, rfl⟩
        obtain ⟨lb, hlb⟩ : ∃ lb, lb = B.length := ⟨_, rfl⟩
        have Hla := hid hla
        have Hlb := hid hlb
        have hla50 : la ≤ 50 := by have := Hfa.out; omega
        have hlb50 : lb ≤ 50 := by have := Hfb.out; omega
        rw [← hla] at hA0
        rw [← hlb] at hB0
        clear hla hlb
        go_enter Try.func86, Try.ntmps86
        go_wp2_with fail
        refine (iha w hn7 hkn).mono ?_
        rintro e w1 ⟨ua, rfl, hoa, hb1⟩
        obtain ⟨aa, ca, rfl, hsa⟩ := hoa.sl
        rw [← Hla.out] at hsa ⊢
        clear hoa
        go_wp2_with fail
        refine (ihb w1 hn7 hkn2).mono ?_
        rintro e w2 ⟨ub, rfl, hob, hb2⟩
        obtain ⟨ab, cb, rfl, hsb⟩ := hob.sl
        rw [← Hlb.out] at hsb ⊢
        clear hob iha ihb
        have hsa2 := hsa.later hb2
        have hbr := hb1.trans (hb2.mono hb1.size)
        have hw2s : w.heap.size ≤ w2.heap.size := hbr.size
        clear hsa hb2 hb1
        obtain ⟨b, off, rfl, hblt, hc⟩ := hsa2.row hA0
        obtain ⟨b2, off2, rfl, hblt2, hc2⟩ := hsb.row hB0
        have hcc := hid hc
        have hcc2 := hid hc2
        have hbig := hsa2.big
        have hbig2 := hsb.big
        clear hc hc2 hsa2 hsb
        go_wp2_with (at_make; refine make_ints _ rfl _ _ rfl _ _ s rfl rfl Hs.out Hs.out (by omega) ?_)
        intro w3 ho3 hb3
        have hbr3 : Below w.heap.size w w3 := hbr.trans (hb3.mono hw2s)
        have hb30 := Below.refl w2.heap.size w3
        go_wp2
        go_loopw [8] (fun i wr => ∃ (t : Nat) (zs : List Int), t ≤ la ∧ i = .int .i64 t ∧ Below w2.heap.size w2 wr ∧ OwS wr w2.heap.size w2.heap.size s s zs ∧ Hid (zs = addR (List.replicate s 0) A k t))
          (fun i _ => la - (intOf i).toNat)
        case atStart => exact ⟨0, _, Nat.zero_le _, rfl, hb3, ho3, hid rfl⟩
        case round =>
          obtain ⟨t, zs, ht, rfl, hbq, hr, hz⟩ := hrel
          by_cases htl : t < la
          · have hcell := (hbq.cell (p := ⟨b, off + t, none⟩) hblt).trans (hcc.out t htl)
            have hbz := addR_bd (bd_zero (s := s)) Hba.out k t (k + t)
            rw [← hz.out] at hbz
            have ha0 := Hba.out t
            have hz1 := hbz.1
            have hz2 : el zs (k + t) ≤ 10000 := by have := hbz.2; omega
            obtain ⟨pr, hpr⟩ : ∃ pr, pr = el A t := ⟨_, rfl⟩
            rw [← hpr] at ha0 hcell
            have hp1 := ha0.1
            have hp2 := ha0.2
            have hi2 : (t : Int) < la := by omega
            have hi3 : (k : Int) + t < s := by have := Hfa.out; have := Hla.out; omega
            have hkt : k + t < s := by omega
            have hzl := hid hr.len
            have hfr := hr.frozen (k + t)
            have hcur := hr.cell hkt
            have Hpr := hid hpr
            clear hbz hpr ha0
            have hi0 : 0 ≤ (t : Int) + k := by omega
            have htn : ((t : Int) + k).toNat = k + t := by omega
            have hi4 : (t : Int) + k < s := by omega
            have hwk : IntKind.i64.wrap ((t : Int) + k) = (t : Int) + k := IntWalk.i64_in _ ⟨by omega, by omega⟩
            have hws : IntKind.i64.wrap (el zs (k + t) + pr) = el zs (k + t) + pr := IntWalk.i64_in _ ⟨by omega, by omega⟩
            go_wp2_with fail
            refine wp_region_still_tail 16 (by kernel_rfl) (by kernel_rfl) ?_
            simp only [List.take_succ_cons, List.take_zero, List.drop_succ_cons, List.drop_zero]
            change wpStill _ _ (World.drew _) _ _ _
            repeat still_step
            refine wpStill_nil ?_
            change wpList _ _ _ _ _ (World.drew _)
            go_wp2
            go_roundw
            case rel =>
              refine ⟨t + 1, _, by omega, by go_num, (drewN_below hbq _).setCell (Nat.le_refl _) _, hr.set (k + t) (el zs (k + t) + pr), ?_⟩
              refine hid ?_
              rw [addR, ← hz.out, ← Hpr.out]
              rfl
            case measure => simp [intOf]; omega
          · obtain rfl : t = la := by omega
            obtain ⟨zA, hzA⟩ : ∃ zA, zA = addR (List.replicate s 0) A k A.length := ⟨_, rfl⟩
            have HzA := hid hzA
            have HbA : Hid (Bd zA 10000) := hid (by
              rw [hzA]
              intro i
              have := addR_bd (bd_zero (s := s)) Hba.out k A.length i
              have := Hla.out
              omega)
            rw [← hzA]
            have hz0 : Hid (zs = zA) := hid (by rw [hz.out, hzA, ← Hla.out])
            clear hzA hz
            go_wp2
            go_loopw [9] (fun i wr => ∃ (t : Nat) (zs : List Int), t ≤ lb ∧ i = .int .i64 t ∧ Below w2.heap.size w2 wr ∧ OwS wr w2.heap.size w2.heap.size s s zs ∧ Hid (zs = addR zA B 0 t))
              (fun i _ => lb - (intOf i).toNat)
            case atStart => exact ⟨0, zs, Nat.zero_le _, rfl, hbq, hr, hid hz0.out⟩
            case round =>
              obtain ⟨t, zs, ht, rfl, hbq, hr, hz⟩ := hrel
              by_cases htl : t < lb
              · have hcell := (hbq.cell (p := ⟨b2, off2 + t, none⟩) hblt2).trans (hcc2.out t htl)
                have hbz := addR_bd HbA.out Hbb.out 0 t t
                rw [← hz.out] at hbz
                have ha0 := Hbb.out t
                have hz1 := hbz.1
                have hz2 : el zs t ≤ 100000 := by have := hbz.2; omega
                obtain ⟨pr, hpr⟩ : ∃ pr, pr = el B t := ⟨_, rfl⟩
                rw [← hpr] at ha0 hcell
                have hp1 := ha0.1
                have hp2 := ha0.2
                have hi2 : (t : Int) < lb := by omega
                have hi3 : (t : Int) < s := by have := Hfb.out; have := Hlb.out; omega
                have hkt : t < s := by omega
                have hzl := hid hr.len
                have hfr := hr.frozen t
                have hcur := hr.cell hkt
                have Hpr := hid hpr
                clear hbz hpr ha0
                have hws : IntKind.i64.wrap (el zs t + pr) = el zs t + pr := IntWalk.i64_in _ ⟨by omega, by omega⟩
                go_wp2_with fail
                refine wp_region_still_tail 12 (by kernel_rfl) (by kernel_rfl) ?_
                simp only [List.take_succ_cons, List.take_zero, List.drop_succ_cons, List.drop_zero]
                change wpStill _ _ (World.drew _) _ _ _
                repeat still_step
                refine wpStill_nil ?_
                change wpList _ _ _ _ _ (World.drew _)
                go_wp2
                go_roundw
                case rel =>
                  refine ⟨t + 1, _, by omega, by go_num, (drewN_below hbq _).setCell (Nat.le_refl _) _, hr.set t (el zs t + pr), ?_⟩
                  refine hid ?_
                  rw [addR, ← hz.out, ← Hpr.out, Nat.zero_add]
                  rfl
                case measure => simp [intOf]; omega
              · obtain rfl : t = lb := by omega
                go_wp2
                go_ret
                refine ⟨_, rfl, ?_, hbr.trans (hbq.mono hw2s)⟩
                rw [← Hlb.out]
                try rw [← HzA.out]
                rw [← hz.out]
                exact hr.own.mono hw2s

theorem BRS (n k : Int) (w : World) : Calls Try.prog 47 #[.int .i64 n, .int .i64 k] w (Made w (binL n k)) := by
  by_cases hv : 0 ≤ n ∧ n ≤ 7
  · have d1 : decide ((0 : Int) ≤ n ∧ n ≤ 7) = true := decide_eq_true hv
    by_cases hv2 : 0 ≤ k ∧ k ≤ n
    · have d2 : decide ((0 : Int) ≤ k ∧ k ≤ n) = true := decide_eq_true hv2
      obtain ⟨m, rfl⟩ : ∃ m : Nat, n = (m : Int) := ⟨n.toNat, by omega⟩
      obtain ⟨q, rfl⟩ : ∃ m : Nat, k = (m : Int) := ⟨k.toNat, by omega⟩
      have e : binL (m : Int) (q : Int) = bR m q := if_pos (by omega)
      rw [e]
      have hb := bRS_any m q
      have hm : m ≤ 7 := by omega
      have hq : q ≤ m := by omega
      clear e hv hv2
      go_enter Try.func47, Try.ntmps47
      go_wp2_with fail
      refine (inRange_any _ _ _ _).mono ?_
      rintro e w' ⟨rfl, hww⟩
      subst hww
      rw [d1]
      go_wp2_with fail
      refine (inRange_any _ _ _ _).mono ?_
      rintro e w' ⟨rfl, hww⟩
      subst hww
      rw [d2]
      go_wp2_with fail
      refine (hb w hm hq).mono ?_
      rintro e w1 ⟨u, rfl, ho, hb1⟩
      go_wp2
      go_ret
      exact ⟨u, rfl, ho, hb1⟩
    · have d2 : decide ((0 : Int) ≤ k ∧ k ≤ n) = false := decide_eq_false hv2
      have e : binL n k = [] := if_neg (by omega)
      rw [e]
      clear e hv hv2
      go_enter Try.func47, Try.ntmps47
      go_wp2_with fail
      refine (inRange_any _ _ _ _).mono ?_
      rintro e w' ⟨rfl, hww⟩
      subst hww
      rw [d1]
      go_wp2_with fail
      refine (inRange_any _ _ _ _).mono ?_
      rintro e w' ⟨rfl, hww⟩
      subst hww
      rw [d2]
      go_wp2
      go_ret
      exact ⟨_, rfl, Own.nil, Below.refl _ _⟩
  · have d1 : decide ((0 : Int) ≤ n ∧ n ≤ 7) = false := decide_eq_false hv
    have e : binL n k = [] := if_neg (by omega)
    rw [e]
    clear e hv
    go_enter Try.func47, Try.ntmps47
    go_wp2_with fail
    refine (inRange_any _ _ _ _).mono ?_
    rintro e w' ⟨rfl, hww⟩
    subst hww
    rw [d1]
    go_wp2
    go_ret
    exact ⟨_, rfl, Own.nil, Below.refl _ _⟩

end Go.Proofs.Ytjphaphnmclbcaa