/- The rows of descents, in the program and in its model. No condition. -/
import Derived.Test.YtpokoknapapdcaaRowC
namespace Go.Proofs.Ytpokoknapapdcaa
open Go.RowKit

theorem euR_next (row : List Int) (m t : Nat) : euR row m (t + 1) = addAt (addAt (euR row m t) t (el row t * ((t : Int) + 1))) (t + 1) (el row t * ((m : Int) - t - 1)) := rfl

set_option maxHeartbeats 4000000 in
theorem eulI_yes (n : Nat) (w : World) (h7 : n ≤ 7) :
    Calls Try.prog 49 #[.int .i64 n] w (Made w (euler n)) := by
  go_enter Try.func49, Try.ntmps49
  have h7i : (n : Int) ≤ 7 := by omega
  go_wp2
  go_loopw [3, 4] (fun v i wr => ∃ (k : Nat) (ao' : Option Addr) (cap' : Nat), k ≤ n - 1 ∧ v = .slice ao' (k + 1) cap' ∧ i = .int .i64 ((k : Int) + 2) ∧ Below w.heap.size w wr ∧ Own wr w.heap.size (.slice ao' (k + 1) cap') (eu k))
    (fun _ i _ => n + 2 - (intOf i).toNat)
  case atStart => exact ⟨0, _, _, Nat.zero_le _, rfl, rfl, (Below.refl _ _).alloc (Nat.le_refl _) _, own_one w 1 _ (Nat.le_refl _)⟩
  case round =>
    obtain ⟨k, ao', cap', hk, rfl, rfl, hbr, ho⟩ := hrel
    have hsz := hbr.size
    by_cases hlt : k + 2 ≤ n
    · have hi1 : (k : Int) + 2 ≤ n := by omega
      have hk0 : 0 ≤ (k : Int) + 2 := by omega
      go_wp2_with (at_make; refine make_ints _ rfl _ _ rfl _ _ (k + 2) rfl rfl (by omega) (by omega) (by omega) ?_)
      intro w2 ho2 hb2
      obtain ⟨b, off, rfl, hblt, hc⟩ := ho.read.row (by omega)
      have hcc := hid hc
      clear hc
      have hrb := hid (eu_bd (n := k) (by omega))
      go_wp2
      obtain ⟨wq, hwq⟩ : ∃ wq : World, wq = wr := ⟨_, rfl⟩
      subst hwq
      obtain ⟨m, hm⟩ : ∃ m, Hid (m = k + 2) := ⟨_, rfl⟩
      go_loopw [24] (fun j wr => ∃ (t : Nat) (zs : List Int), t ≤ k + 1 ∧ j = .int .i64 t ∧ Below wq.heap.size wq wr ∧ OwS wr wq.heap.size wq.heap.size (k + 2) (k + 2) zs ∧ Hid (zs = euR (eu k) (k + 2) t))
        (fun j _ => k + 1 - (intOf j).toNat)
      case atStart => exact ⟨0, _, Nat.zero_le _, rfl, hb2, ho2, hid rfl⟩
      case round =>
        obtain ⟨t, zs, ht, rfl, hbr2, hr, hz⟩ := hrel
        by_cases htl : t < k + 1
        · have hbz := euR_bd hrb.out (m := k + 2) (by omega) t (by omega)
          rw [← hz.out] at hbz
          have hb1 := hbz t
          have hb2 := hbz (t + 1)
          have hx := hrb.out t
          have p1 := prod_bd hx (B := 10) (y := (t : Int) + 1) ⟨by omega, by omega⟩
          have p2 := prod_bd hx (B := 10) (y := (k : Int) + 2 - t - 1) ⟨by omega, by omega⟩
          have hz1 := hb1.1
          have hz2 : el zs t ≤ 2000000 := by have := hb1.2; omega
          have hz3 := hb2.1
          have hz4 : el zs (t + 1) ≤ 2000000 := by have := hb2.2; omega
          obtain ⟨x, hxe⟩ : ∃ x, x = el (eu k) t := ⟨_, rfl⟩
          rw [← hxe] at p1 p2
          have hcell := (hbr2.cell (p := ⟨b, off + t, none⟩) hblt).trans (hcc.out t htl)
          rw [← hxe] at hcell
          obtain ⟨q1, hq1⟩ : ∃ q1, q1 = x * ((t : Int) + 1) := ⟨_, rfl⟩
          obtain ⟨q2, hq2⟩ : ∃ q2, q2 = x * ((k : Int) + 2 - t - 1) := ⟨_, rfl⟩
          rw [← hq1] at p1
          rw [← hq2] at p2
          have p11 := p1.1
          have p12 : q1 ≤ 100000 := p1.2
          have p21 := p2.1
          have p22 : q2 ≤ 100000 := p2.2
          have hw1 : wrap64 (x * ((t : Int) + 1)) = q1 := by rw [← hq1]; exact IntWalk.wrap64_in _ ⟨by omega, by omega⟩
          have hw2 : wrap64 (x * ((k : Int) + 2 - t - 1)) = q2 := by rw [← hq2]; exact IntWalk.wrap64_in _ ⟨by omega, by omega⟩
          have Hxe := hid hxe
          have Hq1 := hid hq1
          have Hq2 := hid hq2
          have hi2 : (t : Int) < (k : Int) + 1 := by omega
          have hi3 : (t : Int) < (k : Int) + 2 := by omega
          have hi4 : (t : Int) + 1 < (k : Int) + 2 := by omega
          have hi0 : 0 ≤ (t : Int) + 1 := by omega
          have htn : ((t : Int) + 1).toNat = t + 1 := by omega
          have hzl := hid hr.len
          have hfr := hr.frozen t
          have hcur := hr.cell (j := t) (by omega)
          have hr1 := hr.set t (el zs t + q1)
          have hne : b ≠ wq.heap.size := by omega
          have hfr1 := hr1.frozen (t + 1)
          have hcur1 := hr1.cell (j := t + 1) (by omega)
          rw [el_set_ne (by omega)] at hcur1
          have hbr3 : Below wq.heap.size wq (wr.setCell ⟨wq.heap.size, t, none⟩ (.int .i64 (el zs t + q1))) := hbr2.setCell (Nat.le_refl _) _
          have hcell1 := (hbr3.cell (p := ⟨b, off + t, none⟩) hblt).trans (hcc.out t htl)
          rw [← Hxe.out] at hcell1
          have ez : Hid ((zs.set t (el zs t + q1)).set (t + 1) (el zs (t + 1) + q2) = euR (eu k) (k + 2) (t + 1)) := by
            apply hid
            rw [euR_next, ← hz.out, ← Hxe.out, ← Hq1.out, addAt, addAt, el_set_ne (by omega)]
            congr 2
            all_goals (try rw [Hq2.out])
            all_goals (try rfl)
            all_goals (try omega)
          clear hbz hb1 hb2 hx p1 p2 hxe hq1 hq2
          go_wp2
          go_roundw
          case rel =>
            refine ⟨t + 1, _, by omega, by go_num, ?_, ?_, ez⟩
            · exact (hbr3.setCell (Nat.le_refl _) _)
            · exact (hr1.set (t + 1) _)
          case measure => simp [intOf]; omega
        · obtain rfl : t = k + 1 := by omega
          have e : zs = eu (k + 1) := by rw [hz.out]; rfl
          have He := hid e
          have ho3 := hr.own
          rw [He.out] at ho3
          have hb5 := hbr.trans (hbr2.mono hsz)
          clear e
          go_wp2
          go_roundw
          case rel => exact ⟨k + 1, _, _, by omega, rfl, by go_num, hb5, ho3.mono hsz⟩
          case measure => simp [intOf]; omega
    · have hi1 : ¬ (k : Int) + 2 ≤ n := by omega
      have hke : k = n - 1 := by omega
      have Hke := hid hke
      clear hke
      go_wp2
      go_ret
      refine ⟨_, rfl, ?_, hbr⟩
      rw [euler, ← Hke.out]
      exact ho

set_option maxHeartbeats 1000000 in
theorem eulI_no (n : Int) (w : World) (h : n < 0 ∨ 7 < n) : Calls Try.prog 49 #[.int .i64 n] w (Made w []) := by
  go_enter Try.func49, Try.ntmps49
  rcases h with h | h
  · go_wp2
    go_ret
    exact ⟨_, rfl, Own.nil, Below.refl _ _⟩
  · have h0 : ¬ n < 0 := by omega
    go_wp2
    go_ret
    exact ⟨_, rfl, Own.nil, Below.refl _ _⟩

end Go.Proofs.Ytpokoknapapdcaa
