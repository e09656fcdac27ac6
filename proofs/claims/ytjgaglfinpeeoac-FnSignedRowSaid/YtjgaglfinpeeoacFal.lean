/- The rows of falls of signed orders, in the program and in its model. No condition. -/
import Derived.Test.YtjgaglfinpeeoacRowC
import Derived.Test.YtjgaglfinpeeoacMirRow
namespace Go.Proofs.Ytjgaglfinpeeoac
open Go.RowKit

/-- How many signed orders have each number of falls: the first t numbers of a row are given on. -/
def flR (row : List Int) (m : Nat) : Nat → List Int
  | 0 => List.replicate m 0
  | t + 1 => addAt (addAt (flR row m t) t (el row t * (2 * (t : Int) + 1))) (t + 1) (el row t * (2 * ((m : Int) - 1 - t - 1) + 1))
def fal : Nat → List Int
  | 0 => [1]
  | n + 1 => flR (fal n) (n + 2) (n + 1)
theorem fal_fits : ∀ n : Nat, n < 6 → (fal n).all (fun x => decide (0 ≤ x) && decide (x ≤ 10000)) = true ∧ (fal n).length = n + 1 := by decide
theorem fal_bd {n : Nat} (h : n ≤ 5) : Bd (fal n) 10000 := Bd.of (by omega) (fal_fits n (by omega)).1
theorem flR_bd {row : List Int} {m : Nat} (hr : Bd row 10000) (hm : m ≤ 6) : ∀ t, t + 1 < m → Bd (flR row m t) (t * 240000) := by
  intro t
  induction t with
  | zero => intro _; simpa [flR] using Bd.zero _
  | succ t ih =>
    intro ht
    have h1 := prod_bd (hr t) (B := 12) (y := 2 * (t : Int) + 1) ⟨by omega, by omega⟩
    have h2 := prod_bd (hr t) (B := 12) (y := 2 * ((m : Int) - 1 - t - 1) + 1) ⟨by omega, by omega⟩
    rw [flR]
    refine (((ih (by omega)).add t h1.1 h1.2).add (t + 1) h2.1 h2.2).mono ?_
    omega
theorem flR_next (row : List Int) (m t : Nat) : flR row m (t + 1) = addAt (addAt (flR row m t) t (el row t * (2 * (t : Int) + 1))) (t + 1) (el row t * (2 * ((m : Int) - 1 - t - 1) + 1)) := rfl

set_option maxHeartbeats 4000000 in
theorem falI_yes (n : Nat) (w : World) (h7 : n ≤ 5) :
    Calls Try.prog 26 #[.int .i64 n] w (Made w (fal n)) := by
  go_enter Try.func26, Try.ntmps26
  have h7i : (n : Int) ≤ 5 := by omega
  go_wp2
  go_loopw [3, 4] (fun v i wr => ∃ (k : Nat) (ao' : Option Addr) (cap' : Nat), k ≤ n ∧ v = .slice ao' (k + 1) cap' ∧ i = .int .i64 ((k : Int) + 1) ∧ Below w.heap.size w wr ∧ Own wr w.heap.size (.slice ao' (k + 1) cap') (fal k))
    (fun _ i _ => n + 1 - (intOf i).toNat)
  case atStart => exact ⟨0, _, _, Nat.zero_le _, rfl, rfl, (Below.refl _ _).alloc (Nat.le_refl _) _, own_one w 1 _ (Nat.le_refl _)⟩
  case round =>
    obtain ⟨k, ao', cap', hk, rfl, rfl, hbr, ho⟩ := hrel
    have hsz := hbr.size
    by_cases hlt : k + 1 ≤ n
    · have hi1 : (k : Int) + 1 ≤ n := by omega
      have hk0 : 0 ≤ (k : Int) + 1 := by omega
      go_wp2_with (at_make; refine make_ints _ rfl _ _ rfl _ _ (k + 2) rfl rfl (by omega) (by omega) (by omega) ?_)
      intro w2 ho2 hb2
      obtain ⟨b, off, rfl, hblt, hc⟩ := ho.read.row (by omega)
      have hcc := hid hc
      clear hc
      have hrb := hid (fal_bd (n := k) (by omega))
      go_wp2
      obtain ⟨wq, hwq⟩ : ∃ wq : World, wq = wr := ⟨_, rfl⟩
      subst hwq
      obtain ⟨m, hm⟩ : ∃ m, Hid (m = k + 2) := ⟨_, rfl⟩
      go_loopw [25] (fun j wr => ∃ (t : Nat) (zs : List Int), t ≤ k + 1 ∧ j = .int .i64 t ∧ Below wq.heap.size wq wr ∧ OwS wr wq.heap.size wq.heap.size (k + 2) (k + 2) zs ∧ Hid (zs = flR (fal k) (k + 2) t))
        (fun j _ => k + 1 - (intOf j).toNat)
      case atStart => exact ⟨0, _, Nat.zero_le _, rfl, hb2, ho2, hid rfl⟩
      case round =>
        obtain ⟨t, zs, ht, rfl, hbr2, hr, hz⟩ := hrel
        by_cases htl : t < k + 1
        · have hbz := flR_bd hrb.out (m := k + 2) (by omega) t (by omega)
          rw [← hz.out] at hbz
          have hb1 := hbz t
          have hb2 := hbz (t + 1)
          have hx := hrb.out t
          have p1 := prod_bd hx (B := 12) (y := 2 * (t : Int) + 1) ⟨by omega, by omega⟩
          have p2 := prod_bd hx (B := 12) (y := 2 * ((k : Int) + 1 - t - 1) + 1) ⟨by omega, by omega⟩
          have hz1 := hb1.1
          have hz2 : el zs t ≤ 2000000 := by have := hb1.2; omega
          have hz3 := hb2.1
          have hz4 : el zs (t + 1) ≤ 2000000 := by have := hb2.2; omega
          obtain ⟨x, hxe⟩ : ∃ x, x = el (fal k) t := ⟨_, rfl⟩
          rw [← hxe] at p1 p2
          have hcell := (hbr2.cell (p := ⟨b, off + t, none⟩) hblt).trans (hcc.out t htl)
          rw [← hxe] at hcell
          obtain ⟨q1, hq1⟩ : ∃ q1, q1 = x * (2 * (t : Int) + 1) := ⟨_, rfl⟩
          obtain ⟨q2, hq2⟩ : ∃ q2, q2 = x * (2 * ((k : Int) + 1 - t - 1) + 1) := ⟨_, rfl⟩
          rw [← hq1] at p1
          rw [← hq2] at p2
          have p11 := p1.1
          have p12 : q1 ≤ 120000 := p1.2
          have p21 := p2.1
          have p22 : q2 ≤ 120000 := p2.2
          have hw1 : wrap64 (x * (2 * (t : Int) + 1)) = q1 := by rw [← hq1]; exact IntWalk.wrap64_in _ ⟨by omega, by omega⟩
          have hw2 : wrap64 (x * (2 * ((k : Int) + 1 - t - 1) + 1)) = q2 := by rw [← hq2]; exact IntWalk.wrap64_in _ ⟨by omega, by omega⟩
          have Hxe := hid hxe
          have Hq1 := hid hq1
          have Hq2 := hid hq2
          have hi2 : (t : Int) < (k : Int) + 1 := by omega
          have hi3 : (t : Int) < (k : Int) + 2 := by omega
          have hi4 : (t : Int) + 1 < (k : Int) + 2 := by omega
          have hi0 : 0 ≤ (t : Int) + 1 := by omega
          have htn : ((t : Int) + 1).toNat = t + 1 := by omega
          have hzl := hid hr.len
          have hfr := hr.frozen t
          have hcur := hr.cell (j := t) (by omega)
          have hr1 := hr.set t (el zs t + q1)
          have hne : b ≠ wq.heap.size := by omega
          have hfr1 := hr1.frozen (t + 1)
          have hcur1 := hr1.cell (j := t + 1) (by omega)
          rw [el_set_ne (by omega)] at hcur1
          have hbr3 : Below wq.heap.size wq (wr.setCell ⟨wq.heap.size, t, none⟩ (.int .i64 (el zs t + q1))) := hbr2.setCell (Nat.le_refl _) _
          have hcell1 := (hbr3.cell (p := ⟨b, off + t, none⟩) hblt).trans (hcc.out t htl)
          rw [← Hxe.out] at hcell1
          have em : ((k + 2 : Nat) : Int) - 1 - t - 1 = (k : Int) + 1 - t - 1 := by omega
          have ez : Hid ((zs.set t (el zs t + q1)).set (t + 1) (el zs (t + 1) + q2) = flR (fal k) (k + 2) (t + 1)) := by
            apply hid
            rw [flR_next, em, ← hz.out, ← Hxe.out, ← Hq1.out, addAt, addAt, el_set_ne (by omega)]
            congr 2
            all_goals (try rw [Hq2.out])
            all_goals (try rfl)
            all_goals (try omega)
          clear hbz hb1 hb2 hx p1 p2 hxe hq1 hq2 em
          go_wp2
          go_roundw
          case rel =>
            refine ⟨t + 1, _, by omega, by go_num, ?_, ?_, ez⟩
            · exact (hbr3.setCell (Nat.le_refl _) _)
            · exact (hr1.set (t + 1) _)
          case measure => simp [intOf]; omega
        · obtain rfl : t = k + 1 := by omega
          have e : zs = fal (k + 1) := by rw [hz.out]; rfl
          have He := hid e
          have ho3 := hr.own
          rw [He.out] at ho3
          have hb5 := hbr.trans (hbr2.mono hsz)
          clear e
          go_wp2
          go_roundw
          case rel => exact ⟨k + 1, _, _, by omega, rfl, by go_num, hb5, ho3.mono hsz⟩
          case measure => simp [intOf]; omega
    · have hi1 : ¬ (k : Int) + 1 ≤ n := by omega
      obtain rfl : k = n := by omega
      go_wp2
      go_ret
      exact ⟨_, rfl, ho, hbr⟩

set_option maxHeartbeats 1000000 in
theorem falI_no (n : Int) (w : World) (h : n < 0 ∨ 5 < n) : Calls Try.prog 26 #[.int .i64 n] w (Made w []) := by
  go_enter Try.func26, Try.ntmps26
  rcases h with h | h
  · go_wp2
    go_ret
    exact ⟨_, rfl, Own.nil, Below.refl _ _⟩
  · have h0 : ¬ n < 0 := by omega
    go_wp2
    go_ret
    exact ⟨_, rfl, Own.nil, Below.refl _ _⟩

end Go.Proofs.Ytjgaglfinpeeoac
