/- The order of the next rank, in the program. Condition: it is asked of an order of 2 to 5 values that has one. -/
import Derived.Test.YtjgaglfinpeeoacNxt
import Derived.Test.YtjgaglfinpeeoacBnd
import Derived.RegionTactic
import Derived.ChangeAlike
import Derived.StillTailTactics
namespace Go.Proofs.Ytjgaglfinpeeoac
open Go.RowKit

/-- Numbers as an array by value. -/
def aggI (xs : List Int) : Value := .agg (xs.map (Value.int .i64)).toArray
theorem sizeP : (Try.prog.info? 77).map (·.size) = some 7 := by kernel_rfl
theorem sizeArr {xs : List Int} (h : xs.length = 7) : (Try.prog.info? 77).map (·.size) = some (xs.map (Value.int .i64)).toArray.size := by rw [sizeP]; simp [h]
theorem ones_row (xs : List Int) : (xs.map (Value.int .i64)).toArray.all (·.oneCell') = true := by
  simp only [List.all_toArray, List.all_map]
  exact List.all_eq_true.2 (fun x _ => rfl)
theorem Below.setRow {B : Nat} {w w' : World} {g : Nat} {cs : Array Value} (h : Below B w w') (hg : B ≤ g) : Below B w (w'.setRow g cs) :=
  ⟨h.os, h.tape, h.output, by simp only [setRow_size]; exact h.size, fun k hk => (setRow_other w' g k cs (by omega)).trans (h.block k hk)⟩
theorem Arr.otherRow {w : World} {g k T : Nat} {xs : List Int} {cs : Array Value} (h : Arr w g T xs) (hne : g ≠ k) : Arr (w.setRow k cs) g T xs := (setRow_other w k g cs hne).trans h
theorem Arr.setRow {w : World} {g T : Nat} {xs ys : List Int} (h : Arr w g T xs) : Arr (w.setRow g (ys.map (Value.int .i64)).toArray) g T ys := by
  exact setRow_heap w g _ _ T (0, 0) h

set_option maxHeartbeats 8000000 in
theorem behind_any (n r g : Nat) (xs ys : List Int) (w : World) (hl : xs.length = 7) (H : Hid (Nx xs n r g ys)) :
    Calls Try.prog 85 #[aggI xs, .int .i64 n] w fun e w' => e = .returned (aggI ys) ∧ Below w.heap.size w w' := by
  have Hl := hid hl
  have n2 := H.out.two
  have n5 := H.out.top
  have rr := H.out.rr
  have gg := H.out.gg
  have hrg : r < g := by
    have h1 := H.out.gup
    have h2 := H.out.rat
    by_cases e : r + 1 ≤ g
    · omega
    · have := h1 (r + 1) (by omega) (by omega)
      omega
  clear hl
  unfold aggI
  go_enter Try.func85, Try.ntmps85
  go_wp2
  go_loopw [5] (fun r' wr => ∃ q : Nat, r ≤ q ∧ q + 2 ≤ n ∧ r' = .int .i64 q ∧ Below w.heap.size w wr ∧ Arr wr w.heap.size 77 xs ∧ Arr wr (w.heap.size + 1) 77 [0, 0, 0, 0, 0, 0, 0])
    (fun r' _ => (intOf r').toNat)
  case atStart =>
    refine ⟨n - 2, by omega, by omega, by rw [show ((n - 2 : Nat) : Int) = (n : Int) - 2 by omega], ((Below.refl _ w).alloc (Nat.le_refl _) _).alloc (by simp) _, (Arr.made w _ xs).alloc _, ?_⟩
    have := Arr.made (w.alloc (.cells (xs.map (Value.int .i64)).toArray 77)) 77 [0, 0, 0, 0, 0, 0, 0]
    rwa [World.size_alloc] at this
  case round =>
    obtain ⟨q, hq, hq2, rfl, hbr, HA, HB⟩ := hrel
    have hc1 := HA.cell (j := q) (by rw [Hl.out]; omega)
    have hc2 := HA.cell (j := q + 1) (by rw [Hl.out]; omega)
    have hi0 : (q : Int) < 7 := by omega
    have hi1 : (q : Int) + 1 < 7 := by omega
    have hi2 : 0 ≤ (q : Int) + 1 := by omega
    have hi3 : ((q : Int) + 1).toNat = q + 1 := by omega
    have hi4 : IntKind.i64.wrap ((q : Int) + 1) = (q : Int) + 1 := IntWalk.i64_in _ ⟨by omega, by omega⟩
    have Hq := hid HA
    have HB' := hid HB
    clear HA HB
    by_cases hqr : q = r
    · have hT : decide (el xs (q + 1) < el xs q) = false := by rw [hqr]; exact decide_eq_false (by have := H.out.rat; omega)
      have Hqr := hid hqr
      clear hqr
      go_wp2_with fail
      go_quiet (fail)
      go_wp2
      have hn1 : Hid ((n : Int) - 1 = ((n - 1 : Nat) : Int)) := hid (by omega)
      go_loopw [6] (fun g' wr => ∃ q : Nat, g ≤ q ∧ q + 1 ≤ n ∧ g' = .int .i64 q ∧ Below w.heap.size w wr ∧ Arr wr w.heap.size 77 xs ∧ Arr wr (w.heap.size + 1) 77 [0, 0, 0, 0, 0, 0, 0])
        (fun g' _ => (intOf g').toNat)
      case atStart => exact ⟨n - 1, by omega, by omega, by rw [← hn1.out], drewN_below hbr _, Hq.out, HB'.out⟩
      case round =>
        clear hc1 hc2 hT Hq HB' hbr hi0 hi1 hi2 hi3 hi4
        obtain ⟨p, hp, hp2, rfl, hbr, HA, HB⟩ := hrel
        have hqr := Hqr.out
        subst hqr
        clear hq hq2
        have hc1 := HA.cell (j := p) (by rw [Hl.out]; omega)
        have hc2 := HA.cell (j := q) (by rw [Hl.out]; omega)
        have hi0 : (p : Int) < 7 := by omega
        have hi1 : (q : Int) < 7 := by omega
        have Hq := hid HA
        have HB' := hid HB
        clear HA HB
        by_cases hpg : p = g
        · subst hpg
          have hT : decide (el xs p < el xs q) = false := decide_eq_false (by have := H.out.gat; omega)
          go_wp2_with fail
          go_quiet (fail)
          have hbr1 := drewN_below hbr nq
          obtain ⟨w1, hw1⟩ : ∃ w1 : World, w1 = wr.drewN nq := ⟨_, rfl⟩
          have HZ : Hid (Arr w1 w.heap.size 77 xs) := hid (by rw [hw1]; exact Hq.out)
          have HB1 : Hid (Arr w1 (w.heap.size + 1) 77 [0, 0, 0, 0, 0, 0, 0]) := hid (by rw [hw1]; exact HB'.out)
          rw [← hw1] at hbr1 ⊢
          clear hw1 hbr hc1 hc2 hT Hq HB'
          have hci := HZ.out.cell (j := q) (by rw [Hl.out]; omega)
          have hck := HZ.out.cell (j := p) (by rw [Hl.out]; omega)
          have hfi := HZ.out.frozen q
          have hfk := HZ.out.frozen p
          have hne : ¬ q = p := by omega
          have hne2 : ¬ p = q := by omega
          go_wp2
          go_region
          have hb2 : Below w.heap.size w ((w1.setCell ⟨w.heap.size, q, none⟩ (.int .i64 (el xs p))).setCell ⟨w.heap.size, p, none⟩ (.int .i64 (el xs q))).drew :=
            drewN_below ((hbr1.setCell (p := ⟨w.heap.size, q, none⟩) (Nat.le_refl _) _).setCell (p := ⟨w.heap.size, p, none⟩) (Nat.le_refl _) _) 1
          have HZ2 : Hid (Arr ((w1.setCell ⟨w.heap.size, q, none⟩ (.int .i64 (el xs p))).setCell ⟨w.heap.size, p, none⟩ (.int .i64 (el xs q))).drew w.heap.size 77 (swp xs q p)) :=
            hid ((HZ.out.set q _).set p _)
          have HB2 : Hid (Arr ((w1.setCell ⟨w.heap.size, q, none⟩ (.int .i64 (el xs p))).setCell ⟨w.heap.size, p, none⟩ (.int .i64 (el xs q))).drew (w.heap.size + 1) 77 [0, 0, 0, 0, 0, 0, 0]) :=
            hid ((HB1.out.other (by simp) _).other (by simp) _)
          obtain ⟨w2, hw2⟩ : ∃ w2 : World, w2 = ((w1.setCell ⟨w.heap.size, q, none⟩ (.int .i64 (el xs p))).setCell ⟨w.heap.size, p, none⟩ (.int .i64 (el xs q))).drew := ⟨_, rfl⟩
          rw [← hw2] at hb2 HZ2 HB2 ⊢
          clear hw2 hbr1 HZ HB1 hci hck hfi hfk hne hne2
          have HO : Hid (rvF 7 (swp xs q p) (q + 1) (n - 1) = ys) := hid H.out.out
          have HL2 : Hid ((swp xs q p).length = 7) := hid (by rw [swp_len]; exact Hl.out)
          obtain ⟨zs, hzs⟩ : ∃ zs, zs = swp xs q p := ⟨_, rfl⟩
          rw [← hzs] at HZ2 HO HL2
          clear hzs hp hp2 hi0
          go_wp2
          go_loopw [7, 8] (fun i' k' wr => ∃ (i k f t : Nat) (zs : List Int), i = q + 1 + t ∧ k + t + 1 = n ∧ f + t = 7 ∧ i' = .int .i64 i ∧ k' = .int .i64 k ∧ Below w.heap.size w wr ∧ Hid (Arr wr w.heap.size 77 zs) ∧ Hid (Arr wr (w.heap.size + 1) 77 [0, 0, 0, 0, 0, 0, 0]) ∧ Hid (zs.length = 7) ∧ Hid (rvF f zs i k = ys))
            (fun _ k' _ => (intOf k').toNat)
          case atStart => exact ⟨q + 1, n - 1, 7, 0, zs, by omega, by omega, by omega, by rw [Int.natCast_add, Int.natCast_one], by rw [← hn1.out], hb2, HZ2, HB2, HL2, HO⟩
          case round =>
            clear HZ2 HB2 HL2 HO hb2
            obtain ⟨i, k, f, t, zs, hi, hk, hf, rfl, rfl, hbr, HZ, HB, HL, HO⟩ := hrel
            by_cases hik : i < k
            · obtain ⟨f, rfl⟩ : ∃ f', f = f' + 1 := ⟨f - 1, by omega⟩
              have HO2 : Hid (rvF f (swp zs i k) (i + 1) (k - 1) = ys) := hid (by have := HO.out; rw [rvF, if_pos hik] at this; exact this)
              have hci := HZ.out.cell (j := i) (by rw [HL.out]; omega)
              have hck := HZ.out.cell (j := k) (by rw [HL.out]; omega)
              have hfi := HZ.out.frozen i
              have hfk := HZ.out.frozen k
              have hne : ¬ i = k := by omega
              have hne2 : ¬ k = i := by omega
              have hi0 : (i : Int) < 7 := by omega
              have hk0 : (k : Int) < 7 := by omega
              have Hi := hid hi
              clear hi
              go_wp2
              go_region
              have hb2 : Below w.heap.size w ((wr.setCell ⟨w.heap.size, i, none⟩ (.int .i64 (el zs k))).setCell ⟨w.heap.size, k, none⟩ (.int .i64 (el zs i))).drew :=
                drewN_below ((hbr.setCell (p := ⟨w.heap.size, i, none⟩) (Nat.le_refl _) _).setCell (p := ⟨w.heap.size, k, none⟩) (Nat.le_refl _) _) 1
              have HZ2 : Hid (Arr ((wr.setCell ⟨w.heap.size, i, none⟩ (.int .i64 (el zs k))).setCell ⟨w.heap.size, k, none⟩ (.int .i64 (el zs i))).drew w.heap.size 77 (swp zs i k)) :=
                hid ((HZ.out.set i _).set k _)
              have HB2 : Hid (Arr ((wr.setCell ⟨w.heap.size, i, none⟩ (.int .i64 (el zs k))).setCell ⟨w.heap.size, k, none⟩ (.int .i64 (el zs i))).drew (w.heap.size + 1) 77 [0, 0, 0, 0, 0, 0, 0]) :=
                hid ((HB.out.other (by simp) _).other (by simp) _)
              go_wp2
              go_roundw
              case rel => exact ⟨i + 1, k - 1, f, t + 1, swp zs i k, by have := Hi.out; omega, by omega, by omega, by rw [Int.natCast_add, Int.natCast_one], by rw [show ((k - 1 : Nat) : Int) = (k : Int) - 1 by omega], hb2, HZ2, HB2, hid (by rw [swp_len]; exact HL.out), HO2⟩
              case measure => simp [intOf]; omega
            · have HE : Hid (zs = ys) := hid (by
                have := HO.out
                cases f with
                | zero => exact this
                | succ f => rw [rvF, if_neg hik] at this; exact this)
              have hsz := sizeArr HL.out
              have hs1 : w.heap.size + 1 < wr.heap.size := HB.out.lt
              clear hi
              go_wp2_with (first
                | (refine wpList_load_row rfl 77 (.tmp 2) rfl w.heap.size rfl 77 _ (0, 0) _ HZ.out Try.underlying77 rfl hsz ?_)
                | (refine wpList_store_row rfl 77 (.tmp 4) (.tmp 63) rfl (w.heap.size + 1) _ rfl rfl 77 _ HB.out hsz (by simp [HL.out]) (ones_row zs) ?_))
              refine bodyPost_ret (results_cell_row rfl _ _ (w.heap.size + 1) 77 _ (0, 0) _ rfl (Arr.setRow HB.out) Try.underlying77 rfl hsz) rfl ?_
              exact ⟨by rw [← HE.out], Below.setRow hbr (by omega)⟩
        · have hT : decide (el xs p < el xs q) = true := decide_eq_true (H.out.gup p (by omega) hp2)
          have hp3 : g + 1 ≤ p := by omega
          clear hpg
          go_wp2_with fail
          go_quiet (fail)
          go_wp2
          go_roundw
          case rel => exact ⟨p - 1, by omega, by omega, by rw [show ((p - 1 : Nat) : Int) = (p : Int) - 1 by omega], drewN_below hbr _, Hq.out, HB'.out⟩
          case measure => simp [intOf]; omega
    · have hT : decide (el xs (q + 1) < el xs q) = true := decide_eq_true (H.out.rup q (by omega) hq2)
      have hq3 : r + 1 ≤ q := by omega
      clear hqr
      go_wp2_with fail
      go_quiet (fail)
      go_wp2
      go_roundw
      case rel => exact ⟨q - 1, by omega, by omega, by rw [show ((q - 1 : Nat) : Int) = (q : Int) - 1 by omega], drewN_below hbr _, Hq.out, HB'.out⟩
      case measure => simp [intOf]; omega

end Go.Proofs.Ytjgaglfinpeeoac
