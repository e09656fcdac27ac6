/- The walk of the law of CountOf. Condition of the laws' own: at most 2^20 bytes. -/
import Derived.Test.YtpokoknapapdcaaLawFn
import Derived.Test.YtpokoknapapdcaaDraw4
import Derived.Test.YtpokoknapapdcaaDrawS
import Derived.Test.YtpokoknapapdcaaCofI
namespace Go.Proofs.Ytpokoknapapdcaa
open Go.RowKit

def n3 : List ByteArray := [⟨#[]⟩, ⟨#[77, 97, 106, 111, 114]⟩, ⟨#[102, 105, 120, 101, 100]⟩]
def n9 : List ByteArray := [⟨#[105, 110, 118, 101, 114, 115, 105, 111, 110, 115]⟩, ⟨#[109, 97, 106, 111, 114]⟩, ⟨#[100, 101, 115, 99, 101, 110, 116, 115]⟩, ⟨#[97, 98, 111, 118, 101]⟩, ⟨#[100, 101, 110, 101, 114, 116]⟩, ⟨#[114, 101, 99, 111, 114, 100, 115]⟩, ⟨#[99, 105, 114, 99, 108, 101, 115]⟩, ⟨#[99, 114, 111, 115, 115, 105, 110, 103, 115]⟩, ⟨#[110, 101, 115, 116, 105, 110, 103, 115]⟩]

set_option maxHeartbeats 2000000 in
theorem aName_any (R q : Nat) (w : World) (h : Rdr w R q) (hq : q ≤ 100) :
    Calls Try.prog 61 #[.pointer (some ⟨R, 0, none⟩)] w fun e w' => ∃ s : ByteArray, e = .returned (.string s) ∧ Rdr w' R (q + 2) ∧ w.grownBy w' (some R) := by
  go_enter Try.func61, Try.ntmps61
  go_wp2_with fail
  refine (pick_any R q 24 w h (by omega) (by omega)).mono ?_
  rintro e w1 ⟨k, rfl, hk0, hk1, hr1, hg1⟩
  have hne : w1.heap.size ≠ R := by have := hr1.lt; omega
  have Ha3 := hid (ArrS.made w1 9 n3)
  have Ha9 := hid (ArrS.made w1 9 n9)
  have Hr3 : Hid (Rdr (w1.alloc (.cells (n3.map Value.string).toArray 9)) R (q + 1)) := hid (hr1.below ((Below.refl w1.heap.size w1).alloc (Nat.le_refl _) _))
  have Hr9 : Hid (Rdr (w1.alloc (.cells (n9.map Value.string).toArray 9)) R (q + 1)) := hid (hr1.below ((Below.refl w1.heap.size w1).alloc (Nat.le_refl _) _))
  clear hk0 hk1
  by_cases hk : k = 0
  · subst hk
    go_wp2_with fail
    refine (of_any R (q + 1) w1.heap.size 3 9 n3 _ Hr3.out (by omega) Ha3.out rfl (by omega) (by omega) hne).mono ?_
    rintro e w2 ⟨j, hj, rfl, hr2, hg2⟩
    go_wp2
    go_ret
    exact ⟨_, rfl, hr2, grown_trans hg1 (grown_trans (World.grownBy_alloc w1 _ _) hg2)⟩
  · have hkb : (k == 0) = false := by rw [beq_eq_false_iff_ne]; exact hk
    go_wp2_with fail
    refine (of_any R (q + 1) w1.heap.size 9 9 n9 _ Hr9.out (by omega) Ha9.out rfl (by omega) (by omega) hne).mono ?_
    rintro e w2 ⟨j, hj, rfl, hr2, hg2⟩
    go_wp2
    go_ret
    exact ⟨_, rfl, hr2, grown_trans hg1 (grown_trans (World.grownBy_alloc w1 _ _) hg2)⟩

set_option maxHeartbeats 1000000 in
theorem drawCountOf_any (bo : Option Addr) (n cap : Nat) (cs : List Int) (w : World) (h : Slb w bo n cap cs) :
    Calls Try.prog 21 #[.slice bo n cap] w fun e w' => ∃ s u ys, e = .returned (.tuple #[.string s, u]) ∧ Own w' w.heap.size u ys ∧ Below w.heap.size w w' := by
  go_enter Try.func21, Try.ntmps21
  go_wp2_with fail
  refine (newReader_any bo n cap cs w h).mono ?_
  rintro e w1 ⟨rfl, hr1, hb1⟩
  go_wp2_with fail
  refine (aName_any w.heap.size 0 w1 hr1 (by omega)).mono ?_
  rintro e w2 ⟨s, rfl, hr2, hg2⟩
  have hb2 := below_reader hb1 hg2
  go_wp2_with fail
  refine (someOrder_any w.heap.size 2 w2 hr2 (by omega)).mono ?_
  rintro e w3 ⟨u, ys, q, rfl, ho, hl, -, -, hg⟩
  go_wp2
  go_ret2
  exact ⟨_, _, ys, rfl, ho.mono hb2.size, below_reader hb2 hg⟩

theorem counted_to {P : Program} {f : FuncId} {a : Array Value} {w : World} {v v' : Int} {b b' : Bool} (h : Calls P f a w (Counted w v b)) (e : v = v') (eb : b = b') : Calls P f a w (Counted w v' b') := e ▸ eb ▸ h

set_option maxHeartbeats 8000000 in
theorem fnCountOf (bo : Option Addr) (n cap : Nat) (cs : List Int) (w : World) (h : Slb w bo n cap cs) :
    Calls Try.prog 4 #[.slice bo n cap] w (Says w (.bool true)) := by
  have hbig := h.big
  by_cases hn : n ≤ 1048576
  · go_enter Try.func4, Try.ntmps4
    simp only [List.append]
    go_wp2_with fail
    refine (drawCountOf_any _ _ _ _ _ h).mono ?_
    rintro e w1 ⟨s, u1, ys, rfl, o1, t1⟩
    obtain ⟨adp, cpp, rfl, sp_1⟩ := o1.sl
    clear o1
    by_cases hv : Valid ys ∧ ixOf s < 9
    · obtain ⟨k, hk⟩ : ∃ k, k = ixOf s := ⟨_, rfl⟩
      have hc : k = 0 ∨ k = 1 ∨ k = 2 ∨ k = 3 ∨ k = 4 ∨ k = 5 ∨ k = 6 ∨ k = 7 ∨ k = 8 := by have := hv.2; omega
      rcases hc with rfl | rfl | rfl | rfl | rfl | rfl | rfl | rfl | rfl
      · have Hv := hid hv.1
        clear hv
        have e0 : (s.toList == [105, 110, 118, 101, 114, 115, 105, 111, 110, 115]) = true := (eql_inversions s).trans (by rw [← hk]; rfl)
        have e1 : (s.toList == [109, 97, 106, 111, 114]) = false := (eql_major s).trans (by rw [← hk]; rfl)
        have e2 : (s.toList == [100, 101, 110, 101, 114, 116]) = false := (eql_denert s).trans (by rw [← hk]; rfl)
        have e3 : (s.toList == [99, 114, 111, 115, 115, 105, 110, 103, 115]) = false := (eql_crossings s).trans (by rw [← hk]; rfl)
        have e4 : (s.toList == [110, 101, 115, 116, 105, 110, 103, 115]) = false := (eql_nestings s).trans (by rw [← hk]; rfl)
        have e5 : (s.toList == [100, 101, 115, 99, 101, 110, 116, 115]) = false := (eql_descents s).trans (by rw [← hk]; rfl)
        have e6 : (s.toList == [97, 98, 111, 118, 101]) = false := (eql_above s).trans (by rw [← hk]; rfl)
        have e7 : (s.toList == [114, 101, 99, 111, 114, 100, 115]) = false := (eql_records s).trans (by rw [← hk]; rfl)
        have e8 : (s.toList == [99, 105, 114, 99, 108, 101, 115]) = false := (eql_circles s).trans (by rw [← hk]; rfl)
        have c1 : cntV s ys = sumL (table ys) := (if_pos Hv.out).trans (by rw [← hk]; rfl)
        have c2 : cntB s ys = true := by rw [cntB, ← hk]; exact decide_eq_true ⟨Hv.out, by omega⟩
        clear hk
        obtain ⟨c, hc⟩ : ∃ c, c = sumL (table ys) := ⟨_, rfl⟩
        rw [← hc] at c1
        have Hc := hid hc
        clear hc
        go_wp2_with fail
        refine (counted_to (countI_any s _ _ _ ys _ sp_1) c1 c2).mono ?_
        rintro e w2 ⟨rfl, b2⟩
        have t2 := t1.trans (b2.mono t1.size)
        have sp_2 := sp_1.later b2
        go_wp2_with fail
        refine (counted_to (countS_any s _ _ _ ys _ sp_2) c1 c2).mono ?_
        rintro e w3 ⟨rfl, b3⟩
        have t3 := t2.trans (b3.mono t2.size)
        have sp_3 := sp_2.later b3
        clear c1 c2
        go_wp2_with fail
        refine (says_to (invsI_any _ _ _ ys _ sp_3) ((onVi_yes Hv.out).trans Hc.out.symm)).mono ?_
        rintro e w4 ⟨rfl, b4⟩
        have t4 := t3.trans (b4.mono t3.size)
        have sp_4 := sp_3.later b4
        go_wp2
        go_ret
        exact ⟨rfl, t4⟩
      · have Hv := hid hv.1
        clear hv
        have e0 : (s.toList == [105, 110, 118, 101, 114, 115, 105, 111, 110, 115]) = false := (eql_inversions s).trans (by rw [← hk]; rfl)
        have e1 : (s.toList == [109, 97, 106, 111, 114]) = true := (eql_major s).trans (by rw [← hk]; rfl)
        have e2 : (s.toList == [100, 101, 110, 101, 114, 116]) = false := (eql_denert s).trans (by rw [← hk]; rfl)
        have e3 : (s.toList == [99, 114, 111, 115, 115, 105, 110, 103, 115]) = false := (eql_crossings s).trans (by rw [← hk]; rfl)
        have e4 : (s.toList == [110, 101, 115, 116, 105, 110, 103, 115]) = false := (eql_nestings s).trans (by rw [← hk]; rfl)
        have e5 : (s.toList == [100, 101, 115, 99, 101, 110, 116, 115]) = false := (eql_descents s).trans (by rw [← hk]; rfl)
        have e6 : (s.toList == [97, 98, 111, 118, 101]) = false := (eql_above s).trans (by rw [← hk]; rfl)
        have e7 : (s.toList == [114, 101, 99, 111, 114, 100, 115]) = false := (eql_records s).trans (by rw [← hk]; rfl)
        have e8 : (s.toList == [99, 105, 114, 99, 108, 101, 115]) = false := (eql_circles s).trans (by rw [← hk]; rfl)
        have c1 : cntV s ys = major ys := (if_pos Hv.out).trans (by rw [← hk]; rfl)
        have c2 : cntB s ys = true := by rw [cntB, ← hk]; exact decide_eq_true ⟨Hv.out, by omega⟩
        clear hk
        obtain ⟨c, hc⟩ : ∃ c, c = major ys := ⟨_, rfl⟩
        rw [← hc] at c1
        have Hc := hid hc
        clear hc
        go_wp2_with fail
        refine (counted_to (countI_any s _ _ _ ys _ sp_1) c1 c2).mono ?_
        rintro e w2 ⟨rfl, b2⟩
        have t2 := t1.trans (b2.mono t1.size)
        have sp_2 := sp_1.later b2
        go_wp2_with fail
        refine (counted_to (countS_any s _ _ _ ys _ sp_2) c1 c2).mono ?_
        rintro e w3 ⟨rfl, b3⟩
        have t3 := t2.trans (b3.mono t2.size)
        have sp_3 := sp_2.later b3
        clear c1 c2
        go_wp2_with fail
        refine (says_to (majorI_any _ _ _ ys _ sp_3) ((onVi_yes Hv.out).trans Hc.out.symm)).mono ?_
        rintro e w4 ⟨rfl, b4⟩
        have t4 := t3.trans (b4.mono t3.size)
        have sp_4 := sp_3.later b4
        go_wp2
        go_ret
        exact ⟨rfl, t4⟩
      · have Hv := hid hv.1
        clear hv
        have e0 : (s.toList == [105, 110, 118, 101, 114, 115, 105, 111, 110, 115]) = false := (eql_inversions s).trans (by rw [← hk]; rfl)
        have e1 : (s.toList == [109, 97, 106, 111, 114]) = false := (eql_major s).trans (by rw [← hk]; rfl)
        have e2 : (s.toList == [100, 101, 110, 101, 114, 116]) = true := (eql_denert s).trans (by rw [← hk]; rfl)
        have e3 : (s.toList == [99, 114, 111, 115, 115, 105, 110, 103, 115]) = false := (eql_crossings s).trans (by rw [← hk]; rfl)
        have e4 : (s.toList == [110, 101, 115, 116, 105, 110, 103, 115]) = false := (eql_nestings s).trans (by rw [← hk]; rfl)
        have e5 : (s.toList == [100, 101, 115, 99, 101, 110, 116, 115]) = false := (eql_descents s).trans (by rw [← hk]; rfl)
        have e6 : (s.toList == [97, 98, 111, 118, 101]) = false := (eql_above s).trans (by rw [← hk]; rfl)
        have e7 : (s.toList == [114, 101, 99, 111, 114, 100, 115]) = false := (eql_records s).trans (by rw [← hk]; rfl)
        have e8 : (s.toList == [99, 105, 114, 99, 108, 101, 115]) = false := (eql_circles s).trans (by rw [← hk]; rfl)
        have c1 : cntV s ys = den ys := (if_pos Hv.out).trans (by rw [← hk]; rfl)
        have c2 : cntB s ys = true := by rw [cntB, ← hk]; exact decide_eq_true ⟨Hv.out, by omega⟩
        clear hk
        obtain ⟨c, hc⟩ : ∃ c, c = den ys := ⟨_, rfl⟩
        rw [← hc] at c1
        have Hc := hid hc
        clear hc
        go_wp2_with fail
        refine (counted_to (countI_any s _ _ _ ys _ sp_1) c1 c2).mono ?_
        rintro e w2 ⟨rfl, b2⟩
        have t2 := t1.trans (b2.mono t1.size)
        have sp_2 := sp_1.later b2
        go_wp2_with fail
        refine (counted_to (countS_any s _ _ _ ys _ sp_2) c1 c2).mono ?_
        rintro e w3 ⟨rfl, b3⟩
        have t3 := t2.trans (b3.mono t2.size)
        have sp_3 := sp_2.later b3
        clear c1 c2
        go_wp2_with fail
        refine (says_to (denI_any _ _ _ ys _ sp_3) ((onVi_yes Hv.out).trans Hc.out.symm)).mono ?_
        rintro e w4 ⟨rfl, b4⟩
        have t4 := t3.trans (b4.mono t3.size)
        have sp_4 := sp_3.later b4
        go_wp2
        go_ret
        exact ⟨rfl, t4⟩
      · have Hv := hid hv.1
        clear hv
        have e0 : (s.toList == [105, 110, 118, 101, 114, 115, 105, 111, 110, 115]) = false := (eql_inversions s).trans (by rw [← hk]; rfl)
        have e1 : (s.toList == [109, 97, 106, 111, 114]) = false := (eql_major s).trans (by rw [← hk]; rfl)
        have e2 : (s.toList == [100, 101, 110, 101, 114, 116]) = false := (eql_denert s).trans (by rw [← hk]; rfl)
        have e3 : (s.toList == [99, 114, 111, 115, 115, 105, 110, 103, 115]) = true := (eql_crossings s).trans (by rw [← hk]; rfl)
        have e4 : (s.toList == [110, 101, 115, 116, 105, 110, 103, 115]) = false := (eql_nestings s).trans (by rw [← hk]; rfl)
        have e5 : (s.toList == [100, 101, 115, 99, 101, 110, 116, 115]) = false := (eql_descents s).trans (by rw [← hk]; rfl)
        have e6 : (s.toList == [97, 98, 111, 118, 101]) = false := (eql_above s).trans (by rw [← hk]; rfl)
        have e7 : (s.toList == [114, 101, 99, 111, 114, 100, 115]) = false := (eql_records s).trans (by rw [← hk]; rfl)
        have e8 : (s.toList == [99, 105, 114, 99, 108, 101, 115]) = false := (eql_circles s).trans (by rw [← hk]; rfl)
        have c1 : cntV s ys = pairs crossF ys := (if_pos Hv.out).trans (by rw [← hk]; rfl)
        have c2 : cntB s ys = true := by rw [cntB, ← hk]; exact decide_eq_true ⟨Hv.out, by omega⟩
        clear hk
        obtain ⟨c, hc⟩ : ∃ c, c = pairs crossF ys := ⟨_, rfl⟩
        rw [← hc] at c1
        have Hc := hid hc
        clear hc
        go_wp2_with fail
        refine (counted_to (countI_any s _ _ _ ys _ sp_1) c1 c2).mono ?_
        rintro e w2 ⟨rfl, b2⟩
        have t2 := t1.trans (b2.mono t1.size)
        have sp_2 := sp_1.later b2
        go_wp2_with fail
        refine (counted_to (countS_any s _ _ _ ys _ sp_2) c1 c2).mono ?_
        rintro e w3 ⟨rfl, b3⟩
        have t3 := t2.trans (b3.mono t2.size)
        have sp_3 := sp_2.later b3
        clear c1 c2
        go_wp2_with fail
        refine (says_to (crossI_any _ _ _ ys _ sp_3) ((onVi_yes Hv.out).trans Hc.out.symm)).mono ?_
        rintro e w4 ⟨rfl, b4⟩
        have t4 := t3.trans (b4.mono t3.size)
        have sp_4 := sp_3.later b4
        go_wp2
        go_ret
        exact ⟨rfl, t4⟩
      · have Hv := hid hv.1
        clear hv
        have e0 : (s.toList == [105, 110, 118, 101, 114, 115, 105, 111, 110, 115]) = false := (eql_inversions s).trans (by rw [← hk]; rfl)
        have e1 : (s.toList == [109, 97, 106, 111, 114]) = false := (eql_major s).trans (by rw [← hk]; rfl)
        have e2 : (s.toList == [100, 101, 110, 101, 114, 116]) = false := (eql_denert s).trans (by rw [← hk]; rfl)
        have e3 : (s.toList == [99, 114, 111, 115, 115, 105, 110, 103, 115]) = false := (eql_crossings s).trans (by rw [← hk]; rfl)
        have e4 : (s.toList == [110, 101, 115, 116, 105, 110, 103, 115]) = true := (eql_nestings s).trans (by rw [← hk]; rfl)
        have e5 : (s.toList == [100, 101, 115, 99, 101, 110, 116, 115]) = false := (eql_descents s).trans (by rw [← hk]; rfl)
        have e6 : (s.toList == [97, 98, 111, 118, 101]) = false := (eql_above s).trans (by rw [← hk]; rfl)
        have e7 : (s.toList == [114, 101, 99, 111, 114, 100, 115]) = false := (eql_records s).trans (by rw [← hk]; rfl)
        have e8 : (s.toList == [99, 105, 114, 99, 108, 101, 115]) = false := (eql_circles s).trans (by rw [← hk]; rfl)
        have c1 : cntV s ys = pairs nestF ys := (if_pos Hv.out).trans (by rw [← hk]; rfl)
        have c2 : cntB s ys = true := by rw [cntB, ← hk]; exact decide_eq_true ⟨Hv.out, by omega⟩
        clear hk
        obtain ⟨c, hc⟩ : ∃ c, c = pairs nestF ys := ⟨_, rfl⟩
        rw [← hc] at c1
        have Hc := hid hc
        clear hc
        go_wp2_with fail
        refine (counted_to (countI_any s _ _ _ ys _ sp_1) c1 c2).mono ?_
        rintro e w2 ⟨rfl, b2⟩
        have t2 := t1.trans (b2.mono t1.size)
        have sp_2 := sp_1.later b2
        go_wp2_with fail
        refine (counted_to (countS_any s _ _ _ ys _ sp_2) c1 c2).mono ?_
        rintro e w3 ⟨rfl, b3⟩
        have t3 := t2.trans (b3.mono t2.size)
        have sp_3 := sp_2.later b3
        clear c1 c2
        go_wp2_with fail
        refine (says_to (nestI_any _ _ _ ys _ sp_3) ((onVi_yes Hv.out).trans Hc.out.symm)).mono ?_
        rintro e w4 ⟨rfl, b4⟩
        have t4 := t3.trans (b4.mono t3.size)
        have sp_4 := sp_3.later b4
        go_wp2
        go_ret
        exact ⟨rfl, t4⟩
      · have Hv := hid hv.1
        clear hv
        have e0 : (s.toList == [105, 110, 118, 101, 114, 115, 105, 111, 110, 115]) = false := (eql_inversions s).trans (by rw [← hk]; rfl)
        have e1 : (s.toList == [109, 97, 106, 111, 114]) = false := (eql_major s).trans (by rw [← hk]; rfl)
        have e2 : (s.toList == [100, 101, 110, 101, 114, 116]) = false := (eql_denert s).trans (by rw [← hk]; rfl)
        have e3 : (s.toList == [99, 114, 111, 115, 115, 105, 110, 103, 115]) = false := (eql_crossings s).trans (by rw [← hk]; rfl)
        have e4 : (s.toList == [110, 101, 115, 116, 105, 110, 103, 115]) = false := (eql_nestings s).trans (by rw [← hk]; rfl)
        have e5 : (s.toList == [100, 101, 115, 99, 101, 110, 116, 115]) = true := (eql_descents s).trans (by rw [← hk]; rfl)
        have e6 : (s.toList == [97, 98, 111, 118, 101]) = false := (eql_above s).trans (by rw [← hk]; rfl)
        have e7 : (s.toList == [114, 101, 99, 111, 114, 100, 115]) = false := (eql_records s).trans (by rw [← hk]; rfl)
        have e8 : (s.toList == [99, 105, 114, 99, 108, 101, 115]) = false := (eql_circles s).trans (by rw [← hk]; rfl)
        have c1 : cntV s ys = ((desc ys).length : Int) := (if_pos Hv.out).trans (by rw [← hk]; rfl)
        have c2 : cntB s ys = true := by rw [cntB, ← hk]; exact decide_eq_true ⟨Hv.out, by omega⟩
        clear hk
        obtain ⟨c, hc⟩ : ∃ c, c = (desc ys).length := ⟨_, rfl⟩
        rw [← hc] at c1
        have Hc := hid hc
        clear hc
        go_wp2_with fail
        refine (counted_to (countI_any s _ _ _ ys _ sp_1) c1 c2).mono ?_
        rintro e w2 ⟨rfl, b2⟩
        have t2 := t1.trans (b2.mono t1.size)
        have sp_2 := sp_1.later b2
        go_wp2_with fail
        refine (counted_to (countS_any s _ _ _ ys _ sp_2) c1 c2).mono ?_
        rintro e w3 ⟨rfl, b3⟩
        have t3 := t2.trans (b3.mono t2.size)
        have sp_3 := sp_2.later b3
        clear c1 c2
        go_wp2_with fail
        refine (made_to (descI_any _ _ _ ys _ sp_3) (onV_yes Hv.out)).mono ?_
        rintro e w4 ⟨u4, rfl, o4, b4⟩
        have t4 := t3.trans (b4.mono t3.size)
        have sp_4 := sp_3.later b4
        obtain ⟨adb, cpb, rfl, sb_4⟩ := o4.sl
        clear o4
        rw [← Hc.out]
        clear sb_4 Hc
        go_wp2
        go_ret
        exact ⟨rfl, t4⟩
      · have Hv := hid hv.1
        clear hv
        have e0 : (s.toList == [105, 110, 118, 101, 114, 115, 105, 111, 110, 115]) = false := (eql_inversions s).trans (by rw [← hk]; rfl)
        have e1 : (s.toList == [109, 97, 106, 111, 114]) = false := (eql_major s).trans (by rw [← hk]; rfl)
        have e2 : (s.toList == [100, 101, 110, 101, 114, 116]) = false := (eql_denert s).trans (by rw [← hk]; rfl)
        have e3 : (s.toList == [99, 114, 111, 115, 115, 105, 110, 103, 115]) = false := (eql_crossings s).trans (by rw [← hk]; rfl)
        have e4 : (s.toList == [110, 101, 115, 116, 105, 110, 103, 115]) = false := (eql_nestings s).trans (by rw [← hk]; rfl)
        have e5 : (s.toList == [100, 101, 115, 99, 101, 110, 116, 115]) = false := (eql_descents s).trans (by rw [← hk]; rfl)
        have e6 : (s.toList == [97, 98, 111, 118, 101]) = true := (eql_above s).trans (by rw [← hk]; rfl)
        have e7 : (s.toList == [114, 101, 99, 111, 114, 100, 115]) = false := (eql_records s).trans (by rw [← hk]; rfl)
        have e8 : (s.toList == [99, 105, 114, 99, 108, 101, 115]) = false := (eql_circles s).trans (by rw [← hk]; rfl)
        have c1 : cntV s ys = ((above ys).length : Int) := (if_pos Hv.out).trans (by rw [← hk]; rfl)
        have c2 : cntB s ys = true := by rw [cntB, ← hk]; exact decide_eq_true ⟨Hv.out, by omega⟩
        clear hk
        obtain ⟨c, hc⟩ : ∃ c, c = (above ys).length := ⟨_, rfl⟩
        rw [← hc] at c1
        have Hc := hid hc
        clear hc
        go_wp2_with fail
        refine (counted_to (countI_any s _ _ _ ys _ sp_1) c1 c2).mono ?_
        rintro e w2 ⟨rfl, b2⟩
        have t2 := t1.trans (b2.mono t1.size)
        have sp_2 := sp_1.later b2
        go_wp2_with fail
        refine (counted_to (countS_any s _ _ _ ys _ sp_2) c1 c2).mono ?_
        rintro e w3 ⟨rfl, b3⟩
        have t3 := t2.trans (b3.mono t2.size)
        have sp_3 := sp_2.later b3
        clear c1 c2
        go_wp2_with fail
        refine (made_to (aboveI_any _ _ _ ys _ sp_3) (onV_yes Hv.out)).mono ?_
        rintro e w4 ⟨u4, rfl, o4, b4⟩
        have t4 := t3.trans (b4.mono t3.size)
        have sp_4 := sp_3.later b4
        obtain ⟨adb, cpb, rfl, sb_4⟩ := o4.sl
        clear o4
        rw [← Hc.out]
        clear sb_4 Hc
        go_wp2
        go_ret
        exact ⟨rfl, t4⟩
      · have Hv := hid hv.1
        clear hv
        have e0 : (s.toList == [105, 110, 118, 101, 114, 115, 105, 111, 110, 115]) = false := (eql_inversions s).trans (by rw [← hk]; rfl)
        have e1 : (s.toList == [109, 97, 106, 111, 114]) = false := (eql_major s).trans (by rw [← hk]; rfl)
        have e2 : (s.toList == [100, 101, 110, 101, 114, 116]) = false := (eql_denert s).trans (by rw [← hk]; rfl)
        have e3 : (s.toList == [99, 114, 111, 115, 115, 105, 110, 103, 115]) = false := (eql_crossings s).trans (by rw [← hk]; rfl)
        have e4 : (s.toList == [110, 101, 115, 116, 105, 110, 103, 115]) = false := (eql_nestings s).trans (by rw [← hk]; rfl)
        have e5 : (s.toList == [100, 101, 115, 99, 101, 110, 116, 115]) = false := (eql_descents s).trans (by rw [← hk]; rfl)
        have e6 : (s.toList == [97, 98, 111, 118, 101]) = false := (eql_above s).trans (by rw [← hk]; rfl)
        have e7 : (s.toList == [114, 101, 99, 111, 114, 100, 115]) = true := (eql_records s).trans (by rw [← hk]; rfl)
        have e8 : (s.toList == [99, 105, 114, 99, 108, 101, 115]) = false := (eql_circles s).trans (by rw [← hk]; rfl)
        have c1 : cntV s ys = ((records ys).length : Int) := (if_pos Hv.out).trans (by rw [← hk]; rfl)
        have c2 : cntB s ys = true := by rw [cntB, ← hk]; exact decide_eq_true ⟨Hv.out, by omega⟩
        clear hk
        obtain ⟨c, hc⟩ : ∃ c, c = (records ys).length := ⟨_, rfl⟩
        rw [← hc] at c1
        have Hc := hid hc
        clear hc
        go_wp2_with fail
        refine (counted_to (countI_any s _ _ _ ys _ sp_1) c1 c2).mono ?_
        rintro e w2 ⟨rfl, b2⟩
        have t2 := t1.trans (b2.mono t1.size)
        have sp_2 := sp_1.later b2
        go_wp2_with fail
        refine (counted_to (countS_any s _ _ _ ys _ sp_2) c1 c2).mono ?_
        rintro e w3 ⟨rfl, b3⟩
        have t3 := t2.trans (b3.mono t2.size)
        have sp_3 := sp_2.later b3
        clear c1 c2
        go_wp2_with fail
        refine (made_to (recordsI_any _ _ _ ys _ sp_3) (onV_yes Hv.out)).mono ?_
        rintro e w4 ⟨u4, rfl, o4, b4⟩
        have t4 := t3.trans (b4.mono t3.size)
        have sp_4 := sp_3.later b4
        obtain ⟨adb, cpb, rfl, sb_4⟩ := o4.sl
        clear o4
        rw [← Hc.out]
        clear sb_4 Hc
        go_wp2
        go_ret
        exact ⟨rfl, t4⟩
      · have Hv := hid hv.1
        clear hv
        have e0 : (s.toList == [105, 110, 118, 101, 114, 115, 105, 111, 110, 115]) = false := (eql_inversions s).trans (by rw [← hk]; rfl)
        have e1 : (s.toList == [109, 97, 106, 111, 114]) = false := (eql_major s).trans (by rw [← hk]; rfl)
        have e2 : (s.toList == [100, 101, 110, 101, 114, 116]) = false := (eql_denert s).trans (by rw [← hk]; rfl)
        have e3 : (s.toList == [99, 114, 111, 115, 115, 105, 110, 103, 115]) = false := (eql_crossings s).trans (by rw [← hk]; rfl)
        have e4 : (s.toList == [110, 101, 115, 116, 105, 110, 103, 115]) = false := (eql_nestings s).trans (by rw [← hk]; rfl)
        have e5 : (s.toList == [100, 101, 115, 99, 101, 110, 116, 115]) = false := (eql_descents s).trans (by rw [← hk]; rfl)
        have e6 : (s.toList == [97, 98, 111, 118, 101]) = false := (eql_above s).trans (by rw [← hk]; rfl)
        have e7 : (s.toList == [114, 101, 99, 111, 114, 100, 115]) = false := (eql_records s).trans (by rw [← hk]; rfl)
        have e8 : (s.toList == [99, 105, 114, 99, 108, 101, 115]) = true := (eql_circles s).trans (by rw [← hk]; rfl)
        have c1 : cntV s ys = ((circles ys).length : Int) := (if_pos Hv.out).trans (by rw [← hk]; rfl)
        have c2 : cntB s ys = true := by rw [cntB, ← hk]; exact decide_eq_true ⟨Hv.out, by omega⟩
        clear hk
        obtain ⟨c, hc⟩ : ∃ c, c = (circles ys).length := ⟨_, rfl⟩
        rw [← hc] at c1
        have Hc := hid hc
        clear hc
        go_wp2_with fail
        refine (counted_to (countI_any s _ _ _ ys _ sp_1) c1 c2).mono ?_
        rintro e w2 ⟨rfl, b2⟩
        have t2 := t1.trans (b2.mono t1.size)
        have sp_2 := sp_1.later b2
        go_wp2_with fail
        refine (counted_to (countS_any s _ _ _ ys _ sp_2) c1 c2).mono ?_
        rintro e w3 ⟨rfl, b3⟩
        have t3 := t2.trans (b3.mono t2.size)
        have sp_3 := sp_2.later b3
        clear c1 c2
        go_wp2_with fail
        refine (madeL_to (circlesI_any _ _ _ ys _ sp_3) (onVL_yes Hv.out)).mono ?_
        rintro e w4 ⟨u4, rfl, o4, b4⟩
        have t4 := t3.trans (b4.mono t3.size)
        have sp_4 := sp_3.later b4
        obtain ⟨adb, cpb, rfl, sb_4⟩ := o4.sl
        clear o4
        rw [← Hc.out]
        clear sb_4 Hc
        go_wp2
        go_ret
        exact ⟨rfl, t4⟩
    · have c2 : cntB s ys = false := decide_eq_false hv
      obtain ⟨c, hc⟩ : ∃ c, c = cntV s ys := ⟨_, rfl⟩
      clear hv
      have Hc := hid hc
      clear hc
      go_wp2_with fail
      refine (counted_to (countI_any s _ _ _ ys _ sp_1) Hc.out.symm c2).mono ?_
      rintro e w2 ⟨rfl, b2⟩
      have t2 := t1.trans (b2.mono t1.size)
      have sp_2 := sp_1.later b2
      go_wp2_with fail
      refine (counted_to (countS_any s _ _ _ ys _ sp_2) Hc.out.symm c2).mono ?_
      rintro e w3 ⟨rfl, b3⟩
      have t3 := t2.trans (b3.mono t2.size)
      have sp_3 := sp_2.later b3
      clear c2 Hc
      go_wp2
      go_ret
      exact ⟨rfl, t3⟩
  · go_enter Try.func4, Try.ntmps4
    go_wp2
    go_ret
    exact ⟨rfl, Below.refl _ _⟩

end Go.Proofs.Ytpokoknapapdcaa
