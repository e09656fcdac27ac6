/- The number of a name: what CountOf answers, and its reference. No condition. -/
import Derived.Test.YtaceiebmgnhdgaaGreatDoorCtr
import Derived.Laws.StructEq
import Derived.Test.YtaceiebmgnhdgaaGreatDoorCir
import Derived.Test.YtaceiebmgnhdgaaGreatDoorDen
import Derived.Test.YtaceiebmgnhdgaaGreatDoorPrs
import Derived.Test.YtaceiebmgnhdgaaGreatDoorCnt
import Derived.Test.YtaceiebmgnhdgaaGreatDoorBnd
namespace Go.Proofs.YtaceiebmgnhdgaaGreatDoor
open Go.RowKit

/-- The names as lists. -/
def nmL : List (List UInt8) := [nm_inversions.data.toList, nm_major.data.toList, nm_denert.data.toList, nm_crossings.data.toList, nm_nestings.data.toList, nm_descents.data.toList, nm_above.data.toList, nm_records.data.toList, nm_circles.data.toList]

/-- A name's place among them; 9 for other names. -/
def ixOf (s : ByteArray) : Nat := nmL.idxOf s.data.toList

theorem bytes_of_list {s t : ByteArray} (h : s.data.toList = t.data.toList) : s = t := by
  cases s; cases t; congr; exact Array.toList_inj.1 h

theorem ix_get {s : ByteArray} {k : Nat} (h : ixOf s = k) (hk : k < nmL.length) : nmL[k] = s.data.toList := by
  subst h
  exact List.getElem_idxOf hk

theorem ix_inversions {s : ByteArray} (h : ixOf s = 0) : s = nm_inversions := bytes_of_list (ix_get h (by decide)).symm
theorem eq_inversions (s : ByteArray) : (s == ⟨#[105, 110, 118, 101, 114, 115, 105, 111, 110, 115]⟩) = decide (ixOf s = 0) := by
  by_cases h : ixOf s = 0
  · rw [decide_eq_true h, MapKept.bytes_beq]; exact ix_inversions h
  · rw [decide_eq_false h, Bool.eq_false_iff]
    intro e
    exact h (by rw [(MapKept.bytes_beq _ _).1 e]; decide)
theorem eql_inversions (s : ByteArray) : (s.toList == [105, 110, 118, 101, 114, 115, 105, 111, 110, 115]) = decide (ixOf s = 0) := by
  have h := eq_inversions s
  rw [beq_toListBytes, show ByteArray.toList ⟨#[105, 110, 118, 101, 114, 115, 105, 111, 110, 115]⟩ = [105, 110, 118, 101, 114, 115, 105, 111, 110, 115] by kernel_rfl] at h
  exact h

theorem ix_major {s : ByteArray} (h : ixOf s = 1) : s = nm_major := bytes_of_list (ix_get h (by decide)).symm
theorem eq_major (s : ByteArray) : (s == ⟨#[109, 97, 106, 111, 114]⟩) = decide (ixOf s = 1) := by
  by_cases h : ixOf s = 1
  · rw [decide_eq_true h, MapKept.bytes_beq]; exact ix_major h
  · rw [decide_eq_false h, Bool.eq_false_iff]
    intro e
    exact h (by rw [(MapKept.bytes_beq _ _).1 e]; decide)
theorem eql_major (s : ByteArray) : (s.toList == [109, 97, 106, 111, 114]) = decide (ixOf s = 1) := by
  have h := eq_major s
  rw [beq_toListBytes, show ByteArray.toList ⟨#[109, 97, 106, 111, 114]⟩ = [109, 97, 106, 111, 114] by kernel_rfl] at h
  exact h

theorem ix_denert {s : ByteArray} (h : ixOf s = 2) : s = nm_denert := bytes_of_list (ix_get h (by decide)).symm
theorem eq_denert (s : ByteArray) : (s == ⟨#[100, 101, 110, 101, 114, 116]⟩) = decide (ixOf s = 2) := by
  by_cases h : ixOf s = 2
  · rw [decide_eq_true h, MapKept.bytes_beq]; exact ix_denert h
  · rw [decide_eq_false h, Bool.eq_false_iff]
    intro e
    exact h (by rw [(MapKept.bytes_beq _ _).1 e]; decide)
theorem eql_denert (s : ByteArray) : (s.toList == [100, 101, 110, 101, 114, 116]) = decide (ixOf s = 2) := by
  have h := eq_denert s
  rw [beq_toListBytes, show ByteArray.toList ⟨#[100, 101, 110, 101, 114, 116]⟩ = [100, 101, 110, 101, 114, 116] by kernel_rfl] at h
  exact h

theorem ix_crossings {s : ByteArray} (h : ixOf s = 3) : s = nm_crossings := bytes_of_list (ix_get h (by decide)).symm
theorem eq_crossings (s : ByteArray) : (s == ⟨#[99, 114, 111, 115, 115, 105, 110, 103, 115]⟩) = decide (ixOf s = 3) := by
  by_cases h : ixOf s = 3
  · rw [decide_eq_true h, MapKept.bytes_beq]; exact ix_crossings h
  · rw [decide_eq_false h, Bool.eq_false_iff]
    intro e
    exact h (by rw [(MapKept.bytes_beq _ _).1 e]; decide)
theorem eql_crossings (s : ByteArray) : (s.toList == [99, 114, 111, 115, 115, 105, 110, 103, 115]) = decide (ixOf s = 3) := by
  have h := eq_crossings s
  rw [beq_toListBytes, show ByteArray.toList ⟨#[99, 114, 111, 115, 115, 105, 110, 103, 115]⟩ = [99, 114, 111, 115, 115, 105, 110, 103, 115] by kernel_rfl] at h
  exact h

theorem ix_nestings {s : ByteArray} (h : ixOf s = 4) : s = nm_nestings := bytes_of_list (ix_get h (by decide)).symm
theorem eq_nestings (s : ByteArray) : (s == ⟨#[110, 101, 115, 116, 105, 110, 103, 115]⟩) = decide (ixOf s = 4) := by
  by_cases h : ixOf s = 4
  · rw [decide_eq_true h, MapKept.bytes_beq]; exact ix_nestings h
  · rw [decide_eq_false h, Bool.eq_false_iff]
    intro e
    exact h (by rw [(MapKept.bytes_beq _ _).1 e]; decide)
theorem eql_nestings (s : ByteArray) : (s.toList == [110, 101, 115, 116, 105, 110, 103, 115]) = decide (ixOf s = 4) := by
  have h := eq_nestings s
  rw [beq_toListBytes, show ByteArray.toList ⟨#[110, 101, 115, 116, 105, 110, 103, 115]⟩ = [110, 101, 115, 116, 105, 110, 103, 115] by kernel_rfl] at h
  exact h

theorem ix_descents {s : ByteArray} (h : ixOf s = 5) : s = nm_descents := bytes_of_list (ix_get h (by decide)).symm
theorem eq_descents (s : ByteArray) : (s == ⟨#[100, 101, 115, 99, 101, 110, 116, 115]⟩) = decide (ixOf s = 5) := by
  by_cases h : ixOf s = 5
  · rw [decide_eq_true h, MapKept.bytes_beq]; exact ix_descents h
  · rw [decide_eq_false h, Bool.eq_false_iff]
    intro e
    exact h (by rw [(MapKept.bytes_beq _ _).1 e]; decide)
theorem eql_descents (s : ByteArray) : (s.toList == [100, 101, 115, 99, 101, 110, 116, 115]) = decide (ixOf s = 5) := by
  have h := eq_descents s
  rw [beq_toListBytes, show ByteArray.toList ⟨#[100, 101, 115, 99, 101, 110, 116, 115]⟩ = [100, 101, 115, 99, 101, 110, 116, 115] by kernel_rfl] at h
  exact h

theorem ix_above {s : ByteArray} (h : ixOf s = 6) : s = nm_above := bytes_of_list (ix_get h (by decide)).symm
theorem eq_above (s : ByteArray) : (s == ⟨#[97, 98, 111, 118, 101]⟩) = decide (ixOf s = 6) := by
  by_cases h : ixOf s = 6
  · rw [decide_eq_true h, MapKept.bytes_beq]; exact ix_above h
  · rw [decide_eq_false h, Bool.eq_false_iff]
    intro e
    exact h (by rw [(MapKept.bytes_beq _ _).1 e]; decide)
theorem eql_above (s : ByteArray) : (s.toList == [97, 98, 111, 118, 101]) = decide (ixOf s = 6) := by
  have h := eq_above s
  rw [beq_toListBytes, show ByteArray.toList ⟨#[97, 98, 111, 118, 101]⟩ = [97, 98, 111, 118, 101] by kernel_rfl] at h
  exact h

theorem ix_records {s : ByteArray} (h : ixOf s = 7) : s = nm_records := bytes_of_list (ix_get h (by decide)).symm
theorem eq_records (s : ByteArray) : (s == ⟨#[114, 101, 99, 111, 114, 100, 115]⟩) = decide (ixOf s = 7) := by
  by_cases h : ixOf s = 7
  · rw [decide_eq_true h, MapKept.bytes_beq]; exact ix_records h
  · rw [decide_eq_false h, Bool.eq_false_iff]
    intro e
    exact h (by rw [(MapKept.bytes_beq _ _).1 e]; decide)
theorem eql_records (s : ByteArray) : (s.toList == [114, 101, 99, 111, 114, 100, 115]) = decide (ixOf s = 7) := by
  have h := eq_records s
  rw [beq_toListBytes, show ByteArray.toList ⟨#[114, 101, 99, 111, 114, 100, 115]⟩ = [114, 101, 99, 111, 114, 100, 115] by kernel_rfl] at h
  exact h

theorem ix_circles {s : ByteArray} (h : ixOf s = 8) : s = nm_circles := bytes_of_list (ix_get h (by decide)).symm
theorem eq_circles (s : ByteArray) : (s == ⟨#[99, 105, 114, 99, 108, 101, 115]⟩) = decide (ixOf s = 8) := by
  by_cases h : ixOf s = 8
  · rw [decide_eq_true h, MapKept.bytes_beq]; exact ix_circles h
  · rw [decide_eq_false h, Bool.eq_false_iff]
    intro e
    exact h (by rw [(MapKept.bytes_beq _ _).1 e]; decide)
theorem eql_circles (s : ByteArray) : (s.toList == [99, 105, 114, 99, 108, 101, 115]) = decide (ixOf s = 8) := by
  have h := eq_circles s
  rw [beq_toListBytes, show ByteArray.toList ⟨#[99, 105, 114, 99, 108, 101, 115]⟩ = [99, 105, 114, 99, 108, 101, 115] by kernel_rfl] at h
  exact h

theorem ix_no {b1 b2 b3 b4 : Nat} {s : ByteArray} (h : ¬ ixOf s < 9) : ∀ p ∈ ctrs b1 b2 b3 b4, p.1 ≠ s := by
  intro p hp e
  apply h
  rw [← e]
  simp only [ctrs, List.mem_cons, List.not_mem_nil, or_false] at hp
  rcases hp with rfl | rfl | rfl | rfl | rfl | rfl | rfl | rfl | rfl <;> (dsimp only; decide)

/-- What is counted, by its place. -/
def valN (xs : List Int) : Nat → Int
  | 0 => sumL (table xs)
  | 1 => major xs
  | 2 => den xs
  | 3 => pairs crossF xs
  | 4 => pairs nestF xs
  | 5 => (desc xs).length
  | 6 => (above xs).length
  | 7 => (records xs).length
  | 8 => (circles xs).length
  | _ => 0

/-- What CountOf answers. -/
def cntV (s : ByteArray) (xs : List Int) : Int := if Valid xs then valN xs (ixOf s) else 0
def cntB (s : ByteArray) (xs : List Int) : Bool := decide (Valid xs ∧ ixOf s < 9)
def Counted (w : World) (v : Int) (b : Bool) (e : Ending) (w' : World) : Prop := e = .returned (.tuple #[.int .i64 v, .bool b]) ∧ Below w.heap.size w w'

set_option maxHeartbeats 4000000 in
theorem countS0_any (s : ByteArray) (ao : Option Addr) (n cap : Nat) (xs : List Int) (w : World) (h : Sl w ao n cap xs) (hv : Hid (Valid xs)) :
    Calls Tryz.prog 35 #[.string s, .slice ao n cap] w (Counted w (valN xs (ixOf s)) (decide (ixOf s < 9))) := by
  have hn7 : n ≤ 7 := by have := hv.out.len; have := h.len; omega
  obtain ⟨k, hk⟩ : ∃ k, k = ixOf s := ⟨_, rfl⟩
  have e0 := eql_inversions s
  have e1 := eql_major s
  have e2 := eql_denert s
  have e3 := eql_crossings s
  have e4 := eql_nestings s
  have e5 := eql_descents s
  have e6 := eql_above s
  have e7 := eql_records s
  have e8 := eql_circles s
  rw [← hk] at e0 e1 e2 e3 e4 e5 e6 e7 e8 ⊢
  clear hk
  have hc : k = 0 ∨ k = 1 ∨ k = 2 ∨ k = 3 ∨ k = 4 ∨ k = 5 ∨ k = 6 ∨ k = 7 ∨ k = 8 ∨ 9 ≤ k := by omega
  rcases hc with rfl | rfl | rfl | rfl | rfl | rfl | rfl | rfl | rfl | h9
  · replace e0 : (s.toList == [105, 110, 118, 101, 114, 115, 105, 111, 110, 115]) = true := e0.trans (decide_eq_true rfl)
    replace e1 : (s.toList == [109, 97, 106, 111, 114]) = false := e1.trans (decide_eq_false (by omega))
    replace e2 : (s.toList == [100, 101, 110, 101, 114, 116]) = false := e2.trans (decide_eq_false (by omega))
    replace e3 : (s.toList == [99, 114, 111, 115, 115, 105, 110, 103, 115]) = false := e3.trans (decide_eq_false (by omega))
    replace e4 : (s.toList == [110, 101, 115, 116, 105, 110, 103, 115]) = false := e4.trans (decide_eq_false (by omega))
    replace e5 : (s.toList == [100, 101, 115, 99, 101, 110, 116, 115]) = false := e5.trans (decide_eq_false (by omega))
    replace e6 : (s.toList == [97, 98, 111, 118, 101]) = false := e6.trans (decide_eq_false (by omega))
    replace e7 : (s.toList == [114, 101, 99, 111, 114, 100, 115]) = false := e7.trans (decide_eq_false (by omega))
    replace e8 : (s.toList == [99, 105, 114, 99, 108, 101, 115]) = false := e8.trans (decide_eq_false (by omega))
    go_enter Tryz.func35, Tryz.ntmps35
    go_wp2_with fail
    refine (invs0_any _ _ _ xs _ h hn7).mono ?_
    rintro e w' ⟨rfl, bl⟩
    go_wp2
    go_ret2
    exact ⟨rfl, bl⟩
  · replace e0 : (s.toList == [105, 110, 118, 101, 114, 115, 105, 111, 110, 115]) = false := e0.trans (decide_eq_false (by omega))
    replace e1 : (s.toList == [109, 97, 106, 111, 114]) = true := e1.trans (decide_eq_true rfl)
    replace e2 : (s.toList == [100, 101, 110, 101, 114, 116]) = false := e2.trans (decide_eq_false (by omega))
    replace e3 : (s.toList == [99, 114, 111, 115, 115, 105, 110, 103, 115]) = false := e3.trans (decide_eq_false (by omega))
    replace e4 : (s.toList == [110, 101, 115, 116, 105, 110, 103, 115]) = false := e4.trans (decide_eq_false (by omega))
    replace e5 : (s.toList == [100, 101, 115, 99, 101, 110, 116, 115]) = false := e5.trans (decide_eq_false (by omega))
    replace e6 : (s.toList == [97, 98, 111, 118, 101]) = false := e6.trans (decide_eq_false (by omega))
    replace e7 : (s.toList == [114, 101, 99, 111, 114, 100, 115]) = false := e7.trans (decide_eq_false (by omega))
    replace e8 : (s.toList == [99, 105, 114, 99, 108, 101, 115]) = false := e8.trans (decide_eq_false (by omega))
    go_enter Tryz.func35, Tryz.ntmps35
    go_wp2_with fail
    refine (major_any _ _ _ xs _ h (by omega)).mono ?_
    rintro e w' ⟨rfl, bl⟩
    go_wp2
    go_ret2
    exact ⟨rfl, bl⟩
  · replace e0 : (s.toList == [105, 110, 118, 101, 114, 115, 105, 111, 110, 115]) = false := e0.trans (decide_eq_false (by omega))
    replace e1 : (s.toList == [109, 97, 106, 111, 114]) = false := e1.trans (decide_eq_false (by omega))
    replace e2 : (s.toList == [100, 101, 110, 101, 114, 116]) = true := e2.trans (decide_eq_true rfl)
    replace e3 : (s.toList == [99, 114, 111, 115, 115, 105, 110, 103, 115]) = false := e3.trans (decide_eq_false (by omega))
    replace e4 : (s.toList == [110, 101, 115, 116, 105, 110, 103, 115]) = false := e4.trans (decide_eq_false (by omega))
    replace e5 : (s.toList == [100, 101, 115, 99, 101, 110, 116, 115]) = false := e5.trans (decide_eq_false (by omega))
    replace e6 : (s.toList == [97, 98, 111, 118, 101]) = false := e6.trans (decide_eq_false (by omega))
    replace e7 : (s.toList == [114, 101, 99, 111, 114, 100, 115]) = false := e7.trans (decide_eq_false (by omega))
    replace e8 : (s.toList == [99, 105, 114, 99, 108, 101, 115]) = false := e8.trans (decide_eq_false (by omega))
    go_enter Tryz.func35, Tryz.ntmps35
    go_wp2_with fail
    refine (den0_any _ _ _ xs _ h hv.out).mono ?_
    rintro e w' ⟨rfl, bl⟩
    go_wp2
    go_ret2
    exact ⟨rfl, bl⟩
  · replace e0 : (s.toList == [105, 110, 118, 101, 114, 115, 105, 111, 110, 115]) = false := e0.trans (decide_eq_false (by omega))
    replace e1 : (s.toList == [109, 97, 106, 111, 114]) = false := e1.trans (decide_eq_false (by omega))
    replace e2 : (s.toList == [100, 101, 110, 101, 114, 116]) = false := e2.trans (decide_eq_false (by omega))
    replace e3 : (s.toList == [99, 114, 111, 115, 115, 105, 110, 103, 115]) = true := e3.trans (decide_eq_true rfl)
    replace e4 : (s.toList == [110, 101, 115, 116, 105, 110, 103, 115]) = false := e4.trans (decide_eq_false (by omega))
    replace e5 : (s.toList == [100, 101, 115, 99, 101, 110, 116, 115]) = false := e5.trans (decide_eq_false (by omega))
    replace e6 : (s.toList == [97, 98, 111, 118, 101]) = false := e6.trans (decide_eq_false (by omega))
    replace e7 : (s.toList == [114, 101, 99, 111, 114, 100, 115]) = false := e7.trans (decide_eq_false (by omega))
    replace e8 : (s.toList == [99, 105, 114, 99, 108, 101, 115]) = false := e8.trans (decide_eq_false (by omega))
    go_enter Tryz.func35, Tryz.ntmps35
    go_wp2_with fail
    refine (crossG _ _ _ xs _ h hv.out).mono ?_
    rintro e w' ⟨rfl, bl⟩
    go_wp2
    go_ret2
    exact ⟨rfl, bl⟩
  · replace e0 : (s.toList == [105, 110, 118, 101, 114, 115, 105, 111, 110, 115]) = false := e0.trans (decide_eq_false (by omega))
    replace e1 : (s.toList == [109, 97, 106, 111, 114]) = false := e1.trans (decide_eq_false (by omega))
    replace e2 : (s.toList == [100, 101, 110, 101, 114, 116]) = false := e2.trans (decide_eq_false (by omega))
    replace e3 : (s.toList == [99, 114, 111, 115, 115, 105, 110, 103, 115]) = false := e3.trans (decide_eq_false (by omega))
    replace e4 : (s.toList == [110, 101, 115, 116, 105, 110, 103, 115]) = true := e4.trans (decide_eq_true rfl)
    replace e5 : (s.toList == [100, 101, 115, 99, 101, 110, 116, 115]) = false := e5.trans (decide_eq_false (by omega))
    replace e6 : (s.toList == [97, 98, 111, 118, 101]) = false := e6.trans (decide_eq_false (by omega))
    replace e7 : (s.toList == [114, 101, 99, 111, 114, 100, 115]) = false := e7.trans (decide_eq_false (by omega))
    replace e8 : (s.toList == [99, 105, 114, 99, 108, 101, 115]) = false := e8.trans (decide_eq_false (by omega))
    go_enter Tryz.func35, Tryz.ntmps35
    go_wp2_with fail
    refine (nestG _ _ _ xs _ h hv.out).mono ?_
    rintro e w' ⟨rfl, bl⟩
    go_wp2
    go_ret2
    exact ⟨rfl, bl⟩
  · replace e0 : (s.toList == [105, 110, 118, 101, 114, 115, 105, 111, 110, 115]) = false := e0.trans (decide_eq_false (by omega))
    replace e1 : (s.toList == [109, 97, 106, 111, 114]) = false := e1.trans (decide_eq_false (by omega))
    replace e2 : (s.toList == [100, 101, 110, 101, 114, 116]) = false := e2.trans (decide_eq_false (by omega))
    replace e3 : (s.toList == [99, 114, 111, 115, 115, 105, 110, 103, 115]) = false := e3.trans (decide_eq_false (by omega))
    replace e4 : (s.toList == [110, 101, 115, 116, 105, 110, 103, 115]) = false := e4.trans (decide_eq_false (by omega))
    replace e5 : (s.toList == [100, 101, 115, 99, 101, 110, 116, 115]) = true := e5.trans (decide_eq_true rfl)
    replace e6 : (s.toList == [97, 98, 111, 118, 101]) = false := e6.trans (decide_eq_false (by omega))
    replace e7 : (s.toList == [114, 101, 99, 111, 114, 100, 115]) = false := e7.trans (decide_eq_false (by omega))
    replace e8 : (s.toList == [99, 105, 114, 99, 108, 101, 115]) = false := e8.trans (decide_eq_false (by omega))
    go_enter Tryz.func35, Tryz.ntmps35
    go_wp2_with fail
    refine (descents_any _ _ _ xs _ h (by omega)).mono ?_
    rintro e w' ⟨u, rfl, o, bl⟩
    obtain ⟨ad, cp, rfl, sl⟩ := o.sl
    clear o
    go_wp2
    go_ret2
    exact ⟨rfl, bl⟩
  · replace e0 : (s.toList == [105, 110, 118, 101, 114, 115, 105, 111, 110, 115]) = false := e0.trans (decide_eq_false (by omega))
    replace e1 : (s.toList == [109, 97, 106, 111, 114]) = false := e1.trans (decide_eq_false (by omega))
    replace e2 : (s.toList == [100, 101, 110, 101, 114, 116]) = false := e2.trans (decide_eq_false (by omega))
    replace e3 : (s.toList == [99, 114, 111, 115, 115, 105, 110, 103, 115]) = false := e3.trans (decide_eq_false (by omega))
    replace e4 : (s.toList == [110, 101, 115, 116, 105, 110, 103, 115]) = false := e4.trans (decide_eq_false (by omega))
    replace e5 : (s.toList == [100, 101, 115, 99, 101, 110, 116, 115]) = false := e5.trans (decide_eq_false (by omega))
    replace e6 : (s.toList == [97, 98, 111, 118, 101]) = true := e6.trans (decide_eq_true rfl)
    replace e7 : (s.toList == [114, 101, 99, 111, 114, 100, 115]) = false := e7.trans (decide_eq_false (by omega))
    replace e8 : (s.toList == [99, 105, 114, 99, 108, 101, 115]) = false := e8.trans (decide_eq_false (by omega))
    go_enter Tryz.func35, Tryz.ntmps35
    go_wp2_with fail
    refine (above_any _ _ _ xs _ h (by omega)).mono ?_
    rintro e w' ⟨u, rfl, o, bl⟩
    obtain ⟨ad, cp, rfl, sl⟩ := o.sl
    clear o
    go_wp2
    go_ret2
    exact ⟨rfl, bl⟩
  · replace e0 : (s.toList == [105, 110, 118, 101, 114, 115, 105, 111, 110, 115]) = false := e0.trans (decide_eq_false (by omega))
    replace e1 : (s.toList == [109, 97, 106, 111, 114]) = false := e1.trans (decide_eq_false (by omega))
    replace e2 : (s.toList == [100, 101, 110, 101, 114, 116]) = false := e2.trans (decide_eq_false (by omega))
    replace e3 : (s.toList == [99, 114, 111, 115, 115, 105, 110, 103, 115]) = false := e3.trans (decide_eq_false (by omega))
    replace e4 : (s.toList == [110, 101, 115, 116, 105, 110, 103, 115]) = false := e4.trans (decide_eq_false (by omega))
    replace e5 : (s.toList == [100, 101, 115, 99, 101, 110, 116, 115]) = false := e5.trans (decide_eq_false (by omega))
    replace e6 : (s.toList == [97, 98, 111, 118, 101]) = false := e6.trans (decide_eq_false (by omega))
    replace e7 : (s.toList == [114, 101, 99, 111, 114, 100, 115]) = true := e7.trans (decide_eq_true rfl)
    replace e8 : (s.toList == [99, 105, 114, 99, 108, 101, 115]) = false := e8.trans (decide_eq_false (by omega))
    go_enter Tryz.func35, Tryz.ntmps35
    go_wp2_with fail
    refine (records_any _ _ _ xs _ h (by omega)).mono ?_
    rintro e w' ⟨u, rfl, o, bl⟩
    obtain ⟨ad, cp, rfl, sl⟩ := o.sl
    clear o
    go_wp2
    go_ret2
    exact ⟨rfl, bl⟩
  · replace e0 : (s.toList == [105, 110, 118, 101, 114, 115, 105, 111, 110, 115]) = false := e0.trans (decide_eq_false (by omega))
    replace e1 : (s.toList == [109, 97, 106, 111, 114]) = false := e1.trans (decide_eq_false (by omega))
    replace e2 : (s.toList == [100, 101, 110, 101, 114, 116]) = false := e2.trans (decide_eq_false (by omega))
    replace e3 : (s.toList == [99, 114, 111, 115, 115, 105, 110, 103, 115]) = false := e3.trans (decide_eq_false (by omega))
    replace e4 : (s.toList == [110, 101, 115, 116, 105, 110, 103, 115]) = false := e4.trans (decide_eq_false (by omega))
    replace e5 : (s.toList == [100, 101, 115, 99, 101, 110, 116, 115]) = false := e5.trans (decide_eq_false (by omega))
    replace e6 : (s.toList == [97, 98, 111, 118, 101]) = false := e6.trans (decide_eq_false (by omega))
    replace e7 : (s.toList == [114, 101, 99, 111, 114, 100, 115]) = false := e7.trans (decide_eq_false (by omega))
    replace e8 : (s.toList == [99, 105, 114, 99, 108, 101, 115]) = true := e8.trans (decide_eq_true rfl)
    go_enter Tryz.func35, Tryz.ntmps35
    go_wp2_with fail
    refine (circles0_any _ _ _ xs _ h hv.out).mono ?_
    rintro e w' ⟨u, rfl, o, bl⟩
    obtain ⟨ad, cp, rfl, sl⟩ := o.sl
    clear o
    go_wp2
    go_ret2
    exact ⟨rfl, bl⟩
  · replace e0 : (s.toList == [105, 110, 118, 101, 114, 115, 105, 111, 110, 115]) = false := e0.trans (decide_eq_false (by omega))
    replace e1 : (s.toList == [109, 97, 106, 111, 114]) = false := e1.trans (decide_eq_false (by omega))
    replace e2 : (s.toList == [100, 101, 110, 101, 114, 116]) = false := e2.trans (decide_eq_false (by omega))
    replace e3 : (s.toList == [99, 114, 111, 115, 115, 105, 110, 103, 115]) = false := e3.trans (decide_eq_false (by omega))
    replace e4 : (s.toList == [110, 101, 115, 116, 105, 110, 103, 115]) = false := e4.trans (decide_eq_false (by omega))
    replace e5 : (s.toList == [100, 101, 115, 99, 101, 110, 116, 115]) = false := e5.trans (decide_eq_false (by omega))
    replace e6 : (s.toList == [97, 98, 111, 118, 101]) = false := e6.trans (decide_eq_false (by omega))
    replace e7 : (s.toList == [114, 101, 99, 111, 114, 100, 115]) = false := e7.trans (decide_eq_false (by omega))
    replace e8 : (s.toList == [99, 105, 114, 99, 108, 101, 115]) = false := e8.trans (decide_eq_false (by omega))
    go_enter Tryz.func35, Tryz.ntmps35
    go_wp2_with fail
    go_ret2
    refine ⟨?_, Below.refl _ _⟩
    rw [decide_eq_false (by omega)]
    match k, h9 with
    | k + 9, _ => rfl

end Go.Proofs.YtaceiebmgnhdgaaGreatDoor
