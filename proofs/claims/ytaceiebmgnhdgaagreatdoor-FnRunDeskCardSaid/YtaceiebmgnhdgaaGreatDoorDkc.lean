/- The desk of the program: a line cut at its first space, and whether the rest holds a space. Condition: the line has at most 2^20 bytes. -/
import Derived.Test.YtaceiebmgnhdgaaGreatDoorSgtZ
import Derived.Test.YtaceiebmgnhdgaaGreatDoorMirY
namespace Go.Proofs.YtaceiebmgnhdgaaGreatDoor
open Go.RowKit

set_option maxHeartbeats 2000000 in
theorem cut0_yes (s : ByteArray) (k : Nat) (w : World) (hk : k < s.size) (hs : s.size ≤ 1048576) (hi : Lib.indexByte s.data.toList 32 = (k : Int)) :
    Calls Tryz.prog 64 #[.string s, .string ⟨#[32]⟩] w fun e w' => e = .returned (.tuple #[.string (s.extract 0 k), .string (s.extract (k + 1) s.size), .bool true]) ∧ ∃ n, w' = w.drewN n := by
  have h1 : (k : Int) ≤ s.size := by omega
  have h2 : (k : Int) + 1 ≤ s.size := by omega
  have h3 : (0 : Int) ≤ (k : Int) + 1 := by omega
  have hn : ((k : Int) + 1).toNat = k + 1 := by omega
  have c0 := fun w => Tryz.stringslite_Index_one s 32 w
  rw [hi] at c0
  go_enter Tryz.func64, Tryz.ntmps64
  go_wp2_with fail
  refine (c0 _).mono ?_
  rintro e w1 ⟨rfl, rfl⟩
  have hwk : IntKind.i64.wrap ((k : Int) + 1) = (k : Int) + 1 := IntWalk.i64_in _ ⟨by omega, by omega⟩
  go_wp2
  go_quiet (fail)
  go_wp2
  go_ret3
  exact ⟨rfl, _, rfl⟩

set_option maxHeartbeats 2000000 in
theorem cut0_no (s : ByteArray) (w : World) (hi : Lib.indexByte s.data.toList 32 < 0) :
    Calls Tryz.prog 64 #[.string s, .string ⟨#[32]⟩] w fun e w' => e = .returned (.tuple #[.string s, .string ⟨#[]⟩, .bool false]) ∧ w' = w := by
  have c0 := fun w => Tryz.stringslite_Index_one s 32 w
  obtain ⟨x, hx⟩ : ∃ x, x = Lib.indexByte s.data.toList 32 := ⟨_, rfl⟩
  rw [← hx] at hi c0
  have h0 : ¬ (0 : Int) ≤ x := by omega
  clear hx
  go_enter Tryz.func64, Tryz.ntmps64
  go_wp2_with fail
  refine (c0 _).mono ?_
  rintro e w1 ⟨rfl, rfl⟩
  go_wp2
  go_ret3
  exact ⟨rfl, rfl⟩

/-- strings.Cut at a space. -/
theorem cut_yes (s a t : ByteArray) (w : World) (hs : s.size ≤ 1048576) (hi : ∃ k, k < s.size ∧ Lib.indexByte s.data.toList 32 = ((k : Nat) : Int) ∧ a = s.extract 0 k ∧ t = s.extract (k + 1) s.size) :
    Calls Tryz.prog 46 #[.string s, .string ⟨#[32]⟩] w fun e w' => e = .returned (.tuple #[.string a, .string t, .bool true]) ∧ Below w.heap.size w w' := by
  obtain ⟨k, hk, hi, rfl, rfl⟩ := hi
  have c0 := fun w => cut0_yes s k w hk hs hi
  generalize s.extract 0 k = a at *
  generalize s.extract (k + 1) s.size = t at *
  go_enter Tryz.func46, Tryz.ntmps46
  go_wp2_with fail
  refine (c0 _).mono ?_
  rintro e w1 ⟨rfl, n, rfl⟩
  go_wp2
  go_ret3
  exact ⟨rfl, drewN_below (Below.refl _ _) _⟩
theorem cut_no (s : ByteArray) (w : World) (hi : Lib.indexByte s.data.toList 32 < 0) :
    Calls Tryz.prog 46 #[.string s, .string ⟨#[32]⟩] w fun e w' => e = .returned (.tuple #[.string s, .string ⟨#[]⟩, .bool false]) ∧ Below w.heap.size w w' := by
  have c0 := fun w => cut0_no s w hi
  go_enter Tryz.func46, Tryz.ntmps46
  go_wp2_with fail
  refine (c0 _).mono ?_
  rintro e w1 ⟨rfl, rfl⟩
  go_wp2
  go_ret3
  exact ⟨rfl, Below.refl _ _⟩
/-- strings.Contains of a space. -/
theorem hasSp_any (t : ByteArray) (w : World) :
    Calls Tryz.prog 48 #[.string t, .string ⟨#[32]⟩] w (Says w (.bool (decide (0 ≤ Lib.indexByte t.data.toList 32)))) :=
  (Tryz.strings_Contains_one t 32 w).mono (by rintro e w' ⟨rfl, rfl⟩; exact ⟨rfl, Below.refl _ _⟩)

end Go.Proofs.YtaceiebmgnhdgaaGreatDoor
