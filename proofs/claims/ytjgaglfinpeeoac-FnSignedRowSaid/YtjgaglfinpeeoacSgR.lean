/- How many signed orders have each number of a name: SignedRow, in the program and in its model. No condition. -/
import Derived.Test.YtjgaglfinpeeoacTlI
import Derived.Deep.RegionWith
namespace Go.Proofs.Ytjgaglfinpeeoac
open Go.RowKit

set_option maxRecDepth 20000 in
set_option maxHeartbeats 4000000 in
theorem sgRI0_yes (m : Nat) (w : World) (hm : m ≤ 3) :
    Calls Try.prog 22 #[.string gm_length, .int .i64 m] w (Made2 w (tal (numG 0 m)) true) := by
  obtain ⟨M, HM⟩ : ∃ M : Nat, Hid (M = (allG m).length) := ⟨_, rfl⟩
  have hM1 : Hid (M ≤ 1000 ∧ 0 < M) := hid (by rw [HM.out, allG_len]; have h1 := (allG_small hm).2.2; have h2 := Nat.mul_pos (facN_pos m (by omega)).1 (two_pos m); omega)
  have Hl : Hid ((numG 0 m).length = M) := hid (by rw [HM.out, numG_len, allG_len])
  have Hs : Hid (∀ j, j < M → SV (ell (allG m) j)) := hid (fun j hj => allG_sv hm (by rw [← HM.out]; exact hj))
  have Hv : Hid (∀ j, j < M → el (numG 0 m) j = valG (ell (allG m) j) 0) := hid (fun j hj => el_numG (by rw [← HM.out]; exact hj))
  have Hb := hid (numG_bd (k := 0) (by omega) hm)
  obtain ⟨l, HL⟩ : ∃ l, Hid (l = numG 0 m) := ⟨_, rfl⟩
  rw [← HL.out] at Hl Hv Hb
  rw [← HL.out]
  go_enter Try.func22, Try.ntmps22
  go_wp2_with fail
  refine (ctrG_any _).mono ?_
  rintro e w1 ⟨b, rfl, hM, b1⟩
  have hsee := run_see (P := Try.prog) Try.underlying60 Try.underlying9 [] [(gm_flag, Value.agg #[.func (.func 63) #[] #[]]), (gm_falls, Value.agg #[.func (.func 64) #[] #[]]), (gm_negatives, Value.agg #[.func (.func 65) #[] #[]])] gm_length (Value.agg #[.func (.func 62) #[] #[]]) hM (gm_new _ _ rfl)
  clear hM
  have hW : Below w1.heap.size w1 (w1.alloc (.cells #[.func (.func 62) #[] #[]] 58)).drew := ((Below.refl w1.heap.size w1).alloc (Nat.le_refl _) _).drew
  have hBx : Bx (w1.alloc (.cells #[.func (.func 62) #[] #[]] 58)).drew w1.heap.size 58 (.func (.func 62) #[] #[]) := Bx.new w1 _ _
  have hc0 := hBx.cell
  have HBx := hid hBx
  have bw := b1.trans (hW.mono b1.size)
  clear hBx hW
  go_wp2_with fail
  go_region_with (first
    | (go_at_call 47; refine (tallyI0_any _ _ _ (allG m) l _ sa1 hM1.out.1 Hl Hs Hv Hb).mono ?_; rintro e v2 ⟨u2, rfl, o2, c2⟩; have bw2 := bw1.trans (c2.mono bw1.size); have o3 := o2.mono bw1.size)
    | (go_at_call 12; refine (asgI_yes m _ hm).mono ?_; rintro e v1 ⟨u1, rfl, o1, c1⟩; obtain ⟨ada, cpa, rfl, sa1⟩ := o1.sl; rw [← HM.out] at sa1 ⊢; have hc1 := (HBx.out.keep (c1.block _ HBx.out.lt)).cell; have bw1 := bw.trans (c1.mono bw.size)))
  all_goals go_wp2
  all_goals go_ret2
  all_goals exact made2_eq (by first | rfl | exact decide_eq_true hM1.out.2) o3 bw2

set_option maxRecDepth 20000 in
set_option maxHeartbeats 4000000 in
theorem sgRI0_no (m : Int) (w : World) (hm : m < 0 ∨ 3 < m) :
    Calls Try.prog 22 #[.string gm_length, .int .i64 m] w (Made2 w [] false) := by
  obtain ⟨M, HM⟩ : ∃ M : Nat, Hid (M = ([] : List (List Int)).length) := ⟨_, rfl⟩
  have hM0 : Hid (M = 0) := hid HM.out
  have hM1 : Hid (M ≤ 1000) := hid (by rw [hM0.out]; omega)
  have Hl : Hid (([] : List Int).length = M) := hid hM0.out.symm
  have Hs : Hid (∀ j, j < M → SV (ell ([] : List (List Int)) j)) := hid (fun j hj => by rw [hM0.out] at hj; omega)
  have Hv : Hid (∀ j, j < M → el ([] : List Int) j = valG (ell ([] : List (List Int)) j) 0) := hid (fun j hj => by rw [hM0.out] at hj; omega)
  have Hb : Hid (∀ j, 0 ≤ el ([] : List Int) j ∧ el ([] : List Int) j ≤ 100) := hid (fun j => by simp [el])
  go_enter Try.func22, Try.ntmps22
  go_wp2_with fail
  refine (ctrG_any _).mono ?_
  rintro e w1 ⟨b, rfl, hM, b1⟩
  have hsee := run_see (P := Try.prog) Try.underlying60 Try.underlying9 [] [(gm_flag, Value.agg #[.func (.func 63) #[] #[]]), (gm_falls, Value.agg #[.func (.func 64) #[] #[]]), (gm_negatives, Value.agg #[.func (.func 65) #[] #[]])] gm_length (Value.agg #[.func (.func 62) #[] #[]]) hM (gm_new _ _ rfl)
  clear hM
  have hW : Below w1.heap.size w1 (w1.alloc (.cells #[.func (.func 62) #[] #[]] 58)).drew := ((Below.refl w1.heap.size w1).alloc (Nat.le_refl _) _).drew
  have hBx : Bx (w1.alloc (.cells #[.func (.func 62) #[] #[]] 58)).drew w1.heap.size 58 (.func (.func 62) #[] #[]) := Bx.new w1 _ _
  have hc0 := hBx.cell
  have HBx := hid hBx
  have bw := b1.trans (hW.mono b1.size)
  clear hBx hW
  go_wp2_with fail
  go_region_with (first
    | (go_at_call 47; refine (tallyI0_any _ _ _ ([] : List (List Int)) ([] : List Int) _ sa1 hM1.out Hl Hs Hv Hb).mono ?_; rintro e v2 ⟨u2, rfl, o2, c2⟩; have bw2 := bw1.trans (c2.mono bw1.size); have o3 := o2.mono bw1.size)
    | (go_at_call 12; refine (asgI_no m _ hm).mono ?_; rintro e v1 ⟨u1, rfl, o1, c1⟩; obtain ⟨ada, cpa, rfl, sa1⟩ := o1.sl; rw [← HM.out] at sa1 ⊢; have hc1 := (HBx.out.keep (c1.block _ HBx.out.lt)).cell; have bw1 := bw.trans (c1.mono bw.size)))
  all_goals go_wp2
  all_goals go_ret2
  all_goals exact made2_eq (by first | rfl | exact decide_eq_false (by rw [hM0.out]; omega)) o3 bw2

set_option maxRecDepth 20000 in
set_option maxHeartbeats 4000000 in
theorem sgRI1_yes (m : Nat) (w : World) (hm : m ≤ 3) :
    Calls Try.prog 22 #[.string gm_flag, .int .i64 m] w (Made2 w (tal (numG 1 m)) true) := by
  obtain ⟨M, HM⟩ : ∃ M : Nat, Hid (M = (allG m).length) := ⟨_, rfl⟩
  have hM1 : Hid (M ≤ 1000 ∧ 0 < M) := hid (by rw [HM.out, allG_len]; have h1 := (allG_small hm).2.2; have h2 := Nat.mul_pos (facN_pos m (by omega)).1 (two_pos m); omega)
  have Hl : Hid ((numG 1 m).length = M) := hid (by rw [HM.out, numG_len, allG_len])
  have Hs : Hid (∀ j, j < M → SV (ell (allG m) j)) := hid (fun j hj => allG_sv hm (by rw [← HM.out]; exact hj))
  have Hv : Hid (∀ j, j < M → el (numG 1 m) j = valG (ell (allG m) j) 1) := hid (fun j hj => el_numG (by rw [← HM.out]; exact hj))
  have Hb := hid (numG_bd (k := 1) (by omega) hm)
  obtain ⟨l, HL⟩ : ∃ l, Hid (l = numG 1 m) := ⟨_, rfl⟩
  rw [← HL.out] at Hl Hv Hb
  rw [← HL.out]
  go_enter Try.func22, Try.ntmps22
  go_wp2_with fail
  refine (ctrG_any _).mono ?_
  rintro e w1 ⟨b, rfl, hM, b1⟩
  have hsee := run_see (P := Try.prog) Try.underlying60 Try.underlying9 [(gm_length, Value.agg #[.func (.func 62) #[] #[]])] [(gm_falls, Value.agg #[.func (.func 64) #[] #[]]), (gm_negatives, Value.agg #[.func (.func 65) #[] #[]])] gm_flag (Value.agg #[.func (.func 63) #[] #[]]) hM (gm_new _ _ rfl)
  clear hM
  have hW : Below w1.heap.size w1 (w1.alloc (.cells #[.func (.func 63) #[] #[]] 58)).drew := ((Below.refl w1.heap.size w1).alloc (Nat.le_refl _) _).drew
  have hBx : Bx (w1.alloc (.cells #[.func (.func 63) #[] #[]] 58)).drew w1.heap.size 58 (.func (.func 63) #[] #[]) := Bx.new w1 _ _
  have hc0 := hBx.cell
  have HBx := hid hBx
  have bw := b1.trans (hW.mono b1.size)
  clear hBx hW
  go_wp2_with fail
  go_region_with (first
    | (go_at_call 47; refine (tallyI1_any _ _ _ (allG m) l _ sa1 hM1.out.1 Hl Hs Hv Hb).mono ?_; rintro e v2 ⟨u2, rfl, o2, c2⟩; have bw2 := bw1.trans (c2.mono bw1.size); have o3 := o2.mono bw1.size)
    | (go_at_call 12; refine (asgI_yes m _ hm).mono ?_; rintro e v1 ⟨u1, rfl, o1, c1⟩; obtain ⟨ada, cpa, rfl, sa1⟩ := o1.sl; rw [← HM.out] at sa1 ⊢; have hc1 := (HBx.out.keep (c1.block _ HBx.out.lt)).cell; have bw1 := bw.trans (c1.mono bw.size)))
  all_goals go_wp2
  all_goals go_ret2
  all_goals exact made2_eq (by first | rfl | exact decide_eq_true hM1.out.2) o3 bw2

set_option maxRecDepth 20000 in
set_option maxHeartbeats 4000000 in
theorem sgRI1_no (m : Int) (w : World) (hm : m < 0 ∨ 3 < m) :
    Calls Try.prog 22 #[.string gm_flag, .int .i64 m] w (Made2 w [] false) := by
  obtain ⟨M, HM⟩ : ∃ M : Nat, Hid (M = ([] : List (List Int)).length) := ⟨_, rfl⟩
  have hM0 : Hid (M = 0) := hid HM.out
  have hM1 : Hid (M ≤ 1000) := hid (by rw [hM0.out]; omega)
  have Hl : Hid (([] : List Int).length = M) := hid hM0.out.symm
  have Hs : Hid (∀ j, j < M → SV (ell ([] : List (List Int)) j)) := hid (fun j hj => by rw [hM0.out] at hj; omega)
  have Hv : Hid (∀ j, j < M → el ([] : List Int) j = valG (ell ([] : List (List Int)) j) 1) := hid (fun j hj => by rw [hM0.out] at hj; omega)
  have Hb : Hid (∀ j, 0 ≤ el ([] : List Int) j ∧ el ([] : List Int) j ≤ 100) := hid (fun j => by simp [el])
  go_enter Try.func22, Try.ntmps22
  go_wp2_with fail
  refine (ctrG_any _).mono ?_
  rintro e w1 ⟨b, rfl, hM, b1⟩
  have hsee := run_see (P := Try.prog) Try.underlying60 Try.underlying9 [(gm_length, Value.agg #[.func (.func 62) #[] #[]])] [(gm_falls, Value.agg #[.func (.func 64) #[] #[]]), (gm_negatives, Value.agg #[.func (.func 65) #[] #[]])] gm_flag (Value.agg #[.func (.func 63) #[] #[]]) hM (gm_new _ _ rfl)
  clear hM
  have hW : Below w1.heap.size w1 (w1.alloc (.cells #[.func (.func 63) #[] #[]] 58)).drew := ((Below.refl w1.heap.size w1).alloc (Nat.le_refl _) _).drew
  have hBx : Bx (w1.alloc (.cells #[.func (.func 63) #[] #[]] 58)).drew w1.heap.size 58 (.func (.func 63) #[] #[]) := Bx.new w1 _ _
  have hc0 := hBx.cell
  have HBx := hid hBx
  have bw := b1.trans (hW.mono b1.size)
  clear hBx hW
  go_wp2_with fail
  go_region_with (first
    | (go_at_call 47; refine (tallyI1_any _ _ _ ([] : List (List Int)) ([] : List Int) _ sa1 hM1.out Hl Hs Hv Hb).mono ?_; rintro e v2 ⟨u2, rfl, o2, c2⟩; have bw2 := bw1.trans (c2.mono bw1.size); have o3 := o2.mono bw1.size)
    | (go_at_call 12; refine (asgI_no m _ hm).mono ?_; rintro e v1 ⟨u1, rfl, o1, c1⟩; obtain ⟨ada, cpa, rfl, sa1⟩ := o1.sl; rw [← HM.out] at sa1 ⊢; have hc1 := (HBx.out.keep (c1.block _ HBx.out.lt)).cell; have bw1 := bw.trans (c1.mono bw.size)))
  all_goals go_wp2
  all_goals go_ret2
  all_goals exact made2_eq (by first | rfl | exact decide_eq_false (by rw [hM0.out]; omega)) o3 bw2

set_option maxRecDepth 20000 in
set_option maxHeartbeats 4000000 in
theorem sgRI2_yes (m : Nat) (w : World) (hm : m ≤ 3) :
    Calls Try.prog 22 #[.string gm_falls, .int .i64 m] w (Made2 w (tal (numG 2 m)) true) := by
  obtain ⟨M, HM⟩ : ∃ M : Nat, Hid (M = (allG m).length) := ⟨_, rfl⟩
  have hM1 : Hid (M ≤ 1000 ∧ 0 < M) := hid (by rw [HM.out, allG_len]; have h1 := (allG_small hm).2.2; have h2 := Nat.mul_pos (facN_pos m (by omega)).1 (two_pos m); omega)
  have Hl : Hid ((numG 2 m).length = M) := hid (by rw [HM.out, numG_len, allG_len])
  have Hs : Hid (∀ j, j < M → SV (ell (allG m) j)) := hid (fun j hj => allG_sv hm (by rw [← HM.out]; exact hj))
  have Hv : Hid (∀ j, j < M → el (numG 2 m) j = valG (ell (allG m) j) 2) := hid (fun j hj => el_numG (by rw [← HM.out]; exact hj))
  have Hb := hid (numG_bd (k := 2) (by omega) hm)
  obtain ⟨l, HL⟩ : ∃ l, Hid (l = numG 2 m) := ⟨_, rfl⟩
  rw [← HL.out] at Hl Hv Hb
  rw [← HL.out]
  go_enter Try.func22, Try.ntmps22
  go_wp2_with fail
  refine (ctrG_any _).mono ?_
  rintro e w1 ⟨b, rfl, hM, b1⟩
  have hsee := run_see (P := Try.prog) Try.underlying60 Try.underlying9 [(gm_length, Value.agg #[.func (.func 62) #[] #[]]), (gm_flag, Value.agg #[.func (.func 63) #[] #[]])] [(gm_negatives, Value.agg #[.func (.func 65) #[] #[]])] gm_falls (Value.agg #[.func (.func 64) #[] #[]]) hM (gm_new _ _ rfl)
  clear hM
  have hW : Below w1.heap.size w1 (w1.alloc (.cells #[.func (.func 64) #[] #[]] 58)).drew := ((Below.refl w1.heap.size w1).alloc (Nat.le_refl _) _).drew
  have hBx : Bx (w1.alloc (.cells #[.func (.func 64) #[] #[]] 58)).drew w1.heap.size 58 (.func (.func 64) #[] #[]) := Bx.new w1 _ _
  have hc0 := hBx.cell
  have HBx := hid hBx
  have bw := b1.trans (hW.mono b1.size)
  clear hBx hW
  go_wp2_with fail
  go_region_with (first
    | (go_at_call 47; refine (tallyI2_any _ _ _ (allG m) l _ sa1 hM1.out.1 Hl Hs Hv Hb).mono ?_; rintro e v2 ⟨u2, rfl, o2, c2⟩; have bw2 := bw1.trans (c2.mono bw1.size); have o3 := o2.mono bw1.size)
    | (go_at_call 12; refine (asgI_yes m _ hm).mono ?_; rintro e v1 ⟨u1, rfl, o1, c1⟩; obtain ⟨ada, cpa, rfl, sa1⟩ := o1.sl; rw [← HM.out] at sa1 ⊢; have hc1 := (HBx.out.keep (c1.block _ HBx.out.lt)).cell; have bw1 := bw.trans (c1.mono bw.size)))
  all_goals go_wp2
  all_goals go_ret2
  all_goals exact made2_eq (by first | rfl | exact decide_eq_true hM1.out.2) o3 bw2

set_option maxRecDepth 20000 in
set_option maxHeartbeats 4000000 in
theorem sgRI2_no (m : Int) (w : World) (hm : m < 0 ∨ 3 < m) :
    Calls Try.prog 22 #[.string gm_falls, .int .i64 m] w (Made2 w [] false) := by
  obtain ⟨M, HM⟩ : ∃ M : Nat, Hid (M = ([] : List (List Int)).length) := ⟨_, rfl⟩
  have hM0 : Hid (M = 0) := hid HM.out
  have hM1 : Hid (M ≤ 1000) := hid (by rw [hM0.out]; omega)
  have Hl : Hid (([] : List Int).length = M) := hid hM0.out.symm
  have Hs : Hid (∀ j, j < M → SV (ell ([] : List (List Int)) j)) := hid (fun j hj => by rw [hM0.out] at hj; omega)
  have Hv : Hid (∀ j, j < M → el ([] : List Int) j = valG (ell ([] : List (List Int)) j) 2) := hid (fun j hj => by rw [hM0.out] at hj; omega)
  have Hb : Hid (∀ j, 0 ≤ el ([] : List Int) j ∧ el ([] : List Int) j ≤ 100) := hid (fun j => by simp [el])
  go_enter Try.func22, Try.ntmps22
  go_wp2_with fail
  refine (ctrG_any _).mono ?_
  rintro e w1 ⟨b, rfl, hM, b1⟩
  have hsee := run_see (P := Try.prog) Try.underlying60 Try.underlying9 [(gm_length, Value.agg #[.func (.func 62) #[] #[]]), (gm_flag, Value.agg #[.func (.func 63) #[] #[]])] [(gm_negatives, Value.agg #[.func (.func 65) #[] #[]])] gm_falls (Value.agg #[.func (.func 64) #[] #[]]) hM (gm_new _ _ rfl)
  clear hM
  have hW : Below w1.heap.size w1 (w1.alloc (.cells #[.func (.func 64) #[] #[]] 58)).drew := ((Below.refl w1.heap.size w1).alloc (Nat.le_refl _) _).drew
  have hBx : Bx (w1.alloc (.cells #[.func (.func 64) #[] #[]] 58)).drew w1.heap.size 58 (.func (.func 64) #[] #[]) := Bx.new w1 _ _
  have hc0 := hBx.cell
  have HBx := hid hBx
  have bw := b1.trans (hW.mono b1.size)
  clear hBx hW
  go_wp2_with fail
  go_region_with (first
    | (go_at_call 47; refine (tallyI2_any _ _ _ ([] : List (List Int)) ([] : List Int) _ sa1 hM1.out Hl Hs Hv Hb).mono ?_; rintro e v2 ⟨u2, rfl, o2, c2⟩; have bw2 := bw1.trans (c2.mono bw1.size); have o3 := o2.mono bw1.size)
    | (go_at_call 12; refine (asgI_no m _ hm).mono ?_; rintro e v1 ⟨u1, rfl, o1, c1⟩; obtain ⟨ada, cpa, rfl, sa1⟩ := o1.sl; rw [← HM.out] at sa1 ⊢; have hc1 := (HBx.out.keep (c1.block _ HBx.out.lt)).cell; have bw1 := bw.trans (c1.mono bw.size)))
  all_goals go_wp2
  all_goals go_ret2
  all_goals exact made2_eq (by first | rfl | exact decide_eq_false (by rw [hM0.out]; omega)) o3 bw2

set_option maxRecDepth 20000 in
set_option maxHeartbeats 4000000 in
theorem sgRI3_yes (m : Nat) (w : World) (hm : m ≤ 3) :
    Calls Try.prog 22 #[.string gm_negatives, .int .i64 m] w (Made2 w (tal (numG 3 m)) true) := by
  obtain ⟨M, HM⟩ : ∃ M : Nat, Hid (M = (allG m).length) := ⟨_, rfl⟩
  have hM1 : Hid (M ≤ 1000 ∧ 0 < M) := hid (by rw [HM.out, allG_len]; have h1 := (allG_small hm).2.2; have h2 := Nat.mul_pos (facN_pos m (by omega)).1 (two_pos m); omega)
  have Hl : Hid ((numG 3 m).length = M) := hid (by rw [HM.out, numG_len, allG_len])
  have Hs : Hid (∀ j, j < M → SV (ell (allG m) j)) := hid (fun j hj => allG_sv hm (by rw [← HM.out]; exact hj))
  have Hv : Hid (∀ j, j < M → el (numG 3 m) j = valG (ell (allG m) j) 3) := hid (fun j hj => el_numG (by rw [← HM.out]; exact hj))
  have Hb := hid (numG_bd (k := 3) (by omega) hm)
  obtain ⟨l, HL⟩ : ∃ l, Hid (l = numG 3 m) := ⟨_, rfl⟩
  rw [← HL.out] at Hl Hv Hb
  rw [← HL.out]
  go_enter Try.func22, Try.ntmps22
  go_wp2_with fail
  refine (ctrG_any _).mono ?_
  rintro e w1 ⟨b, rfl, hM, b1⟩
  have hsee := run_see (P := Try.prog) Try.underlying60 Try.underlying9 [(gm_length, Value.agg #[.func (.func 62) #[] #[]]), (gm_flag, Value.agg #[.func (.func 63) #[] #[]]), (gm_falls, Value.agg #[.func (.func 64) #[] #[]])] [] gm_negatives (Value.agg #[.func (.func 65) #[] #[]]) hM (gm_new _ _ rfl)
  clear hM
  have hW : Below w1.heap.size w1 (w1.alloc (.cells #[.func (.func 65) #[] #[]] 58)).drew := ((Below.refl w1.heap.size w1).alloc (Nat.le_refl _) _).drew
  have hBx : Bx (w1.alloc (.cells #[.func (.func 65) #[] #[]] 58)).drew w1.heap.size 58 (.func (.func 65) #[] #[]) := Bx.new w1 _ _
  have hc0 := hBx.cell
  have HBx := hid hBx
  have bw := b1.trans (hW.mono b1.size)
  clear hBx hW
  go_wp2_with fail
  go_region_with (first
    | (go_at_call 47; refine (tallyI3_any _ _ _ (allG m) l _ sa1 hM1.out.1 Hl Hs Hv Hb).mono ?_; rintro e v2 ⟨u2, rfl, o2, c2⟩; have bw2 := bw1.trans (c2.mono bw1.size); have o3 := o2.mono bw1.size)
    | (go_at_call 12; refine (asgI_yes m _ hm).mono ?_; rintro e v1 ⟨u1, rfl, o1, c1⟩; obtain ⟨ada, cpa, rfl, sa1⟩ := o1.sl; rw [← HM.out] at sa1 ⊢; have hc1 := (HBx.out.keep (c1.block _ HBx.out.lt)).cell; have bw1 := bw.trans (c1.mono bw.size)))
  all_goals go_wp2
  all_goals go_ret2
  all_goals exact made2_eq (by first | rfl | exact decide_eq_true hM1.out.2) o3 bw2

set_option maxRecDepth 20000 in
set_option maxHeartbeats 4000000 in
theorem sgRI3_no (m : Int) (w : World) (hm : m < 0 ∨ 3 < m) :
    Calls Try.prog 22 #[.string gm_negatives, .int .i64 m] w (Made2 w [] false) := by
  obtain ⟨M, HM⟩ : ∃ M : Nat, Hid (M = ([] : List (List Int)).length) := ⟨_, rfl⟩
  have hM0 : Hid (M = 0) := hid HM.out
  have hM1 : Hid (M ≤ 1000) := hid (by rw [hM0.out]; omega)
  have Hl : Hid (([] : List Int).length = M) := hid hM0.out.symm
  have Hs : Hid (∀ j, j < M → SV (ell ([] : List (List Int)) j)) := hid (fun j hj => by rw [hM0.out] at hj; omega)
  have Hv : Hid (∀ j, j < M → el ([] : List Int) j = valG (ell ([] : List (List Int)) j) 3) := hid (fun j hj => by rw [hM0.out] at hj; omega)
  have Hb : Hid (∀ j, 0 ≤ el ([] : List Int) j ∧ el ([] : List Int) j ≤ 100) := hid (fun j => by simp [el])
  go_enter Try.func22, Try.ntmps22
  go_wp2_with fail
  refine (ctrG_any _).mono ?_
  rintro e w1 ⟨b, rfl, hM, b1⟩
  have hsee := run_see (P := Try.prog) Try.underlying60 Try.underlying9 [(gm_length, Value.agg #[.func (.func 62) #[] #[]]), (gm_flag, Value.agg #[.func (.func 63) #[] #[]]), (gm_falls, Value.agg #[.func (.func 64) #[] #[]])] [] gm_negatives (Value.agg #[.func (.func 65) #[] #[]]) hM (gm_new _ _ rfl)
  clear hM
  have hW : Below w1.heap.size w1 (w1.alloc (.cells #[.func (.func 65) #[] #[]] 58)).drew := ((Below.refl w1.heap.size w1).alloc (Nat.le_refl _) _).drew
  have hBx : Bx (w1.alloc (.cells #[.func (.func 65) #[] #[]] 58)).drew w1.heap.size 58 (.func (.func 65) #[] #[]) := Bx.new w1 _ _
  have hc0 := hBx.cell
  have HBx := hid hBx
  have bw := b1.trans (hW.mono b1.size)
  clear hBx hW
  go_wp2_with fail
  go_region_with (first
    | (go_at_call 47; refine (tallyI3_any _ _ _ ([] : List (List Int)) ([] : List Int) _ sa1 hM1.out Hl Hs Hv Hb).mono ?_; rintro e v2 ⟨u2, rfl, o2, c2⟩; have bw2 := bw1.trans (c2.mono bw1.size); have o3 := o2.mono bw1.size)
    | (go_at_call 12; refine (asgI_no m _ hm).mono ?_; rintro e v1 ⟨u1, rfl, o1, c1⟩; obtain ⟨ada, cpa, rfl, sa1⟩ := o1.sl; rw [← HM.out] at sa1 ⊢; have hc1 := (HBx.out.keep (c1.block _ HBx.out.lt)).cell; have bw1 := bw.trans (c1.mono bw.size)))
  all_goals go_wp2
  all_goals go_ret2
  all_goals exact made2_eq (by first | rfl | exact decide_eq_false (by rw [hM0.out]; omega)) o3 bw2

set_option maxRecDepth 20000 in
set_option maxHeartbeats 4000000 in
theorem sgRZ_any (s : ByteArray) (m : Int) (w : World) (h4 : ¬ ixG s < 4) :
    Calls Try.prog 22 #[.string s, .int .i64 m] w (Made2 w [] false) := by
  go_enter Try.func22, Try.ntmps22
  go_wp2_with fail
  refine (ctrG_any _).mono ?_
  rintro e w1 ⟨b, rfl, hM, b1⟩
  have hun := run_unseen (P := Try.prog) Try.underlying60 Try.underlying9 (w := w1) (b := b) (et := 58) (.agg #[.nilFunc]) (by kernel_rfl) s hM (ixg_no h4)
  clear hM
  have hW := ((Below.refl w1.heap.size w1).alloc (Nat.le_refl _) (.cells #[.nilFunc] 58))
  go_wp2
  go_ret2
  exact ⟨_, rfl, Own.nil, b1.trans (hW.mono b1.size)⟩

theorem sgRI_yes (s : ByteArray) (k m : Nat) (w : World) (hk : k = ixG s) (h4 : k < 4) (hm : m ≤ 3) : Calls Try.prog 22 #[.string s, .int .i64 m] w (Made2 w (tal (numG k m)) true) := by
  have hc : k = 0 ∨ k = 1 ∨ k = 2 ∨ k = 3 := by omega
  rcases hc with rfl | rfl | rfl | rfl
  · rw [ixg_length hk.symm]; exact sgRI0_yes m w hm
  · rw [ixg_flag hk.symm]; exact sgRI1_yes m w hm
  · rw [ixg_falls hk.symm]; exact sgRI2_yes m w hm
  · rw [ixg_negatives hk.symm]; exact sgRI3_yes m w hm
theorem sgRI_no (s : ByteArray) (m : Int) (w : World) (h : ¬ (ixG s < 4 ∧ 0 ≤ m ∧ m ≤ 3)) : Calls Try.prog 22 #[.string s, .int .i64 m] w (Made2 w [] false) := by
  by_cases h4 : ixG s < 4
  · have hm : m < 0 ∨ 3 < m := by omega
    have hc : ixG s = 0 ∨ ixG s = 1 ∨ ixG s = 2 ∨ ixG s = 3 := by omega
    rcases hc with e | e | e | e
    · rw [ixg_length e]; exact sgRI0_no m w hm
    · rw [ixg_flag e]; exact sgRI1_no m w hm
    · rw [ixg_falls e]; exact sgRI2_no m w hm
    · rw [ixg_negatives e]; exact sgRI3_no m w hm
  · exact sgRZ_any s m w h4

set_option maxRecDepth 20000 in
set_option maxHeartbeats 4000000 in
theorem sgRS_yes (s : ByteArray) (k m : Nat) (w : World) (hk : k = ixG s) (h4 : k < 4) (hm : m ≤ 3) :
    Calls Try.prog 23 #[.string s, .int .i64 m] w (Made2 w (tal (numG k m)) true) := by
  have Hb := hid (numG_bd h4 hm)
  obtain ⟨M, HM⟩ : ∃ M : Nat, Hid (M = (allG m).length) := ⟨_, rfl⟩
  have hf1 : M ≤ 48 := by rw [HM.out, allG_len]; exact (allG_small hm).2.2
  have Hnl : Hid ((numG k m).length = M) := hid (by rw [HM.out, numG_len, allG_len])
  have Hk := hid hk
  clear hk
  go_enter Try.func23, Try.ntmps23
  go_wp2_with fail
  refine (countG_any s _ _ _ [] _ (own_lit w).read (hid sv_nil)).mono ?_
  rintro e w1 ⟨rfl, b1⟩
  rw [← Hk.out, decide_eq_true h4]
  go_wp2_with fail
  refine (inRange_any _ _ _ _).mono ?_
  rintro e w' ⟨rfl, hww⟩
  subst hww
  rw [show decide ((0 : Int) ≤ m ∧ (m : Int) ≤ 3) = true by simp; omega]
  have bw1 : Below w.heap.size w w1 := ((Below.refl w.heap.size w).alloc (Nat.le_refl _) _).trans (b1.mono (by simp))
  have Ho0 := hid (own_lit w1)
  have hsz : Hid ((w1.alloc (.cells #[] 3)).heap.size = w1.heap.size + 1) := hid (by simp)
  clear b1
  go_wp2_with fail
  refine (asgS0_any m _ hm).mono ?_
  rintro e w2 ⟨u2, rfl, o2, b2⟩
  have ho2 := Ho0.out.below (Nat.le_refl _) b2
  have hs1 := bw1.size
  have bw2 : Below w.heap.size w w2 := (bw1.alloc hs1 _).trans (b2.mono (by rw [hsz.out]; omega))
  rw [hsz.out] at o2
  have hs2 : w1.heap.size + 1 ≤ w2.heap.size := by have := b2.size; rw [hsz.out] at this; exact this
  clear b2 hsz Ho0 bw1
  obtain ⟨ad2, cp2, rfl, -⟩ := o2.sl
  rw [← HM.out] at o2 ⊢
  have HO2 := hid o2
  clear o2
  obtain ⟨p, hp⟩ : ∃ p, p = w1.heap.size := ⟨_, rfl⟩
  rw [← hp] at ho2 HO2 hs1 hs2 ⊢
  clear hp
  go_wp2
  go_loopw [8, 10] (fun v i wr => ∃ (j : Nat) (ao' : Option Addr) (cap' : Nat), j ≤ M ∧ v = .slice ao' j cap' ∧ i = .int .i64 j ∧ Hid (Chg p (p + 1) w2 wr) ∧ Own wr p (.slice ao' j cap') ((numG k m).take j) ∧ Hid (∀ q, (Value.slice ao' j cap').ownBlock = some q → q < p + 1 ∨ w2.heap.size ≤ q))
    (fun _ i _ => M - (intOf i).toNat)
  case atStart => exact ⟨0, _, _, Nat.zero_le _, rfl, rfl, hid (Chg.refl _ _ _), ho2, hid (fun q hq => by simp [Value.ownBlock] at hq; omega)⟩
  case round =>
    clear ho2
    obtain ⟨j, ao', cap', hj, rfl, rfl, HC, ho, HQ⟩ := hrel
    have hch := HC.out
    have hszr := hch.size
    by_cases hlt : j < M
    · have hji : (j : Int) < (M : Int) := by omega
      obtain ⟨b', off, rfl, hblt, hc⟩ := (ownL_read (HO2.out.chg hch (Or.inr (Nat.le_refl _)))).row (by omega)
      obtain ⟨ai, ci, hcell, hsi⟩ := hc j hlt
      have hl : ((numG k m).take j).length ≤ 2000000 := by rw [List.length_take]; omega
      have Ht : Hid ((numG k m).take (j + 1) = (numG k m).take j ++ [valG (ell (allG m) j) k]) := hid (take_numG (by rw [← HM.out]; exact hlt))
      have Hhc := hid hch
      clear hc hch
      go_wp2_with fail
      refine (countG_any s _ _ _ (ell (allG m) j) _ hsi (hid (allG_sv hm (by rw [← HM.out]; exact hlt)))).mono ?_
      rintro e w5 ⟨rfl, b5⟩
      rw [← Hk.out]
      have ho5 := ho.below (Nat.le_refl _) b5
      have hc5 := Hhc.out.trans (Chg.of_below (lo := p) (hi := p + 1) b5)
      have hs5 : p ≤ w5.heap.size := by have := b5.size; omega
      have hl2 : w2.heap.size ≤ w5.heap.size := hc5.size
      have Hc5 := hid hc5
      clear hcell hsi hc5 b5
      go_wp2_with (at_builtin; refine app_int2 _ _ rfl _ _ rfl p _ _ rfl ho5 rfl hl hs5 ?_)
      intro u' w' ho' hg' hk'
      have HC' := hid (chg_app Hc5.out hg' (fun q hq => by have h1 := HQ.out q hq; have h2 := (ho5.blocks q hq).1; omega))
      rw [← Ht.out] at ho'
      obtain ⟨ao5, cp5, rfl, -⟩ := ho'.sl
      have hlt' : ((numG k m).take (j + 1)).length = j + 1 := by rw [List.length_take, Hnl.out]; omega
      rw [hlt'] at ho' hk' ⊢
      have HQ' : Hid (∀ q, (Value.slice ao5 (j + 1) cp5).ownBlock = some q → q < p + 1 ∨ w2.heap.size ≤ q) := hid (fun q hq => by
        rcases hk' with e | e
        · exact HQ.out q (e ▸ hq)
        · rw [e] at hq; have := Option.some.inj hq; omega)
      clear hlt' hk' hg' ho5 Hc5
      go_wp2
      go_roundw
      case rel => exact ⟨j + 1, _, _, by omega, rfl, by go_num, HC', ho', HQ'⟩
      case measure => simp [intOf]; omega
    · obtain rfl : j = M := by omega
      rw [List.take_of_length_le (by rw [Hnl.out]; exact Nat.le_refl _)] at ho
      have hbr := hch.below bw2 (by omega) bw2.size
      have Ho2 := hid ho
      clear ho
      go_wp2_with fail
      refine (tallyS_any _ _ _ (numG k m) _ Ho2.out.read Hb (by omega)).mono ?_
      rintro e w6 ⟨u6, rfl, o6, b6⟩
      have Ho6 := hid (o6.mono hbr.size)
      have hb6 := hbr.trans (b6.mono hbr.size)
      clear o6 b6
      go_wp2
      go_ret2
      exact ⟨_, rfl, Ho6.out, hb6⟩

set_option maxRecDepth 20000 in
set_option maxHeartbeats 2000000 in
theorem sgRS_no (s : ByteArray) (m : Int) (w : World) (h : ¬ (ixG s < 4 ∧ 0 ≤ m ∧ m ≤ 3)) :
    Calls Try.prog 23 #[.string s, .int .i64 m] w (Made2 w [] false) := by
  by_cases h4 : ixG s < 4
  · go_enter Try.func23, Try.ntmps23
    go_wp2_with fail
    refine (countG_any s _ _ _ [] _ (own_lit w).read (hid sv_nil)).mono ?_
    rintro e w1 ⟨rfl, b1⟩
    rw [decide_eq_true h4]
    go_wp2_with fail
    refine (inRange_any _ _ _ _).mono ?_
    rintro e w' ⟨rfl, hww⟩
    subst hww
    rw [show decide ((0 : Int) ≤ m ∧ (m : Int) ≤ 3) = false by simp; omega]
    go_wp2
    go_ret2
    exact ⟨_, rfl, Own.nil, ((Below.refl w.heap.size w).alloc (Nat.le_refl _) _).trans (b1.mono (by simp))⟩
  · go_enter Try.func23, Try.ntmps23
    go_wp2_with fail
    refine (countG_any s _ _ _ [] _ (own_lit w).read (hid sv_nil)).mono ?_
    rintro e w1 ⟨rfl, b1⟩
    rw [decide_eq_false h4]
    go_wp2
    go_ret2
    exact ⟨_, rfl, Own.nil, ((Below.refl w.heap.size w).alloc (Nat.le_refl _) _).trans (b1.mono (by simp))⟩

end Go.Proofs.Ytjgaglfinpeeoac
