/- The desk of the program: the answer to a line of a word, a space and a text without spaces. Conditions: at most 2^20 bytes; the library's table of powers of ten holds what its initialiser lays. -/
import Derived.Test.YtaceiebmgnhdgaaGreatDoorDkc
import Derived.Test.YtaceiebmgnhdgaaGreatDoorDkq
import Derived.Test.YtaceiebmgnhdgaaGreatDoorPgi
namespace Go.Proofs.YtaceiebmgnhdgaaGreatDoor
open Go.RowKit

theorem made2_to2 {P : Program} {f : FuncId} {a : Array Value} {w : World} {v v' : List Int} {b b' : Bool} (h : Calls P f a w (Made2 w v b)) (e : v = v') (e2 : b = b') : Calls P f a w (Made2 w v' b') := e ▸ e2 ▸ h

set_option maxRecDepth 20000 in
set_option maxHeartbeats 2000000 in
theorem ask0Y (s t : ByteArray) (w : World) (hs : s.size ≤ 1048576) (ht : t.size ≤ 1048576) (hi : ∃ k, k < s.size ∧ Lib.indexByte s.data.toList 32 = ((k : Nat) : Int) ∧ nm_inversions = s.extract 0 k ∧ t = s.extract (k + 1) s.size) (hsp : Lib.indexByte t.data.toList 32 < 0) (Hv : Hid (Valid (prs t))) (hp : Pow w) :
    Calls Tryz.prog 30 #[.string s] w fun e w' => e = .returned (.tuple #[.string (BA (Lib.itoa (valN (prs t) 0))), .nilIface]) ∧ Below w.heap.size w w' := by
  obtain ⟨V, HV⟩ : ∃ V, Hid (V = BA (Lib.itoa (valN (prs t) 0))) := ⟨_, rfl⟩
  rw [← HV.out]
  have cR : ∀ w, Calls Tryz.prog 66 #[.string t] w (Made2 w (prs t) true) := fun w => made2_to2 (parseI_any t w ht) (onV_yes Hv.out) (decide_eq_true Hv.out)
  go_enter Tryz.func30, Tryz.ntmps30
  go_wp2_with fail
  refine (cut_yes s nm_inversions t _ hs hi).mono ?_
  rintro e w1 ⟨rfl, hb1⟩
  go_wp2_with fail
  refine (qst0_any _).mono ?_
  rintro e w2 ⟨b, rfl, hfn, hb2⟩
  have hb12 := hb1.trans (hb2.mono hb1.size)
  have hW := (Below.refl w2.heap.size w2).alloc (Nat.le_refl _) (.cells #[.func (.func 66) #[] #[], .func (.func 97) #[] #[.pointer (some ⟨b, 0, none⟩)]] 75)
  have hQ : Qst (w2.alloc (.cells #[.func (.func 66) #[] #[], .func (.func 97) #[] #[.pointer (some ⟨b, 0, none⟩)]] 75)) w2.heap.size (.func (.func 66) #[] #[]) (.func (.func 97) #[] #[.pointer (some ⟨b, 0, none⟩)]) := Qst.made w2 _ _
  have hb13 := hb12.trans (hW.mono hb12.size)
  have hfn := hfn.kept hW
  go_wp2_with fail
  refine (says_tob (hasSp_any t _) (decide_eq_false (by omega))).mono ?_
  rintro e w3 ⟨rfl, hb3⟩
  have hQ := hQ.keep hb3
  have hb14 := hb13.trans (hb3.mono hb13.size)
  have hfn := hfn.kept hb3
  have c0 := hQ.cell0
  have c1 := hQ.cell1
  clear hb1 hb2 hb12 hb13 hb3 hW
  go_wp2_with fail
  refine (cR _).mono ?_
  rintro e w4 ⟨u4, rfl, ho4, hb4⟩
  obtain ⟨a4, k4, rfl, s4⟩ := ho4.sl
  obtain ⟨n4, hn4⟩ : ∃ n4, n4 = (prs t).length := ⟨_, rfl⟩
  rw [← hn4] at s4 ⊢
  have hQ := hQ.keep hb4
  have hb15 := hb14.trans (hb4.mono hb14.size)
  have c0 := hQ.cell0
  have c1 := hQ.cell1
  clear hn4 ho4
  have hfn := hfn.kept hb4
  have hp4 := hp.later hb15
  have cA := says_tos (dec0_any b _ _ _ (prs t) _ s4 Hv hfn hp4) HV.out.symm
  go_wp2_with fail
  refine cA.mono ?_
  rintro e w5 ⟨rfl, hb5⟩
  go_wp2
  go_ret2
  exact ⟨rfl, hb15.trans (hb5.mono hb15.size)⟩

set_option maxRecDepth 20000 in
set_option maxHeartbeats 2000000 in
theorem ask0N (s t : ByteArray) (w : World) (hs : s.size ≤ 1048576) (ht : t.size ≤ 1048576) (hi : ∃ k, k < s.size ∧ Lib.indexByte s.data.toList 32 = ((k : Nat) : Int) ∧ nm_inversions = s.extract 0 k ∧ t = s.extract (k + 1) s.size) (hsp : Lib.indexByte t.data.toList 32 < 0) (Hv : Hid (¬ Valid (prs t))) :
    Calls Tryz.prog 30 #[.string s] w fun e w' => e = .returned (.tuple #[.string ⟨#[]⟩, .iface 58 (.agg #[.string t])]) ∧ Below w.heap.size w w' := by
  have cR : ∀ w, Calls Tryz.prog 66 #[.string t] w (Made2 w ([]) false) := fun w => made2_to2 (parseI_any t w ht) (onV_no Hv.out) (decide_eq_false Hv.out)
  go_enter Tryz.func30, Tryz.ntmps30
  go_wp2_with fail
  refine (cut_yes s nm_inversions t _ hs hi).mono ?_
  rintro e w1 ⟨rfl, hb1⟩
  go_wp2_with fail
  refine (qst0_any _).mono ?_
  rintro e w2 ⟨b, rfl, hfn, hb2⟩
  have hb12 := hb1.trans (hb2.mono hb1.size)
  have hW := (Below.refl w2.heap.size w2).alloc (Nat.le_refl _) (.cells #[.func (.func 66) #[] #[], .func (.func 97) #[] #[.pointer (some ⟨b, 0, none⟩)]] 75)
  have hQ : Qst (w2.alloc (.cells #[.func (.func 66) #[] #[], .func (.func 97) #[] #[.pointer (some ⟨b, 0, none⟩)]] 75)) w2.heap.size (.func (.func 66) #[] #[]) (.func (.func 97) #[] #[.pointer (some ⟨b, 0, none⟩)]) := Qst.made w2 _ _
  have hb13 := hb12.trans (hW.mono hb12.size)
  have hfn := hfn.kept hW
  go_wp2_with fail
  refine (says_tob (hasSp_any t _) (decide_eq_false (by omega))).mono ?_
  rintro e w3 ⟨rfl, hb3⟩
  have hQ := hQ.keep hb3
  have hb14 := hb13.trans (hb3.mono hb13.size)
  have hfn := hfn.kept hb3
  have c0 := hQ.cell0
  have c1 := hQ.cell1
  clear hb1 hb2 hb12 hb13 hb3 hW
  go_wp2_with fail
  refine (cR _).mono ?_
  rintro e w4 ⟨u4, rfl, ho4, hb4⟩
  obtain ⟨a4, k4, rfl, s4⟩ := ho4.sl
  obtain ⟨n4, hn4⟩ : ∃ n4, n4 = ([]).length := ⟨_, rfl⟩
  rw [← hn4] at s4 ⊢
  have hQ := hQ.keep hb4
  have hb15 := hb14.trans (hb4.mono hb14.size)
  have c0 := hQ.cell0
  have c1 := hQ.cell1
  clear hn4 ho4
  have hfn := hfn.kept hb4
  go_wp2
  go_ret2
  exact ⟨rfl, hb15⟩

set_option maxRecDepth 20000 in
set_option maxHeartbeats 2000000 in
theorem ask1Y (s t : ByteArray) (w : World) (hs : s.size ≤ 1048576) (ht : t.size ≤ 1048576) (hi : ∃ k, k < s.size ∧ Lib.indexByte s.data.toList 32 = ((k : Nat) : Int) ∧ nm_major = s.extract 0 k ∧ t = s.extract (k + 1) s.size) (hsp : Lib.indexByte t.data.toList 32 < 0) (Hv : Hid (Valid (prs t))) (hp : Pow w) :
    Calls Tryz.prog 30 #[.string s] w fun e w' => e = .returned (.tuple #[.string (BA (Lib.itoa (valN (prs t) 1))), .nilIface]) ∧ Below w.heap.size w w' := by
  obtain ⟨V, HV⟩ : ∃ V, Hid (V = BA (Lib.itoa (valN (prs t) 1))) := ⟨_, rfl⟩
  rw [← HV.out]
  have cR : ∀ w, Calls Tryz.prog 66 #[.string t] w (Made2 w (prs t) true) := fun w => made2_to2 (parseI_any t w ht) (onV_yes Hv.out) (decide_eq_true Hv.out)
  go_enter Tryz.func30, Tryz.ntmps30
  go_wp2_with fail
  refine (cut_yes s nm_major t _ hs hi).mono ?_
  rintro e w1 ⟨rfl, hb1⟩
  go_wp2_with fail
  refine (qst1_any _).mono ?_
  rintro e w2 ⟨b, rfl, hfn, hb2⟩
  have hb12 := hb1.trans (hb2.mono hb1.size)
  have hW := (Below.refl w2.heap.size w2).alloc (Nat.le_refl _) (.cells #[.func (.func 66) #[] #[], .func (.func 97) #[] #[.pointer (some ⟨b, 0, none⟩)]] 75)
  have hQ : Qst (w2.alloc (.cells #[.func (.func 66) #[] #[], .func (.func 97) #[] #[.pointer (some ⟨b, 0, none⟩)]] 75)) w2.heap.size (.func (.func 66) #[] #[]) (.func (.func 97) #[] #[.pointer (some ⟨b, 0, none⟩)]) := Qst.made w2 _ _
  have hb13 := hb12.trans (hW.mono hb12.size)
  have hfn := hfn.kept hW
  go_wp2_with fail
  refine (says_tob (hasSp_any t _) (decide_eq_false (by omega))).mono ?_
  rintro e w3 ⟨rfl, hb3⟩
  have hQ := hQ.keep hb3
  have hb14 := hb13.trans (hb3.mono hb13.size)
  have hfn := hfn.kept hb3
  have c0 := hQ.cell0
  have c1 := hQ.cell1
  clear hb1 hb2 hb12 hb13 hb3 hW
  go_wp2_with fail
  refine (cR _).mono ?_
  rintro e w4 ⟨u4, rfl, ho4, hb4⟩
  obtain ⟨a4, k4, rfl, s4⟩ := ho4.sl
  obtain ⟨n4, hn4⟩ : ∃ n4, n4 = (prs t).length := ⟨_, rfl⟩
  rw [← hn4] at s4 ⊢
  have hQ := hQ.keep hb4
  have hb15 := hb14.trans (hb4.mono hb14.size)
  have c0 := hQ.cell0
  have c1 := hQ.cell1
  clear hn4 ho4
  have hfn := hfn.kept hb4
  have hp4 := hp.later hb15
  have cA := says_tos (dec1_any b _ _ _ (prs t) _ s4 Hv hfn hp4) HV.out.symm
  go_wp2_with fail
  refine cA.mono ?_
  rintro e w5 ⟨rfl, hb5⟩
  go_wp2
  go_ret2
  exact ⟨rfl, hb15.trans (hb5.mono hb15.size)⟩

set_option maxRecDepth 20000 in
set_option maxHeartbeats 2000000 in
theorem ask1N (s t : ByteArray) (w : World) (hs : s.size ≤ 1048576) (ht : t.size ≤ 1048576) (hi : ∃ k, k < s.size ∧ Lib.indexByte s.data.toList 32 = ((k : Nat) : Int) ∧ nm_major = s.extract 0 k ∧ t = s.extract (k + 1) s.size) (hsp : Lib.indexByte t.data.toList 32 < 0) (Hv : Hid (¬ Valid (prs t))) :
    Calls Tryz.prog 30 #[.string s] w fun e w' => e = .returned (.tuple #[.string ⟨#[]⟩, .iface 58 (.agg #[.string t])]) ∧ Below w.heap.size w w' := by
  have cR : ∀ w, Calls Tryz.prog 66 #[.string t] w (Made2 w ([]) false) := fun w => made2_to2 (parseI_any t w ht) (onV_no Hv.out) (decide_eq_false Hv.out)
  go_enter Tryz.func30, Tryz.ntmps30
  go_wp2_with fail
  refine (cut_yes s nm_major t _ hs hi).mono ?_
  rintro e w1 ⟨rfl, hb1⟩
  go_wp2_with fail
  refine (qst1_any _).mono ?_
  rintro e w2 ⟨b, rfl, hfn, hb2⟩
  have hb12 := hb1.trans (hb2.mono hb1.size)
  have hW := (Below.refl w2.heap.size w2).alloc (Nat.le_refl _) (.cells #[.func (.func 66) #[] #[], .func (.func 97) #[] #[.pointer (some ⟨b, 0, none⟩)]] 75)
  have hQ : Qst (w2.alloc (.cells #[.func (.func 66) #[] #[], .func (.func 97) #[] #[.pointer (some ⟨b, 0, none⟩)]] 75)) w2.heap.size (.func (.func 66) #[] #[]) (.func (.func 97) #[] #[.pointer (some ⟨b, 0, none⟩)]) := Qst.made w2 _ _
  have hb13 := hb12.trans (hW.mono hb12.size)
  have hfn := hfn.kept hW
  go_wp2_with fail
  refine (says_tob (hasSp_any t _) (decide_eq_false (by omega))).mono ?_
  rintro e w3 ⟨rfl, hb3⟩
  have hQ := hQ.keep hb3
  have hb14 := hb13.trans (hb3.mono hb13.size)
  have hfn := hfn.kept hb3
  have c0 := hQ.cell0
  have c1 := hQ.cell1
  clear hb1 hb2 hb12 hb13 hb3 hW
  go_wp2_with fail
  refine (cR _).mono ?_
  rintro e w4 ⟨u4, rfl, ho4, hb4⟩
  obtain ⟨a4, k4, rfl, s4⟩ := ho4.sl
  obtain ⟨n4, hn4⟩ : ∃ n4, n4 = ([]).length := ⟨_, rfl⟩
  rw [← hn4] at s4 ⊢
  have hQ := hQ.keep hb4
  have hb15 := hb14.trans (hb4.mono hb14.size)
  have c0 := hQ.cell0
  have c1 := hQ.cell1
  clear hn4 ho4
  have hfn := hfn.kept hb4
  go_wp2
  go_ret2
  exact ⟨rfl, hb15⟩

set_option maxRecDepth 20000 in
set_option maxHeartbeats 2000000 in
theorem ask2Y (s t : ByteArray) (w : World) (hs : s.size ≤ 1048576) (ht : t.size ≤ 1048576) (hi : ∃ k, k < s.size ∧ Lib.indexByte s.data.toList 32 = ((k : Nat) : Int) ∧ nm_denert = s.extract 0 k ∧ t = s.extract (k + 1) s.size) (hsp : Lib.indexByte t.data.toList 32 < 0) (Hv : Hid (Valid (prs t))) (hp : Pow w) :
    Calls Tryz.prog 30 #[.string s] w fun e w' => e = .returned (.tuple #[.string (BA (Lib.itoa (valN (prs t) 2))), .nilIface]) ∧ Below w.heap.size w w' := by
  obtain ⟨V, HV⟩ : ∃ V, Hid (V = BA (Lib.itoa (valN (prs t) 2))) := ⟨_, rfl⟩
  rw [← HV.out]
  have cR : ∀ w, Calls Tryz.prog 66 #[.string t] w (Made2 w (prs t) true) := fun w => made2_to2 (parseI_any t w ht) (onV_yes Hv.out) (decide_eq_true Hv.out)
  go_enter Tryz.func30, Tryz.ntmps30
  go_wp2_with fail
  refine (cut_yes s nm_denert t _ hs hi).mono ?_
  rintro e w1 ⟨rfl, hb1⟩
  go_wp2_with fail
  refine (qst2_any _).mono ?_
  rintro e w2 ⟨b, rfl, hfn, hb2⟩
  have hb12 := hb1.trans (hb2.mono hb1.size)
  have hW := (Below.refl w2.heap.size w2).alloc (Nat.le_refl _) (.cells #[.func (.func 66) #[] #[], .func (.func 97) #[] #[.pointer (some ⟨b, 0, none⟩)]] 75)
  have hQ : Qst (w2.alloc (.cells #[.func (.func 66) #[] #[], .func (.func 97) #[] #[.pointer (some ⟨b, 0, none⟩)]] 75)) w2.heap.size (.func (.func 66) #[] #[]) (.func (.func 97) #[] #[.pointer (some ⟨b, 0, none⟩)]) := Qst.made w2 _ _
  have hb13 := hb12.trans (hW.mono hb12.size)
  have hfn := hfn.kept hW
  go_wp2_with fail
  refine (says_tob (hasSp_any t _) (decide_eq_false (by omega))).mono ?_
  rintro e w3 ⟨rfl, hb3⟩
  have hQ := hQ.keep hb3
  have hb14 := hb13.trans (hb3.mono hb13.size)
  have hfn := hfn.kept hb3
  have c0 := hQ.cell0
  have c1 := hQ.cell1
  clear hb1 hb2 hb12 hb13 hb3 hW
  go_wp2_with fail
  refine (cR _).mono ?_
  rintro e w4 ⟨u4, rfl, ho4, hb4⟩
  obtain ⟨a4, k4, rfl, s4⟩ := ho4.sl
  obtain ⟨n4, hn4⟩ : ∃ n4, n4 = (prs t).length := ⟨_, rfl⟩
  rw [← hn4] at s4 ⊢
  have hQ := hQ.keep hb4
  have hb15 := hb14.trans (hb4.mono hb14.size)
  have c0 := hQ.cell0
  have c1 := hQ.cell1
  clear hn4 ho4
  have hfn := hfn.kept hb4
  have hp4 := hp.later hb15
  have cA := says_tos (dec2_any b _ _ _ (prs t) _ s4 Hv hfn hp4) HV.out.symm
  go_wp2_with fail
  refine cA.mono ?_
  rintro e w5 ⟨rfl, hb5⟩
  go_wp2
  go_ret2
  exact ⟨rfl, hb15.trans (hb5.mono hb15.size)⟩

set_option maxRecDepth 20000 in
set_option maxHeartbeats 2000000 in
theorem ask2N (s t : ByteArray) (w : World) (hs : s.size ≤ 1048576) (ht : t.size ≤ 1048576) (hi : ∃ k, k < s.size ∧ Lib.indexByte s.data.toList 32 = ((k : Nat) : Int) ∧ nm_denert = s.extract 0 k ∧ t = s.extract (k + 1) s.size) (hsp : Lib.indexByte t.data.toList 32 < 0) (Hv : Hid (¬ Valid (prs t))) :
    Calls Tryz.prog 30 #[.string s] w fun e w' => e = .returned (.tuple #[.string ⟨#[]⟩, .iface 58 (.agg #[.string t])]) ∧ Below w.heap.size w w' := by
  have cR : ∀ w, Calls Tryz.prog 66 #[.string t] w (Made2 w ([]) false) := fun w => made2_to2 (parseI_any t w ht) (onV_no Hv.out) (decide_eq_false Hv.out)
  go_enter Tryz.func30, Tryz.ntmps30
  go_wp2_with fail
  refine (cut_yes s nm_denert t _ hs hi).mono ?_
  rintro e w1 ⟨rfl, hb1⟩
  go_wp2_with fail
  refine (qst2_any _).mono ?_
  rintro e w2 ⟨b, rfl, hfn, hb2⟩
  have hb12 := hb1.trans (hb2.mono hb1.size)
  have hW := (Below.refl w2.heap.size w2).alloc (Nat.le_refl _) (.cells #[.func (.func 66) #[] #[], .func (.func 97) #[] #[.pointer (some ⟨b, 0, none⟩)]] 75)
  have hQ : Qst (w2.alloc (.cells #[.func (.func 66) #[] #[], .func (.func 97) #[] #[.pointer (some ⟨b, 0, none⟩)]] 75)) w2.heap.size (.func (.func 66) #[] #[]) (.func (.func 97) #[] #[.pointer (some ⟨b, 0, none⟩)]) := Qst.made w2 _ _
  have hb13 := hb12.trans (hW.mono hb12.size)
  have hfn := hfn.kept hW
  go_wp2_with fail
  refine (says_tob (hasSp_any t _) (decide_eq_false (by omega))).mono ?_
  rintro e w3 ⟨rfl, hb3⟩
  have hQ := hQ.keep hb3
  have hb14 := hb13.trans (hb3.mono hb13.size)
  have hfn := hfn.kept hb3
  have c0 := hQ.cell0
  have c1 := hQ.cell1
  clear hb1 hb2 hb12 hb13 hb3 hW
  go_wp2_with fail
  refine (cR _).mono ?_
  rintro e w4 ⟨u4, rfl, ho4, hb4⟩
  obtain ⟨a4, k4, rfl, s4⟩ := ho4.sl
  obtain ⟨n4, hn4⟩ : ∃ n4, n4 = ([]).length := ⟨_, rfl⟩
  rw [← hn4] at s4 ⊢
  have hQ := hQ.keep hb4
  have hb15 := hb14.trans (hb4.mono hb14.size)
  have c0 := hQ.cell0
  have c1 := hQ.cell1
  clear hn4 ho4
  have hfn := hfn.kept hb4
  go_wp2
  go_ret2
  exact ⟨rfl, hb15⟩

set_option maxRecDepth 20000 in
set_option maxHeartbeats 2000000 in
theorem ask3Y (s t : ByteArray) (w : World) (hs : s.size ≤ 1048576) (ht : t.size ≤ 1048576) (hi : ∃ k, k < s.size ∧ Lib.indexByte s.data.toList 32 = ((k : Nat) : Int) ∧ nm_crossings = s.extract 0 k ∧ t = s.extract (k + 1) s.size) (hsp : Lib.indexByte t.data.toList 32 < 0) (Hv : Hid (Valid (prs t))) (hp : Pow w) :
    Calls Tryz.prog 30 #[.string s] w fun e w' => e = .returned (.tuple #[.string (BA (Lib.itoa (valN (prs t) 3))), .nilIface]) ∧ Below w.heap.size w w' := by
  obtain ⟨V, HV⟩ : ∃ V, Hid (V = BA (Lib.itoa (valN (prs t) 3))) := ⟨_, rfl⟩
  rw [← HV.out]
  have cR : ∀ w, Calls Tryz.prog 66 #[.string t] w (Made2 w (prs t) true) := fun w => made2_to2 (parseI_any t w ht) (onV_yes Hv.out) (decide_eq_true Hv.out)
  go_enter Tryz.func30, Tryz.ntmps30
  go_wp2_with fail
  refine (cut_yes s nm_crossings t _ hs hi).mono ?_
  rintro e w1 ⟨rfl, hb1⟩
  go_wp2_with fail
  refine (qst3_any _).mono ?_
  rintro e w2 ⟨b, rfl, hfn, hb2⟩
  have hb12 := hb1.trans (hb2.mono hb1.size)
  have hW := (Below.refl w2.heap.size w2).alloc (Nat.le_refl _) (.cells #[.func (.func 66) #[] #[], .func (.func 97) #[] #[.pointer (some ⟨b, 0, none⟩)]] 75)
  have hQ : Qst (w2.alloc (.cells #[.func (.func 66) #[] #[], .func (.func 97) #[] #[.pointer (some ⟨b, 0, none⟩)]] 75)) w2.heap.size (.func (.func 66) #[] #[]) (.func (.func 97) #[] #[.pointer (some ⟨b, 0, none⟩)]) := Qst.made w2 _ _
  have hb13 := hb12.trans (hW.mono hb12.size)
  have hfn := hfn.kept hW
  go_wp2_with fail
  refine (says_tob (hasSp_any t _) (decide_eq_false (by omega))).mono ?_
  rintro e w3 ⟨rfl, hb3⟩
  have hQ := hQ.keep hb3
  have hb14 := hb13.trans (hb3.mono hb13.size)
  have hfn := hfn.kept hb3
  have c0 := hQ.cell0
  have c1 := hQ.cell1
  clear hb1 hb2 hb12 hb13 hb3 hW
  go_wp2_with fail
  refine (cR _).mono ?_
  rintro e w4 ⟨u4, rfl, ho4, hb4⟩
  obtain ⟨a4, k4, rfl, s4⟩ := ho4.sl
  obtain ⟨n4, hn4⟩ : ∃ n4, n4 = (prs t).length := ⟨_, rfl⟩
  rw [← hn4] at s4 ⊢
  have hQ := hQ.keep hb4
  have hb15 := hb14.trans (hb4.mono hb14.size)
  have c0 := hQ.cell0
  have c1 := hQ.cell1
  clear hn4 ho4
  have hfn := hfn.kept hb4
  have hp4 := hp.later hb15
  have cA := says_tos (dec3_any b _ _ _ (prs t) _ s4 Hv hfn hp4) HV.out.symm
  go_wp2_with fail
  refine cA.mono ?_
  rintro e w5 ⟨rfl, hb5⟩
  go_wp2
  go_ret2
  exact ⟨rfl, hb15.trans (hb5.mono hb15.size)⟩

set_option maxRecDepth 20000 in
set_option maxHeartbeats 2000000 in
theorem ask3N (s t : ByteArray) (w : World) (hs : s.size ≤ 1048576) (ht : t.size ≤ 1048576) (hi : ∃ k, k < s.size ∧ Lib.indexByte s.data.toList 32 = ((k : Nat) : Int) ∧ nm_crossings = s.extract 0 k ∧ t = s.extract (k + 1) s.size) (hsp : Lib.indexByte t.data.toList 32 < 0) (Hv : Hid (¬ Valid (prs t))) :
    Calls Tryz.prog 30 #[.string s] w fun e w' => e = .returned (.tuple #[.string ⟨#[]⟩, .iface 58 (.agg #[.string t])]) ∧ Below w.heap.size w w' := by
  have cR : ∀ w, Calls Tryz.prog 66 #[.string t] w (Made2 w ([]) false) := fun w => made2_to2 (parseI_any t w ht) (onV_no Hv.out) (decide_eq_false Hv.out)
  go_enter Tryz.func30, Tryz.ntmps30
  go_wp2_with fail
  refine (cut_yes s nm_crossings t _ hs hi).mono ?_
  rintro e w1 ⟨rfl, hb1⟩
  go_wp2_with fail
  refine (qst3_any _).mono ?_
  rintro e w2 ⟨b, rfl, hfn, hb2⟩
  have hb12 := hb1.trans (hb2.mono hb1.size)
  have hW := (Below.refl w2.heap.size w2).alloc (Nat.le_refl _) (.cells #[.func (.func 66) #[] #[], .func (.func 97) #[] #[.pointer (some ⟨b, 0, none⟩)]] 75)
  have hQ : Qst (w2.alloc (.cells #[.func (.func 66) #[] #[], .func (.func 97) #[] #[.pointer (some ⟨b, 0, none⟩)]] 75)) w2.heap.size (.func (.func 66) #[] #[]) (.func (.func 97) #[] #[.pointer (some ⟨b, 0, none⟩)]) := Qst.made w2 _ _
  have hb13 := hb12.trans (hW.mono hb12.size)
  have hfn := hfn.kept hW
  go_wp2_with fail
  refine (says_tob (hasSp_any t _) (decide_eq_false (by omega))).mono ?_
  rintro e w3 ⟨rfl, hb3⟩
  have hQ := hQ.keep hb3
  have hb14 := hb13.trans (hb3.mono hb13.size)
  have hfn := hfn.kept hb3
  have c0 := hQ.cell0
  have c1 := hQ.cell1
  clear hb1 hb2 hb12 hb13 hb3 hW
  go_wp2_with fail
  refine (cR _).mono ?_
  rintro e w4 ⟨u4, rfl, ho4, hb4⟩
  obtain ⟨a4, k4, rfl, s4⟩ := ho4.sl
  obtain ⟨n4, hn4⟩ : ∃ n4, n4 = ([]).length := ⟨_, rfl⟩
  rw [← hn4] at s4 ⊢
  have hQ := hQ.keep hb4
  have hb15 := hb14.trans (hb4.mono hb14.size)
  have c0 := hQ.cell0
  have c1 := hQ.cell1
  clear hn4 ho4
  have hfn := hfn.kept hb4
  go_wp2
  go_ret2
  exact ⟨rfl, hb15⟩

set_option maxRecDepth 20000 in
set_option maxHeartbeats 2000000 in
theorem ask4Y (s t : ByteArray) (w : World) (hs : s.size ≤ 1048576) (ht : t.size ≤ 1048576) (hi : ∃ k, k < s.size ∧ Lib.indexByte s.data.toList 32 = ((k : Nat) : Int) ∧ nm_nestings = s.extract 0 k ∧ t = s.extract (k + 1) s.size) (hsp : Lib.indexByte t.data.toList 32 < 0) (Hv : Hid (Valid (prs t))) (hp : Pow w) :
    Calls Tryz.prog 30 #[.string s] w fun e w' => e = .returned (.tuple #[.string (BA (Lib.itoa (valN (prs t) 4))), .nilIface]) ∧ Below w.heap.size w w' := by
  obtain ⟨V, HV⟩ : ∃ V, Hid (V = BA (Lib.itoa (valN (prs t) 4))) := ⟨_, rfl⟩
  rw [← HV.out]
  have cR : ∀ w, Calls Tryz.prog 66 #[.string t] w (Made2 w (prs t) true) := fun w => made2_to2 (parseI_any t w ht) (onV_yes Hv.out) (decide_eq_true Hv.out)
  go_enter Tryz.func30, Tryz.ntmps30
  go_wp2_with fail
  refine (cut_yes s nm_nestings t _ hs hi).mono ?_
  rintro e w1 ⟨rfl, hb1⟩
  go_wp2_with fail
  refine (qst4_any _).mono ?_
  rintro e w2 ⟨b, rfl, hfn, hb2⟩
  have hb12 := hb1.trans (hb2.mono hb1.size)
  have hW := (Below.refl w2.heap.size w2).alloc (Nat.le_refl _) (.cells #[.func (.func 66) #[] #[], .func (.func 97) #[] #[.pointer (some ⟨b, 0, none⟩)]] 75)
  have hQ : Qst (w2.alloc (.cells #[.func (.func 66) #[] #[], .func (.func 97) #[] #[.pointer (some ⟨b, 0, none⟩)]] 75)) w2.heap.size (.func (.func 66) #[] #[]) (.func (.func 97) #[] #[.pointer (some ⟨b, 0, none⟩)]) := Qst.made w2 _ _
  have hb13 := hb12.trans (hW.mono hb12.size)
  have hfn := hfn.kept hW
  go_wp2_with fail
  refine (says_tob (hasSp_any t _) (decide_eq_false (by omega))).mono ?_
  rintro e w3 ⟨rfl, hb3⟩
  have hQ := hQ.keep hb3
  have hb14 := hb13.trans (hb3.mono hb13.size)
  have hfn := hfn.kept hb3
  have c0 := hQ.cell0
  have c1 := hQ.cell1
  clear hb1 hb2 hb12 hb13 hb3 hW
  go_wp2_with fail
  refine (cR _).mono ?_
  rintro e w4 ⟨u4, rfl, ho4, hb4⟩
  obtain ⟨a4, k4, rfl, s4⟩ := ho4.sl
  obtain ⟨n4, hn4⟩ : ∃ n4, n4 = (prs t).length := ⟨_, rfl⟩
  rw [← hn4] at s4 ⊢
  have hQ := hQ.keep hb4
  have hb15 := hb14.trans (hb4.mono hb14.size)
  have c0 := hQ.cell0
  have c1 := hQ.cell1
  clear hn4 ho4
  have hfn := hfn.kept hb4
  have hp4 := hp.later hb15
  have cA := says_tos (dec4_any b _ _ _ (prs t) _ s4 Hv hfn hp4) HV.out.symm
  go_wp2_with fail
  refine cA.mono ?_
  rintro e w5 ⟨rfl, hb5⟩
  go_wp2
  go_ret2
  exact ⟨rfl, hb15.trans (hb5.mono hb15.size)⟩

set_option maxRecDepth 20000 in
set_option maxHeartbeats 2000000 in
theorem ask4N (s t : ByteArray) (w : World) (hs : s.size ≤ 1048576) (ht : t.size ≤ 1048576) (hi : ∃ k, k < s.size ∧ Lib.indexByte s.data.toList 32 = ((k : Nat) : Int) ∧ nm_nestings = s.extract 0 k ∧ t = s.extract (k + 1) s.size) (hsp : Lib.indexByte t.data.toList 32 < 0) (Hv : Hid (¬ Valid (prs t))) :
    Calls Tryz.prog 30 #[.string s] w fun e w' => e = .returned (.tuple #[.string ⟨#[]⟩, .iface 58 (.agg #[.string t])]) ∧ Below w.heap.size w w' := by
  have cR : ∀ w, Calls Tryz.prog 66 #[.string t] w (Made2 w ([]) false) := fun w => made2_to2 (parseI_any t w ht) (onV_no Hv.out) (decide_eq_false Hv.out)
  go_enter Tryz.func30, Tryz.ntmps30
  go_wp2_with fail
  refine (cut_yes s nm_nestings t _ hs hi).mono ?_
  rintro e w1 ⟨rfl, hb1⟩
  go_wp2_with fail
  refine (qst4_any _).mono ?_
  rintro e w2 ⟨b, rfl, hfn, hb2⟩
  have hb12 := hb1.trans (hb2.mono hb1.size)
  have hW := (Below.refl w2.heap.size w2).alloc (Nat.le_refl _) (.cells #[.func (.func 66) #[] #[], .func (.func 97) #[] #[.pointer (some ⟨b, 0, none⟩)]] 75)
  have hQ : Qst (w2.alloc (.cells #[.func (.func 66) #[] #[], .func (.func 97) #[] #[.pointer (some ⟨b, 0, none⟩)]] 75)) w2.heap.size (.func (.func 66) #[] #[]) (.func (.func 97) #[] #[.pointer (some ⟨b, 0, none⟩)]) := Qst.made w2 _ _
  have hb13 := hb12.trans (hW.mono hb12.size)
  have hfn := hfn.kept hW
  go_wp2_with fail
  refine (says_tob (hasSp_any t _) (decide_eq_false (by omega))).mono ?_
  rintro e w3 ⟨rfl, hb3⟩
  have hQ := hQ.keep hb3
  have hb14 := hb13.trans (hb3.mono hb13.size)
  have hfn := hfn.kept hb3
  have c0 := hQ.cell0
  have c1 := hQ.cell1
  clear hb1 hb2 hb12 hb13 hb3 hW
  go_wp2_with fail
  refine (cR _).mono ?_
  rintro e w4 ⟨u4, rfl, ho4, hb4⟩
  obtain ⟨a4, k4, rfl, s4⟩ := ho4.sl
  obtain ⟨n4, hn4⟩ : ∃ n4, n4 = ([]).length := ⟨_, rfl⟩
  rw [← hn4] at s4 ⊢
  have hQ := hQ.keep hb4
  have hb15 := hb14.trans (hb4.mono hb14.size)
  have c0 := hQ.cell0
  have c1 := hQ.cell1
  clear hn4 ho4
  have hfn := hfn.kept hb4
  go_wp2
  go_ret2
  exact ⟨rfl, hb15⟩

set_option maxRecDepth 20000 in
set_option maxHeartbeats 2000000 in
theorem ask5Y (s t : ByteArray) (w : World) (hs : s.size ≤ 1048576) (ht : t.size ≤ 1048576) (hi : ∃ k, k < s.size ∧ Lib.indexByte s.data.toList 32 = ((k : Nat) : Int) ∧ nm_descents = s.extract 0 k ∧ t = s.extract (k + 1) s.size) (hsp : Lib.indexByte t.data.toList 32 < 0) (Hv : Hid (Valid (prs t))) (hp : Pow w) :
    Calls Tryz.prog 30 #[.string s] w fun e w' => e = .returned (.tuple #[.string (BA (Lib.itoa (valN (prs t) 5))), .nilIface]) ∧ Below w.heap.size w w' := by
  obtain ⟨V, HV⟩ : ∃ V, Hid (V = BA (Lib.itoa (valN (prs t) 5))) := ⟨_, rfl⟩
  rw [← HV.out]
  have cR : ∀ w, Calls Tryz.prog 66 #[.string t] w (Made2 w (prs t) true) := fun w => made2_to2 (parseI_any t w ht) (onV_yes Hv.out) (decide_eq_true Hv.out)
  go_enter Tryz.func30, Tryz.ntmps30
  go_wp2_with fail
  refine (cut_yes s nm_descents t _ hs hi).mono ?_
  rintro e w1 ⟨rfl, hb1⟩
  go_wp2_with fail
  refine (qst5_any _).mono ?_
  rintro e w2 ⟨b, c, rfl, hfn, hbx, hb2⟩
  have hb12 := hb1.trans (hb2.mono hb1.size)
  have hW := (Below.refl w2.heap.size w2).alloc (Nat.le_refl _) (.cells #[.func (.func 66) #[] #[], .func (.func 97) #[] #[.pointer (some ⟨b, 0, none⟩)]] 75)
  have hQ : Qst (w2.alloc (.cells #[.func (.func 66) #[] #[], .func (.func 97) #[] #[.pointer (some ⟨b, 0, none⟩)]] 75)) w2.heap.size (.func (.func 66) #[] #[]) (.func (.func 97) #[] #[.pointer (some ⟨b, 0, none⟩)]) := Qst.made w2 _ _
  have hb13 := hb12.trans (hW.mono hb12.size)
  have hfn := hfn.kept hW
  have hbx := hbx.kept hW
  go_wp2_with fail
  refine (says_tob (hasSp_any t _) (decide_eq_false (by omega))).mono ?_
  rintro e w3 ⟨rfl, hb3⟩
  have hQ := hQ.keep hb3
  have hb14 := hb13.trans (hb3.mono hb13.size)
  have hfn := hfn.kept hb3
  have hbx := hbx.kept hb3
  have c0 := hQ.cell0
  have c1 := hQ.cell1
  clear hb1 hb2 hb12 hb13 hb3 hW
  go_wp2_with fail
  refine (cR _).mono ?_
  rintro e w4 ⟨u4, rfl, ho4, hb4⟩
  obtain ⟨a4, k4, rfl, s4⟩ := ho4.sl
  obtain ⟨n4, hn4⟩ : ∃ n4, n4 = (prs t).length := ⟨_, rfl⟩
  rw [← hn4] at s4 ⊢
  have hQ := hQ.keep hb4
  have hb15 := hb14.trans (hb4.mono hb14.size)
  have c0 := hQ.cell0
  have c1 := hQ.cell1
  clear hn4 ho4
  have hfn := hfn.kept hb4
  have hbx := hbx.kept hb4
  have hp4 := hp.later hb15
  have cA := says_tos (dec5_any b c _ _ _ (prs t) _ s4 Hv hfn hbx hp4) HV.out.symm
  go_wp2_with fail
  refine cA.mono ?_
  rintro e w5 ⟨rfl, hb5⟩
  go_wp2
  go_ret2
  exact ⟨rfl, hb15.trans (hb5.mono hb15.size)⟩

set_option maxRecDepth 20000 in
set_option maxHeartbeats 2000000 in
theorem ask5N (s t : ByteArray) (w : World) (hs : s.size ≤ 1048576) (ht : t.size ≤ 1048576) (hi : ∃ k, k < s.size ∧ Lib.indexByte s.data.toList 32 = ((k : Nat) : Int) ∧ nm_descents = s.extract 0 k ∧ t = s.extract (k + 1) s.size) (hsp : Lib.indexByte t.data.toList 32 < 0) (Hv : Hid (¬ Valid (prs t))) :
    Calls Tryz.prog 30 #[.string s] w fun e w' => e = .returned (.tuple #[.string ⟨#[]⟩, .iface 58 (.agg #[.string t])]) ∧ Below w.heap.size w w' := by
  have cR : ∀ w, Calls Tryz.prog 66 #[.string t] w (Made2 w ([]) false) := fun w => made2_to2 (parseI_any t w ht) (onV_no Hv.out) (decide_eq_false Hv.out)
  go_enter Tryz.func30, Tryz.ntmps30
  go_wp2_with fail
  refine (cut_yes s nm_descents t _ hs hi).mono ?_
  rintro e w1 ⟨rfl, hb1⟩
  go_wp2_with fail
  refine (qst5_any _).mono ?_
  rintro e w2 ⟨b, c, rfl, hfn, hbx, hb2⟩
  have hb12 := hb1.trans (hb2.mono hb1.size)
  have hW := (Below.refl w2.heap.size w2).alloc (Nat.le_refl _) (.cells #[.func (.func 66) #[] #[], .func (.func 97) #[] #[.pointer (some ⟨b, 0, none⟩)]] 75)
  have hQ : Qst (w2.alloc (.cells #[.func (.func 66) #[] #[], .func (.func 97) #[] #[.pointer (some ⟨b, 0, none⟩)]] 75)) w2.heap.size (.func (.func 66) #[] #[]) (.func (.func 97) #[] #[.pointer (some ⟨b, 0, none⟩)]) := Qst.made w2 _ _
  have hb13 := hb12.trans (hW.mono hb12.size)
  have hfn := hfn.kept hW
  have hbx := hbx.kept hW
  go_wp2_with fail
  refine (says_tob (hasSp_any t _) (decide_eq_false (by omega))).mono ?_
  rintro e w3 ⟨rfl, hb3⟩
  have hQ := hQ.keep hb3
  have hb14 := hb13.trans (hb3.mono hb13.size)
  have hfn := hfn.kept hb3
  have hbx := hbx.kept hb3
  have c0 := hQ.cell0
  have c1 := hQ.cell1
  clear hb1 hb2 hb12 hb13 hb3 hW
  go_wp2_with fail
  refine (cR _).mono ?_
  rintro e w4 ⟨u4, rfl, ho4, hb4⟩
  obtain ⟨a4, k4, rfl, s4⟩ := ho4.sl
  obtain ⟨n4, hn4⟩ : ∃ n4, n4 = ([]).length := ⟨_, rfl⟩
  rw [← hn4] at s4 ⊢
  have hQ := hQ.keep hb4
  have hb15 := hb14.trans (hb4.mono hb14.size)
  have c0 := hQ.cell0
  have c1 := hQ.cell1
  clear hn4 ho4
  have hfn := hfn.kept hb4
  have hbx := hbx.kept hb4
  go_wp2
  go_ret2
  exact ⟨rfl, hb15⟩

set_option maxRecDepth 20000 in
set_option maxHeartbeats 2000000 in
theorem ask6Y (s t : ByteArray) (w : World) (hs : s.size ≤ 1048576) (ht : t.size ≤ 1048576) (hi : ∃ k, k < s.size ∧ Lib.indexByte s.data.toList 32 = ((k : Nat) : Int) ∧ nm_above = s.extract 0 k ∧ t = s.extract (k + 1) s.size) (hsp : Lib.indexByte t.data.toList 32 < 0) (Hv : Hid (Valid (prs t))) (hp : Pow w) :
    Calls Tryz.prog 30 #[.string s] w fun e w' => e = .returned (.tuple #[.string (BA (Lib.itoa (valN (prs t) 6))), .nilIface]) ∧ Below w.heap.size w w' := by
  obtain ⟨V, HV⟩ : ∃ V, Hid (V = BA (Lib.itoa (valN (prs t) 6))) := ⟨_, rfl⟩
  rw [← HV.out]
  have cR : ∀ w, Calls Tryz.prog 66 #[.string t] w (Made2 w (prs t) true) := fun w => made2_to2 (parseI_any t w ht) (onV_yes Hv.out) (decide_eq_true Hv.out)
  go_enter Tryz.func30, Tryz.ntmps30
  go_wp2_with fail
  refine (cut_yes s nm_above t _ hs hi).mono ?_
  rintro e w1 ⟨rfl, hb1⟩
  go_wp2_with fail
  refine (qst6_any _).mono ?_
  rintro e w2 ⟨b, c, rfl, hfn, hbx, hb2⟩
  have hb12 := hb1.trans (hb2.mono hb1.size)
  have hW := (Below.refl w2.heap.size w2).alloc (Nat.le_refl _) (.cells #[.func (.func 66) #[] #[], .func (.func 97) #[] #[.pointer (some ⟨b, 0, none⟩)]] 75)
  have hQ : Qst (w2.alloc (.cells #[.func (.func 66) #[] #[], .func (.func 97) #[] #[.pointer (some ⟨b, 0, none⟩)]] 75)) w2.heap.size (.func (.func 66) #[] #[]) (.func (.func 97) #[] #[.pointer (some ⟨b, 0, none⟩)]) := Qst.made w2 _ _
  have hb13 := hb12.trans (hW.mono hb12.size)
  have hfn := hfn.kept hW
  have hbx := hbx.kept hW
  go_wp2_with fail
  refine (says_tob (hasSp_any t _) (decide_eq_false (by omega))).mono ?_
  rintro e w3 ⟨rfl, hb3⟩
  have hQ := hQ.keep hb3
  have hb14 := hb13.trans (hb3.mono hb13.size)
  have hfn := hfn.kept hb3
  have hbx := hbx.kept hb3
  have c0 := hQ.cell0
  have c1 := hQ.cell1
  clear hb1 hb2 hb12 hb13 hb3 hW
  go_wp2_with fail
  refine (cR _).mono ?_
  rintro e w4 ⟨u4, rfl, ho4, hb4⟩
  obtain ⟨a4, k4, rfl, s4⟩ := ho4.sl
  obtain ⟨n4, hn4⟩ : ∃ n4, n4 = (prs t).length := ⟨_, rfl⟩
  rw [← hn4] at s4 ⊢
  have hQ := hQ.keep hb4
  have hb15 := hb14.trans (hb4.mono hb14.size)
  have c0 := hQ.cell0
  have c1 := hQ.cell1
  clear hn4 ho4
  have hfn := hfn.kept hb4
  have hbx := hbx.kept hb4
  have hp4 := hp.later hb15
  have cA := says_tos (dec6_any b c _ _ _ (prs t) _ s4 Hv hfn hbx hp4) HV.out.symm
  go_wp2_with fail
  refine cA.mono ?_
  rintro e w5 ⟨rfl, hb5⟩
  go_wp2
  go_ret2
  exact ⟨rfl, hb15.trans (hb5.mono hb15.size)⟩

set_option maxRecDepth 20000 in
set_option maxHeartbeats 2000000 in
theorem ask6N (s t : ByteArray) (w : World) (hs : s.size ≤ 1048576) (ht : t.size ≤ 1048576) (hi : ∃ k, k < s.size ∧ Lib.indexByte s.data.toList 32 = ((k : Nat) : Int) ∧ nm_above = s.extract 0 k ∧ t = s.extract (k + 1) s.size) (hsp : Lib.indexByte t.data.toList 32 < 0) (Hv : Hid (¬ Valid (prs t))) :
    Calls Tryz.prog 30 #[.string s] w fun e w' => e = .returned (.tuple #[.string ⟨#[]⟩, .iface 58 (.agg #[.string t])]) ∧ Below w.heap.size w w' := by
  have cR : ∀ w, Calls Tryz.prog 66 #[.string t] w (Made2 w ([]) false) := fun w => made2_to2 (parseI_any t w ht) (onV_no Hv.out) (decide_eq_false Hv.out)
  go_enter Tryz.func30, Tryz.ntmps30
  go_wp2_with fail
  refine (cut_yes s nm_above t _ hs hi).mono ?_
  rintro e w1 ⟨rfl, hb1⟩
  go_wp2_with fail
  refine (qst6_any _).mono ?_
  rintro e w2 ⟨b, c, rfl, hfn, hbx, hb2⟩
  have hb12 := hb1.trans (hb2.mono hb1.size)
  have hW := (Below.refl w2.heap.size w2).alloc (Nat.le_refl _) (.cells #[.func (.func 66) #[] #[], .func (.func 97) #[] #[.pointer (some ⟨b, 0, none⟩)]] 75)
  have hQ : Qst (w2.alloc (.cells #[.func (.func 66) #[] #[], .func (.func 97) #[] #[.pointer (some ⟨b, 0, none⟩)]] 75)) w2.heap.size (.func (.func 66) #[] #[]) (.func (.func 97) #[] #[.pointer (some ⟨b, 0, none⟩)]) := Qst.made w2 _ _
  have hb13 := hb12.trans (hW.mono hb12.size)
  have hfn := hfn.kept hW
  have hbx := hbx.kept hW
  go_wp2_with fail
  refine (says_tob (hasSp_any t _) (decide_eq_false (by omega))).mono ?_
  rintro e w3 ⟨rfl, hb3⟩
  have hQ := hQ.keep hb3
  have hb14 := hb13.trans (hb3.mono hb13.size)
  have hfn := hfn.kept hb3
  have hbx := hbx.kept hb3
  have c0 := hQ.cell0
  have c1 := hQ.cell1
  clear hb1 hb2 hb12 hb13 hb3 hW
  go_wp2_with fail
  refine (cR _).mono ?_
  rintro e w4 ⟨u4, rfl, ho4, hb4⟩
  obtain ⟨a4, k4, rfl, s4⟩ := ho4.sl
  obtain ⟨n4, hn4⟩ : ∃ n4, n4 = ([]).length := ⟨_, rfl⟩
  rw [← hn4] at s4 ⊢
  have hQ := hQ.keep hb4
  have hb15 := hb14.trans (hb4.mono hb14.size)
  have c0 := hQ.cell0
  have c1 := hQ.cell1
  clear hn4 ho4
  have hfn := hfn.kept hb4
  have hbx := hbx.kept hb4
  go_wp2
  go_ret2
  exact ⟨rfl, hb15⟩

set_option maxRecDepth 20000 in
set_option maxHeartbeats 2000000 in
theorem ask7Y (s t : ByteArray) (w : World) (hs : s.size ≤ 1048576) (ht : t.size ≤ 1048576) (hi : ∃ k, k < s.size ∧ Lib.indexByte s.data.toList 32 = ((k : Nat) : Int) ∧ nm_records = s.extract 0 k ∧ t = s.extract (k + 1) s.size) (hsp : Lib.indexByte t.data.toList 32 < 0) (Hv : Hid (Valid (prs t))) (hp : Pow w) :
    Calls Tryz.prog 30 #[.string s] w fun e w' => e = .returned (.tuple #[.string (BA (Lib.itoa (valN (prs t) 7))), .nilIface]) ∧ Below w.heap.size w w' := by
  obtain ⟨V, HV⟩ : ∃ V, Hid (V = BA (Lib.itoa (valN (prs t) 7))) := ⟨_, rfl⟩
  rw [← HV.out]
  have cR : ∀ w, Calls Tryz.prog 66 #[.string t] w (Made2 w (prs t) true) := fun w => made2_to2 (parseI_any t w ht) (onV_yes Hv.out) (decide_eq_true Hv.out)
  go_enter Tryz.func30, Tryz.ntmps30
  go_wp2_with fail
  refine (cut_yes s nm_records t _ hs hi).mono ?_
  rintro e w1 ⟨rfl, hb1⟩
  go_wp2_with fail
  refine (qst7_any _).mono ?_
  rintro e w2 ⟨b, c, rfl, hfn, hbx, hb2⟩
  have hb12 := hb1.trans (hb2.mono hb1.size)
  have hW := (Below.refl w2.heap.size w2).alloc (Nat.le_refl _) (.cells #[.func (.func 66) #[] #[], .func (.func 97) #[] #[.pointer (some ⟨b, 0, none⟩)]] 75)
  have hQ : Qst (w2.alloc (.cells #[.func (.func 66) #[] #[], .func (.func 97) #[] #[.pointer (some ⟨b, 0, none⟩)]] 75)) w2.heap.size (.func (.func 66) #[] #[]) (.func (.func 97) #[] #[.pointer (some ⟨b, 0, none⟩)]) := Qst.made w2 _ _
  have hb13 := hb12.trans (hW.mono hb12.size)
  have hfn := hfn.kept hW
  have hbx := hbx.kept hW
  go_wp2_with fail
  refine (says_tob (hasSp_any t _) (decide_eq_false (by omega))).mono ?_
  rintro e w3 ⟨rfl, hb3⟩
  have hQ := hQ.keep hb3
  have hb14 := hb13.trans (hb3.mono hb13.size)
  have hfn := hfn.kept hb3
  have hbx := hbx.kept hb3
  have c0 := hQ.cell0
  have c1 := hQ.cell1
  clear hb1 hb2 hb12 hb13 hb3 hW
  go_wp2_with fail
  refine (cR _).mono ?_
  rintro e w4 ⟨u4, rfl, ho4, hb4⟩
  obtain ⟨a4, k4, rfl, s4⟩ := ho4.sl
  obtain ⟨n4, hn4⟩ : ∃ n4, n4 = (prs t).length := ⟨_, rfl⟩
  rw [← hn4] at s4 ⊢
  have hQ := hQ.keep hb4
  have hb15 := hb14.trans (hb4.mono hb14.size)
  have c0 := hQ.cell0
  have c1 := hQ.cell1
  clear hn4 ho4
  have hfn := hfn.kept hb4
  have hbx := hbx.kept hb4
  have hp4 := hp.later hb15
  have cA := says_tos (dec7_any b c _ _ _ (prs t) _ s4 Hv hfn hbx hp4) HV.out.symm
  go_wp2_with fail
  refine cA.mono ?_
  rintro e w5 ⟨rfl, hb5⟩
  go_wp2
  go_ret2
  exact ⟨rfl, hb15.trans (hb5.mono hb15.size)⟩

set_option maxRecDepth 20000 in
set_option maxHeartbeats 2000000 in
theorem ask7N (s t : ByteArray) (w : World) (hs : s.size ≤ 1048576) (ht : t.size ≤ 1048576) (hi : ∃ k, k < s.size ∧ Lib.indexByte s.data.toList 32 = ((k : Nat) : Int) ∧ nm_records = s.extract 0 k ∧ t = s.extract (k + 1) s.size) (hsp : Lib.indexByte t.data.toList 32 < 0) (Hv : Hid (¬ Valid (prs t))) :
    Calls Tryz.prog 30 #[.string s] w fun e w' => e = .returned (.tuple #[.string ⟨#[]⟩, .iface 58 (.agg #[.string t])]) ∧ Below w.heap.size w w' := by
  have cR : ∀ w, Calls Tryz.prog 66 #[.string t] w (Made2 w ([]) false) := fun w => made2_to2 (parseI_any t w ht) (onV_no Hv.out) (decide_eq_false Hv.out)
  go_enter Tryz.func30, Tryz.ntmps30
  go_wp2_with fail
  refine (cut_yes s nm_records t _ hs hi).mono ?_
  rintro e w1 ⟨rfl, hb1⟩
  go_wp2_with fail
  refine (qst7_any _).mono ?_
  rintro e w2 ⟨b, c, rfl, hfn, hbx, hb2⟩
  have hb12 := hb1.trans (hb2.mono hb1.size)
  have hW := (Below.refl w2.heap.size w2).alloc (Nat.le_refl _) (.cells #[.func (.func 66) #[] #[], .func (.func 97) #[] #[.pointer (some ⟨b, 0, none⟩)]] 75)
  have hQ : Qst (w2.alloc (.cells #[.func (.func 66) #[] #[], .func (.func 97) #[] #[.pointer (some ⟨b, 0, none⟩)]] 75)) w2.heap.size (.func (.func 66) #[] #[]) (.func (.func 97) #[] #[.pointer (some ⟨b, 0, none⟩)]) := Qst.made w2 _ _
  have hb13 := hb12.trans (hW.mono hb12.size)
  have hfn := hfn.kept hW
  have hbx := hbx.kept hW
  go_wp2_with fail
  refine (says_tob (hasSp_any t _) (decide_eq_false (by omega))).mono ?_
  rintro e w3 ⟨rfl, hb3⟩
  have hQ := hQ.keep hb3
  have hb14 := hb13.trans (hb3.mono hb13.size)
  have hfn := hfn.kept hb3
  have hbx := hbx.kept hb3
  have c0 := hQ.cell0
  have c1 := hQ.cell1
  clear hb1 hb2 hb12 hb13 hb3 hW
  go_wp2_with fail
  refine (cR _).mono ?_
  rintro e w4 ⟨u4, rfl, ho4, hb4⟩
  obtain ⟨a4, k4, rfl, s4⟩ := ho4.sl
  obtain ⟨n4, hn4⟩ : ∃ n4, n4 = ([]).length := ⟨_, rfl⟩
  rw [← hn4] at s4 ⊢
  have hQ := hQ.keep hb4
  have hb15 := hb14.trans (hb4.mono hb14.size)
  have c0 := hQ.cell0
  have c1 := hQ.cell1
  clear hn4 ho4
  have hfn := hfn.kept hb4
  have hbx := hbx.kept hb4
  go_wp2
  go_ret2
  exact ⟨rfl, hb15⟩

set_option maxRecDepth 20000 in
set_option maxHeartbeats 2000000 in
theorem ask8Y (s t : ByteArray) (w : World) (hs : s.size ≤ 1048576) (ht : t.size ≤ 1048576) (hi : ∃ k, k < s.size ∧ Lib.indexByte s.data.toList 32 = ((k : Nat) : Int) ∧ nm_circles = s.extract 0 k ∧ t = s.extract (k + 1) s.size) (hsp : Lib.indexByte t.data.toList 32 < 0) (Hv : Hid (Valid (prs t))) (hp : Pow w) :
    Calls Tryz.prog 30 #[.string s] w fun e w' => e = .returned (.tuple #[.string (BA (Lib.itoa (valN (prs t) 8))), .nilIface]) ∧ Below w.heap.size w w' := by
  obtain ⟨V, HV⟩ : ∃ V, Hid (V = BA (Lib.itoa (valN (prs t) 8))) := ⟨_, rfl⟩
  rw [← HV.out]
  have cR : ∀ w, Calls Tryz.prog 66 #[.string t] w (Made2 w (prs t) true) := fun w => made2_to2 (parseI_any t w ht) (onV_yes Hv.out) (decide_eq_true Hv.out)
  go_enter Tryz.func30, Tryz.ntmps30
  go_wp2_with fail
  refine (cut_yes s nm_circles t _ hs hi).mono ?_
  rintro e w1 ⟨rfl, hb1⟩
  go_wp2_with fail
  refine (qst8_any _).mono ?_
  rintro e w2 ⟨b, c, rfl, hfn, hbx, hb2⟩
  have hb12 := hb1.trans (hb2.mono hb1.size)
  have hW := (Below.refl w2.heap.size w2).alloc (Nat.le_refl _) (.cells #[.func (.func 66) #[] #[], .func (.func 97) #[] #[.pointer (some ⟨b, 0, none⟩)]] 75)
  have hQ : Qst (w2.alloc (.cells #[.func (.func 66) #[] #[], .func (.func 97) #[] #[.pointer (some ⟨b, 0, none⟩)]] 75)) w2.heap.size (.func (.func 66) #[] #[]) (.func (.func 97) #[] #[.pointer (some ⟨b, 0, none⟩)]) := Qst.made w2 _ _
  have hb13 := hb12.trans (hW.mono hb12.size)
  have hfn := hfn.kept hW
  have hbx := hbx.kept hW
  go_wp2_with fail
  refine (says_tob (hasSp_any t _) (decide_eq_false (by omega))).mono ?_
  rintro e w3 ⟨rfl, hb3⟩
  have hQ := hQ.keep hb3
  have hb14 := hb13.trans (hb3.mono hb13.size)
  have hfn := hfn.kept hb3
  have hbx := hbx.kept hb3
  have c0 := hQ.cell0
  have c1 := hQ.cell1
  clear hb1 hb2 hb12 hb13 hb3 hW
  go_wp2_with fail
  refine (cR _).mono ?_
  rintro e w4 ⟨u4, rfl, ho4, hb4⟩
  obtain ⟨a4, k4, rfl, s4⟩ := ho4.sl
  obtain ⟨n4, hn4⟩ : ∃ n4, n4 = (prs t).length := ⟨_, rfl⟩
  rw [← hn4] at s4 ⊢
  have hQ := hQ.keep hb4
  have hb15 := hb14.trans (hb4.mono hb14.size)
  have c0 := hQ.cell0
  have c1 := hQ.cell1
  clear hn4 ho4
  have hfn := hfn.kept hb4
  have hbx := hbx.kept hb4
  have hp4 := hp.later hb15
  have cA := says_tos (dec8_any b c _ _ _ (prs t) _ s4 Hv hfn hbx hp4) HV.out.symm
  go_wp2_with fail
  refine cA.mono ?_
  rintro e w5 ⟨rfl, hb5⟩
  go_wp2
  go_ret2
  exact ⟨rfl, hb15.trans (hb5.mono hb15.size)⟩

set_option maxRecDepth 20000 in
set_option maxHeartbeats 2000000 in
theorem ask8N (s t : ByteArray) (w : World) (hs : s.size ≤ 1048576) (ht : t.size ≤ 1048576) (hi : ∃ k, k < s.size ∧ Lib.indexByte s.data.toList 32 = ((k : Nat) : Int) ∧ nm_circles = s.extract 0 k ∧ t = s.extract (k + 1) s.size) (hsp : Lib.indexByte t.data.toList 32 < 0) (Hv : Hid (¬ Valid (prs t))) :
    Calls Tryz.prog 30 #[.string s] w fun e w' => e = .returned (.tuple #[.string ⟨#[]⟩, .iface 58 (.agg #[.string t])]) ∧ Below w.heap.size w w' := by
  have cR : ∀ w, Calls Tryz.prog 66 #[.string t] w (Made2 w ([]) false) := fun w => made2_to2 (parseI_any t w ht) (onV_no Hv.out) (decide_eq_false Hv.out)
  go_enter Tryz.func30, Tryz.ntmps30
  go_wp2_with fail
  refine (cut_yes s nm_circles t _ hs hi).mono ?_
  rintro e w1 ⟨rfl, hb1⟩
  go_wp2_with fail
  refine (qst8_any _).mono ?_
  rintro e w2 ⟨b, c, rfl, hfn, hbx, hb2⟩
  have hb12 := hb1.trans (hb2.mono hb1.size)
  have hW := (Below.refl w2.heap.size w2).alloc (Nat.le_refl _) (.cells #[.func (.func 66) #[] #[], .func (.func 97) #[] #[.pointer (some ⟨b, 0, none⟩)]] 75)
  have hQ : Qst (w2.alloc (.cells #[.func (.func 66) #[] #[], .func (.func 97) #[] #[.pointer (some ⟨b, 0, none⟩)]] 75)) w2.heap.size (.func (.func 66) #[] #[]) (.func (.func 97) #[] #[.pointer (some ⟨b, 0, none⟩)]) := Qst.made w2 _ _
  have hb13 := hb12.trans (hW.mono hb12.size)
  have hfn := hfn.kept hW
  have hbx := hbx.kept hW
  go_wp2_with fail
  refine (says_tob (hasSp_any t _) (decide_eq_false (by omega))).mono ?_
  rintro e w3 ⟨rfl, hb3⟩
  have hQ := hQ.keep hb3
  have hb14 := hb13.trans (hb3.mono hb13.size)
  have hfn := hfn.kept hb3
  have hbx := hbx.kept hb3
  have c0 := hQ.cell0
  have c1 := hQ.cell1
  clear hb1 hb2 hb12 hb13 hb3 hW
  go_wp2_with fail
  refine (cR _).mono ?_
  rintro e w4 ⟨u4, rfl, ho4, hb4⟩
  obtain ⟨a4, k4, rfl, s4⟩ := ho4.sl
  obtain ⟨n4, hn4⟩ : ∃ n4, n4 = ([]).length := ⟨_, rfl⟩
  rw [← hn4] at s4 ⊢
  have hQ := hQ.keep hb4
  have hb15 := hb14.trans (hb4.mono hb14.size)
  have c0 := hQ.cell0
  have c1 := hQ.cell1
  clear hn4 ho4
  have hfn := hfn.kept hb4
  have hbx := hbx.kept hb4
  go_wp2
  go_ret2
  exact ⟨rfl, hb15⟩

set_option maxRecDepth 20000 in
set_option maxHeartbeats 2000000 in
theorem ask9Y (s t : ByteArray) (w : World) (hs : s.size ≤ 1048576) (ht : t.size ≤ 1048576) (hi : ∃ k, k < s.size ∧ Lib.indexByte s.data.toList 32 = ((k : Nat) : Int) ∧ (⟨#[116, 97, 98, 108, 101]⟩ : ByteArray) = s.extract 0 k ∧ t = s.extract (k + 1) s.size) (hsp : Lib.indexByte t.data.toList 32 < 0) (Hv : Hid (Valid (prs t))) (hp : Pow w) :
    Calls Tryz.prog 30 #[.string s] w fun e w' => e = .returned (.tuple #[.string (BA (lsL (table (prs t)))), .nilIface]) ∧ Below w.heap.size w w' := by
  obtain ⟨V, HV⟩ : ∃ V, Hid (V = BA (lsL (table (prs t)))) := ⟨_, rfl⟩
  rw [← HV.out]
  have cR : ∀ w, Calls Tryz.prog 66 #[.string t] w (Made2 w (prs t) true) := fun w => made2_to2 (parseI_any t w ht) (onV_yes Hv.out) (decide_eq_true Hv.out)
  go_enter Tryz.func30, Tryz.ntmps30
  go_wp2_with fail
  refine (cut_yes s (⟨#[116, 97, 98, 108, 101]⟩ : ByteArray) t _ hs hi).mono ?_
  rintro e w1 ⟨rfl, hb1⟩
  go_wp2_with fail
  refine (qst9_any _).mono ?_
  rintro e w2 ⟨rfl, hb2⟩
  have hb12 := hb1.trans (hb2.mono hb1.size)
  have hW := (Below.refl w2.heap.size w2).alloc (Nat.le_refl _) (.cells #[.func (.func 66) #[] #[], .func (.func 68) #[] #[]] 75)
  have hQ : Qst (w2.alloc (.cells #[.func (.func 66) #[] #[], .func (.func 68) #[] #[]] 75)) w2.heap.size (.func (.func 66) #[] #[]) (.func (.func 68) #[] #[]) := Qst.made w2 _ _
  have hb13 := hb12.trans (hW.mono hb12.size)
  go_wp2_with fail
  refine (says_tob (hasSp_any t _) (decide_eq_false (by omega))).mono ?_
  rintro e w3 ⟨rfl, hb3⟩
  have hQ := hQ.keep hb3
  have hb14 := hb13.trans (hb3.mono hb13.size)
  have c0 := hQ.cell0
  have c1 := hQ.cell1
  clear hb1 hb2 hb12 hb13 hb3 hW
  go_wp2_with fail
  refine (cR _).mono ?_
  rintro e w4 ⟨u4, rfl, ho4, hb4⟩
  obtain ⟨a4, k4, rfl, s4⟩ := ho4.sl
  obtain ⟨n4, hn4⟩ : ∃ n4, n4 = (prs t).length := ⟨_, rfl⟩
  rw [← hn4] at s4 ⊢
  have hQ := hQ.keep hb4
  have hb15 := hb14.trans (hb4.mono hb14.size)
  have c0 := hQ.cell0
  have c1 := hQ.cell1
  clear hn4 ho4
  have hp4 := hp.later hb15
  have cA := says_tos (tabT_any _ _ _ (prs t) _ s4 Hv hp4) HV.out.symm
  go_wp2_with fail
  refine cA.mono ?_
  rintro e w5 ⟨rfl, hb5⟩
  go_wp2
  go_ret2
  exact ⟨rfl, hb15.trans (hb5.mono hb15.size)⟩

set_option maxRecDepth 20000 in
set_option maxHeartbeats 2000000 in
theorem ask9N (s t : ByteArray) (w : World) (hs : s.size ≤ 1048576) (ht : t.size ≤ 1048576) (hi : ∃ k, k < s.size ∧ Lib.indexByte s.data.toList 32 = ((k : Nat) : Int) ∧ (⟨#[116, 97, 98, 108, 101]⟩ : ByteArray) = s.extract 0 k ∧ t = s.extract (k + 1) s.size) (hsp : Lib.indexByte t.data.toList 32 < 0) (Hv : Hid (¬ Valid (prs t))) :
    Calls Tryz.prog 30 #[.string s] w fun e w' => e = .returned (.tuple #[.string ⟨#[]⟩, .iface 58 (.agg #[.string t])]) ∧ Below w.heap.size w w' := by
  have cR : ∀ w, Calls Tryz.prog 66 #[.string t] w (Made2 w ([]) false) := fun w => made2_to2 (parseI_any t w ht) (onV_no Hv.out) (decide_eq_false Hv.out)
  go_enter Tryz.func30, Tryz.ntmps30
  go_wp2_with fail
  refine (cut_yes s (⟨#[116, 97, 98, 108, 101]⟩ : ByteArray) t _ hs hi).mono ?_
  rintro e w1 ⟨rfl, hb1⟩
  go_wp2_with fail
  refine (qst9_any _).mono ?_
  rintro e w2 ⟨rfl, hb2⟩
  have hb12 := hb1.trans (hb2.mono hb1.size)
  have hW := (Below.refl w2.heap.size w2).alloc (Nat.le_refl _) (.cells #[.func (.func 66) #[] #[], .func (.func 68) #[] #[]] 75)
  have hQ : Qst (w2.alloc (.cells #[.func (.func 66) #[] #[], .func (.func 68) #[] #[]] 75)) w2.heap.size (.func (.func 66) #[] #[]) (.func (.func 68) #[] #[]) := Qst.made w2 _ _
  have hb13 := hb12.trans (hW.mono hb12.size)
  go_wp2_with fail
  refine (says_tob (hasSp_any t _) (decide_eq_false (by omega))).mono ?_
  rintro e w3 ⟨rfl, hb3⟩
  have hQ := hQ.keep hb3
  have hb14 := hb13.trans (hb3.mono hb13.size)
  have c0 := hQ.cell0
  have c1 := hQ.cell1
  clear hb1 hb2 hb12 hb13 hb3 hW
  go_wp2_with fail
  refine (cR _).mono ?_
  rintro e w4 ⟨u4, rfl, ho4, hb4⟩
  obtain ⟨a4, k4, rfl, s4⟩ := ho4.sl
  obtain ⟨n4, hn4⟩ : ∃ n4, n4 = ([]).length := ⟨_, rfl⟩
  rw [← hn4] at s4 ⊢
  have hQ := hQ.keep hb4
  have hb15 := hb14.trans (hb4.mono hb14.size)
  have c0 := hQ.cell0
  have c1 := hQ.cell1
  clear hn4 ho4
  go_wp2
  go_ret2
  exact ⟨rfl, hb15⟩

set_option maxRecDepth 20000 in
set_option maxHeartbeats 2000000 in
theorem ask10Y (s t : ByteArray) (w : World) (hs : s.size ≤ 1048576) (ht : t.size ≤ 1048576) (hi : ∃ k, k < s.size ∧ Lib.indexByte s.data.toList 32 = ((k : Nat) : Int) ∧ (⟨#[102, 111, 97, 116, 97]⟩ : ByteArray) = s.extract 0 k ∧ t = s.extract (k + 1) s.size) (hsp : Lib.indexByte t.data.toList 32 < 0) (Hv : Hid (Valid (prs t))) (hp : Pow w) :
    Calls Tryz.prog 30 #[.string s] w fun e w' => e = .returned (.tuple #[.string (strOfNums (dgs (foat (prs t)))), .nilIface]) ∧ Below w.heap.size w w' := by
  obtain ⟨V, HV⟩ : ∃ V, Hid (V = strOfNums (dgs (foat (prs t)))) := ⟨_, rfl⟩
  rw [← HV.out]
  have cR : ∀ w, Calls Tryz.prog 66 #[.string t] w (Made2 w (prs t) true) := fun w => made2_to2 (parseI_any t w ht) (onV_yes Hv.out) (decide_eq_true Hv.out)
  go_enter Tryz.func30, Tryz.ntmps30
  go_wp2_with fail
  refine (cut_yes s (⟨#[102, 111, 97, 116, 97]⟩ : ByteArray) t _ hs hi).mono ?_
  rintro e w1 ⟨rfl, hb1⟩
  go_wp2_with fail
  refine (qst10_any _).mono ?_
  rintro e w2 ⟨rfl, hb2⟩
  have hb12 := hb1.trans (hb2.mono hb1.size)
  have hW := (Below.refl w2.heap.size w2).alloc (Nat.le_refl _) (.cells #[.func (.func 66) #[] #[], .func (.func 69) #[] #[]] 75)
  have hQ : Qst (w2.alloc (.cells #[.func (.func 66) #[] #[], .func (.func 69) #[] #[]] 75)) w2.heap.size (.func (.func 66) #[] #[]) (.func (.func 69) #[] #[]) := Qst.made w2 _ _
  have hb13 := hb12.trans (hW.mono hb12.size)
  go_wp2_with fail
  refine (says_tob (hasSp_any t _) (decide_eq_false (by omega))).mono ?_
  rintro e w3 ⟨rfl, hb3⟩
  have hQ := hQ.keep hb3
  have hb14 := hb13.trans (hb3.mono hb13.size)
  have c0 := hQ.cell0
  have c1 := hQ.cell1
  clear hb1 hb2 hb12 hb13 hb3 hW
  go_wp2_with fail
  refine (cR _).mono ?_
  rintro e w4 ⟨u4, rfl, ho4, hb4⟩
  obtain ⟨a4, k4, rfl, s4⟩ := ho4.sl
  obtain ⟨n4, hn4⟩ : ∃ n4, n4 = (prs t).length := ⟨_, rfl⟩
  rw [← hn4] at s4 ⊢
  have hQ := hQ.keep hb4
  have hb15 := hb14.trans (hb4.mono hb14.size)
  have c0 := hQ.cell0
  have c1 := hQ.cell1
  clear hn4 ho4
  have hp4 := hp.later hb15
  have cA := says_tos (mapT0_any _ _ _ (prs t) _ s4 Hv) HV.out.symm
  go_wp2_with fail
  refine cA.mono ?_
  rintro e w5 ⟨rfl, hb5⟩
  go_wp2
  go_ret2
  exact ⟨rfl, hb15.trans (hb5.mono hb15.size)⟩

set_option maxRecDepth 20000 in
set_option maxHeartbeats 2000000 in
theorem ask10N (s t : ByteArray) (w : World) (hs : s.size ≤ 1048576) (ht : t.size ≤ 1048576) (hi : ∃ k, k < s.size ∧ Lib.indexByte s.data.toList 32 = ((k : Nat) : Int) ∧ (⟨#[102, 111, 97, 116, 97]⟩ : ByteArray) = s.extract 0 k ∧ t = s.extract (k + 1) s.size) (hsp : Lib.indexByte t.data.toList 32 < 0) (Hv : Hid (¬ Valid (prs t))) :
    Calls Tryz.prog 30 #[.string s] w fun e w' => e = .returned (.tuple #[.string ⟨#[]⟩, .iface 58 (.agg #[.string t])]) ∧ Below w.heap.size w w' := by
  have cR : ∀ w, Calls Tryz.prog 66 #[.string t] w (Made2 w ([]) false) := fun w => made2_to2 (parseI_any t w ht) (onV_no Hv.out) (decide_eq_false Hv.out)
  go_enter Tryz.func30, Tryz.ntmps30
  go_wp2_with fail
  refine (cut_yes s (⟨#[102, 111, 97, 116, 97]⟩ : ByteArray) t _ hs hi).mono ?_
  rintro e w1 ⟨rfl, hb1⟩
  go_wp2_with fail
  refine (qst10_any _).mono ?_
  rintro e w2 ⟨rfl, hb2⟩
  have hb12 := hb1.trans (hb2.mono hb1.size)
  have hW := (Below.refl w2.heap.size w2).alloc (Nat.le_refl _) (.cells #[.func (.func 66) #[] #[], .func (.func 69) #[] #[]] 75)
  have hQ : Qst (w2.alloc (.cells #[.func (.func 66) #[] #[], .func (.func 69) #[] #[]] 75)) w2.heap.size (.func (.func 66) #[] #[]) (.func (.func 69) #[] #[]) := Qst.made w2 _ _
  have hb13 := hb12.trans (hW.mono hb12.size)
  go_wp2_with fail
  refine (says_tob (hasSp_any t _) (decide_eq_false (by omega))).mono ?_
  rintro e w3 ⟨rfl, hb3⟩
  have hQ := hQ.keep hb3
  have hb14 := hb13.trans (hb3.mono hb13.size)
  have c0 := hQ.cell0
  have c1 := hQ.cell1
  clear hb1 hb2 hb12 hb13 hb3 hW
  go_wp2_with fail
  refine (cR _).mono ?_
  rintro e w4 ⟨u4, rfl, ho4, hb4⟩
  obtain ⟨a4, k4, rfl, s4⟩ := ho4.sl
  obtain ⟨n4, hn4⟩ : ∃ n4, n4 = ([]).length := ⟨_, rfl⟩
  rw [← hn4] at s4 ⊢
  have hQ := hQ.keep hb4
  have hb15 := hb14.trans (hb4.mono hb14.size)
  have c0 := hQ.cell0
  have c1 := hQ.cell1
  clear hn4 ho4
  go_wp2
  go_ret2
  exact ⟨rfl, hb15⟩

set_option maxRecDepth 20000 in
set_option maxHeartbeats 2000000 in
theorem ask11Y (s t : ByteArray) (w : World) (hs : s.size ≤ 1048576) (ht : t.size ≤ 1048576) (hi : ∃ k, k < s.size ∧ Lib.indexByte s.data.toList 32 = ((k : Nat) : Int) ∧ (⟨#[108, 105, 110, 101]⟩ : ByteArray) = s.extract 0 k ∧ t = s.extract (k + 1) s.size) (hsp : Lib.indexByte t.data.toList 32 < 0) (Hv : Hid (Valid (prs t))) (hp : Pow w) :
    Calls Tryz.prog 30 #[.string s] w fun e w' => e = .returned (.tuple #[.string (strOfNums (dgs (toL (prs t)))), .nilIface]) ∧ Below w.heap.size w w' := by
  obtain ⟨V, HV⟩ : ∃ V, Hid (V = strOfNums (dgs (toL (prs t)))) := ⟨_, rfl⟩
  rw [← HV.out]
  have cR : ∀ w, Calls Tryz.prog 66 #[.string t] w (Made2 w (prs t) true) := fun w => made2_to2 (parseI_any t w ht) (onV_yes Hv.out) (decide_eq_true Hv.out)
  go_enter Tryz.func30, Tryz.ntmps30
  go_wp2_with fail
  refine (cut_yes s (⟨#[108, 105, 110, 101]⟩ : ByteArray) t _ hs hi).mono ?_
  rintro e w1 ⟨rfl, hb1⟩
  go_wp2_with fail
  refine (qst11_any _).mono ?_
  rintro e w2 ⟨rfl, hb2⟩
  have hb12 := hb1.trans (hb2.mono hb1.size)
  have hW := (Below.refl w2.heap.size w2).alloc (Nat.le_refl _) (.cells #[.func (.func 66) #[] #[], .func (.func 72) #[] #[]] 75)
  have hQ : Qst (w2.alloc (.cells #[.func (.func 66) #[] #[], .func (.func 72) #[] #[]] 75)) w2.heap.size (.func (.func 66) #[] #[]) (.func (.func 72) #[] #[]) := Qst.made w2 _ _
  have hb13 := hb12.trans (hW.mono hb12.size)
  go_wp2_with fail
  refine (says_tob (hasSp_any t _) (decide_eq_false (by omega))).mono ?_
  rintro e w3 ⟨rfl, hb3⟩
  have hQ := hQ.keep hb3
  have hb14 := hb13.trans (hb3.mono hb13.size)
  have c0 := hQ.cell0
  have c1 := hQ.cell1
  clear hb1 hb2 hb12 hb13 hb3 hW
  go_wp2_with fail
  refine (cR _).mono ?_
  rintro e w4 ⟨u4, rfl, ho4, hb4⟩
  obtain ⟨a4, k4, rfl, s4⟩ := ho4.sl
  obtain ⟨n4, hn4⟩ : ∃ n4, n4 = (prs t).length := ⟨_, rfl⟩
  rw [← hn4] at s4 ⊢
  have hQ := hQ.keep hb4
  have hb15 := hb14.trans (hb4.mono hb14.size)
  have c0 := hQ.cell0
  have c1 := hQ.cell1
  clear hn4 ho4
  have hp4 := hp.later hb15
  have cA := says_tos (mapT1_any _ _ _ (prs t) _ s4 Hv) HV.out.symm
  go_wp2_with fail
  refine cA.mono ?_
  rintro e w5 ⟨rfl, hb5⟩
  go_wp2
  go_ret2
  exact ⟨rfl, hb15.trans (hb5.mono hb15.size)⟩

set_option maxRecDepth 20000 in
set_option maxHeartbeats 2000000 in
theorem ask11N (s t : ByteArray) (w : World) (hs : s.size ≤ 1048576) (ht : t.size ≤ 1048576) (hi : ∃ k, k < s.size ∧ Lib.indexByte s.data.toList 32 = ((k : Nat) : Int) ∧ (⟨#[108, 105, 110, 101]⟩ : ByteArray) = s.extract 0 k ∧ t = s.extract (k + 1) s.size) (hsp : Lib.indexByte t.data.toList 32 < 0) (Hv : Hid (¬ Valid (prs t))) :
    Calls Tryz.prog 30 #[.string s] w fun e w' => e = .returned (.tuple #[.string ⟨#[]⟩, .iface 58 (.agg #[.string t])]) ∧ Below w.heap.size w w' := by
  have cR : ∀ w, Calls Tryz.prog 66 #[.string t] w (Made2 w ([]) false) := fun w => made2_to2 (parseI_any t w ht) (onV_no Hv.out) (decide_eq_false Hv.out)
  go_enter Tryz.func30, Tryz.ntmps30
  go_wp2_with fail
  refine (cut_yes s (⟨#[108, 105, 110, 101]⟩ : ByteArray) t _ hs hi).mono ?_
  rintro e w1 ⟨rfl, hb1⟩
  go_wp2_with fail
  refine (qst11_any _).mono ?_
  rintro e w2 ⟨rfl, hb2⟩
  have hb12 := hb1.trans (hb2.mono hb1.size)
  have hW := (Below.refl w2.heap.size w2).alloc (Nat.le_refl _) (.cells #[.func (.func 66) #[] #[], .func (.func 72) #[] #[]] 75)
  have hQ : Qst (w2.alloc (.cells #[.func (.func 66) #[] #[], .func (.func 72) #[] #[]] 75)) w2.heap.size (.func (.func 66) #[] #[]) (.func (.func 72) #[] #[]) := Qst.made w2 _ _
  have hb13 := hb12.trans (hW.mono hb12.size)
  go_wp2_with fail
  refine (says_tob (hasSp_any t _) (decide_eq_false (by omega))).mono ?_
  rintro e w3 ⟨rfl, hb3⟩
  have hQ := hQ.keep hb3
  have hb14 := hb13.trans (hb3.mono hb13.size)
  have c0 := hQ.cell0
  have c1 := hQ.cell1
  clear hb1 hb2 hb12 hb13 hb3 hW
  go_wp2_with fail
  refine (cR _).mono ?_
  rintro e w4 ⟨u4, rfl, ho4, hb4⟩
  obtain ⟨a4, k4, rfl, s4⟩ := ho4.sl
  obtain ⟨n4, hn4⟩ : ∃ n4, n4 = ([]).length := ⟨_, rfl⟩
  rw [← hn4] at s4 ⊢
  have hQ := hQ.keep hb4
  have hb15 := hb14.trans (hb4.mono hb14.size)
  have c0 := hQ.cell0
  have c1 := hQ.cell1
  clear hn4 ho4
  go_wp2
  go_ret2
  exact ⟨rfl, hb15⟩

set_option maxRecDepth 20000 in
set_option maxHeartbeats 2000000 in
theorem ask12Y (s t : ByteArray) (w : World) (hs : s.size ≤ 1048576) (ht : t.size ≤ 1048576) (hi : ∃ k, k < s.size ∧ Lib.indexByte s.data.toList 32 = ((k : Nat) : Int) ∧ (⟨#[108, 101, 110, 103, 116, 104]⟩ : ByteArray) = s.extract 0 k ∧ t = s.extract (k + 1) s.size) (hsp : Lib.indexByte t.data.toList 32 < 0) (Hv : Hid (okX (prs t) = true)) (hp : Pow w) :
    Calls Tryz.prog 30 #[.string s] w fun e w' => e = .returned (.tuple #[.string (BA (Lib.itoa (lenS (outX (prs t))))), .nilIface]) ∧ Below w.heap.size w w' := by
  obtain ⟨V, HV⟩ : ∃ V, Hid (V = BA (Lib.itoa (lenS (outX (prs t))))) := ⟨_, rfl⟩
  rw [← HV.out]
  have cR : ∀ w, Calls Tryz.prog 74 #[.string t] w (Made2 w (outX (prs t)) true) := fun w => made2_to2 (pgsI_any t w ht) rfl Hv.out
  go_enter Tryz.func30, Tryz.ntmps30
  go_wp2_with fail
  refine (cut_yes s (⟨#[108, 101, 110, 103, 116, 104]⟩ : ByteArray) t _ hs hi).mono ?_
  rintro e w1 ⟨rfl, hb1⟩
  go_wp2_with fail
  refine (qst12_any _).mono ?_
  rintro e w2 ⟨b, rfl, hfn, hb2⟩
  have hb12 := hb1.trans (hb2.mono hb1.size)
  have hW := (Below.refl w2.heap.size w2).alloc (Nat.le_refl _) (.cells #[.func (.func 74) #[] #[], .func (.func 97) #[] #[.pointer (some ⟨b, 0, none⟩)]] 75)
  have hQ : Qst (w2.alloc (.cells #[.func (.func 74) #[] #[], .func (.func 97) #[] #[.pointer (some ⟨b, 0, none⟩)]] 75)) w2.heap.size (.func (.func 74) #[] #[]) (.func (.func 97) #[] #[.pointer (some ⟨b, 0, none⟩)]) := Qst.made w2 _ _
  have hb13 := hb12.trans (hW.mono hb12.size)
  have hfn := hfn.kept hW
  go_wp2_with fail
  refine (says_tob (hasSp_any t _) (decide_eq_false (by omega))).mono ?_
  rintro e w3 ⟨rfl, hb3⟩
  have hQ := hQ.keep hb3
  have hb14 := hb13.trans (hb3.mono hb13.size)
  have hfn := hfn.kept hb3
  have c0 := hQ.cell0
  have c1 := hQ.cell1
  clear hb1 hb2 hb12 hb13 hb3 hW
  go_wp2_with fail
  refine (cR _).mono ?_
  rintro e w4 ⟨u4, rfl, ho4, hb4⟩
  obtain ⟨a4, k4, rfl, s4⟩ := ho4.sl
  obtain ⟨n4, hn4⟩ : ∃ n4, n4 = (outX (prs t)).length := ⟨_, rfl⟩
  rw [← hn4] at s4 ⊢
  have hQ := hQ.keep hb4
  have hb15 := hb14.trans (hb4.mono hb14.size)
  have c0 := hQ.cell0
  have c1 := hQ.cell1
  clear hn4 ho4
  have hfn := hfn.kept hb4
  have hp4 := hp.later hb15
  have cA := says_tos (dec9_any b _ _ _ (outX (prs t)) _ s4 (hid (okX_sv Hv.out)) hfn hp4) HV.out.symm
  go_wp2_with fail
  refine cA.mono ?_
  rintro e w5 ⟨rfl, hb5⟩
  go_wp2
  go_ret2
  exact ⟨rfl, hb15.trans (hb5.mono hb15.size)⟩

set_option maxRecDepth 20000 in
set_option maxHeartbeats 2000000 in
theorem ask12N (s t : ByteArray) (w : World) (hs : s.size ≤ 1048576) (ht : t.size ≤ 1048576) (hi : ∃ k, k < s.size ∧ Lib.indexByte s.data.toList 32 = ((k : Nat) : Int) ∧ (⟨#[108, 101, 110, 103, 116, 104]⟩ : ByteArray) = s.extract 0 k ∧ t = s.extract (k + 1) s.size) (hsp : Lib.indexByte t.data.toList 32 < 0) (Hv : Hid (¬ okX (prs t) = true)) :
    Calls Tryz.prog 30 #[.string s] w fun e w' => e = .returned (.tuple #[.string ⟨#[]⟩, .iface 58 (.agg #[.string t])]) ∧ Below w.heap.size w w' := by
  have cR : ∀ w, Calls Tryz.prog 74 #[.string t] w (Made2 w (outX (prs t)) false) := fun w => made2_to2 (pgsI_any t w ht) rfl (by cases h : okX (prs t) with | false => rfl | true => exact absurd h Hv.out)
  go_enter Tryz.func30, Tryz.ntmps30
  go_wp2_with fail
  refine (cut_yes s (⟨#[108, 101, 110, 103, 116, 104]⟩ : ByteArray) t _ hs hi).mono ?_
  rintro e w1 ⟨rfl, hb1⟩
  go_wp2_with fail
  refine (qst12_any _).mono ?_
  rintro e w2 ⟨b, rfl, hfn, hb2⟩
  have hb12 := hb1.trans (hb2.mono hb1.size)
  have hW := (Below.refl w2.heap.size w2).alloc (Nat.le_refl _) (.cells #[.func (.func 74) #[] #[], .func (.func 97) #[] #[.pointer (some ⟨b, 0, none⟩)]] 75)
  have hQ : Qst (w2.alloc (.cells #[.func (.func 74) #[] #[], .func (.func 97) #[] #[.pointer (some ⟨b, 0, none⟩)]] 75)) w2.heap.size (.func (.func 74) #[] #[]) (.func (.func 97) #[] #[.pointer (some ⟨b, 0, none⟩)]) := Qst.made w2 _ _
  have hb13 := hb12.trans (hW.mono hb12.size)
  have hfn := hfn.kept hW
  go_wp2_with fail
  refine (says_tob (hasSp_any t _) (decide_eq_false (by omega))).mono ?_
  rintro e w3 ⟨rfl, hb3⟩
  have hQ := hQ.keep hb3
  have hb14 := hb13.trans (hb3.mono hb13.size)
  have hfn := hfn.kept hb3
  have c0 := hQ.cell0
  have c1 := hQ.cell1
  clear hb1 hb2 hb12 hb13 hb3 hW
  go_wp2_with fail
  refine (cR _).mono ?_
  rintro e w4 ⟨u4, rfl, ho4, hb4⟩
  obtain ⟨a4, k4, rfl, s4⟩ := ho4.sl
  obtain ⟨n4, hn4⟩ : ∃ n4, n4 = (outX (prs t)).length := ⟨_, rfl⟩
  rw [← hn4] at s4 ⊢
  have hQ := hQ.keep hb4
  have hb15 := hb14.trans (hb4.mono hb14.size)
  have c0 := hQ.cell0
  have c1 := hQ.cell1
  clear hn4 ho4
  have hfn := hfn.kept hb4
  go_wp2
  go_ret2
  exact ⟨rfl, hb15⟩

set_option maxRecDepth 20000 in
set_option maxHeartbeats 2000000 in
theorem ask13Y (s t : ByteArray) (w : World) (hs : s.size ≤ 1048576) (ht : t.size ≤ 1048576) (hi : ∃ k, k < s.size ∧ Lib.indexByte s.data.toList 32 = ((k : Nat) : Int) ∧ (⟨#[102, 108, 97, 103]⟩ : ByteArray) = s.extract 0 k ∧ t = s.extract (k + 1) s.size) (hsp : Lib.indexByte t.data.toList 32 < 0) (Hv : Hid (okX (prs t) = true)) (hp : Pow w) :
    Calls Tryz.prog 30 #[.string s] w fun e w' => e = .returned (.tuple #[.string (BA (Lib.itoa (flagS (outX (prs t))))), .nilIface]) ∧ Below w.heap.size w w' := by
  obtain ⟨V, HV⟩ : ∃ V, Hid (V = BA (Lib.itoa (flagS (outX (prs t))))) := ⟨_, rfl⟩
  rw [← HV.out]
  have cR : ∀ w, Calls Tryz.prog 74 #[.string t] w (Made2 w (outX (prs t)) true) := fun w => made2_to2 (pgsI_any t w ht) rfl Hv.out
  go_enter Tryz.func30, Tryz.ntmps30
  go_wp2_with fail
  refine (cut_yes s (⟨#[102, 108, 97, 103]⟩ : ByteArray) t _ hs hi).mono ?_
  rintro e w1 ⟨rfl, hb1⟩
  go_wp2_with fail
  refine (qst13_any _).mono ?_
  rintro e w2 ⟨b, rfl, hfn, hb2⟩
  have hb12 := hb1.trans (hb2.mono hb1.size)
  have hW := (Below.refl w2.heap.size w2).alloc (Nat.le_refl _) (.cells #[.func (.func 74) #[] #[], .func (.func 97) #[] #[.pointer (some ⟨b, 0, none⟩)]] 75)
  have hQ : Qst (w2.alloc (.cells #[.func (.func 74) #[] #[], .func (.func 97) #[] #[.pointer (some ⟨b, 0, none⟩)]] 75)) w2.heap.size (.func (.func 74) #[] #[]) (.func (.func 97) #[] #[.pointer (some ⟨b, 0, none⟩)]) := Qst.made w2 _ _
  have hb13 := hb12.trans (hW.mono hb12.size)
  have hfn := hfn.kept hW
  go_wp2_with fail
  refine (says_tob (hasSp_any t _) (decide_eq_false (by omega))).mono ?_
  rintro e w3 ⟨rfl, hb3⟩
  have hQ := hQ.keep hb3
  have hb14 := hb13.trans (hb3.mono hb13.size)
  have hfn := hfn.kept hb3
  have c0 := hQ.cell0
  have c1 := hQ.cell1
  clear hb1 hb2 hb12 hb13 hb3 hW
  go_wp2_with fail
  refine (cR _).mono ?_
  rintro e w4 ⟨u4, rfl, ho4, hb4⟩
  obtain ⟨a4, k4, rfl, s4⟩ := ho4.sl
  obtain ⟨n4, hn4⟩ : ∃ n4, n4 = (outX (prs t)).length := ⟨_, rfl⟩
  rw [← hn4] at s4 ⊢
  have hQ := hQ.keep hb4
  have hb15 := hb14.trans (hb4.mono hb14.size)
  have c0 := hQ.cell0
  have c1 := hQ.cell1
  clear hn4 ho4
  have hfn := hfn.kept hb4
  have hp4 := hp.later hb15
  have cA := says_tos (dec10_any b _ _ _ (outX (prs t)) _ s4 (hid (okX_sv Hv.out)) hfn hp4) HV.out.symm
  go_wp2_with fail
  refine cA.mono ?_
  rintro e w5 ⟨rfl, hb5⟩
  go_wp2
  go_ret2
  exact ⟨rfl, hb15.trans (hb5.mono hb15.size)⟩

set_option maxRecDepth 20000 in
set_option maxHeartbeats 2000000 in
theorem ask13N (s t : ByteArray) (w : World) (hs : s.size ≤ 1048576) (ht : t.size ≤ 1048576) (hi : ∃ k, k < s.size ∧ Lib.indexByte s.data.toList 32 = ((k : Nat) : Int) ∧ (⟨#[102, 108, 97, 103]⟩ : ByteArray) = s.extract 0 k ∧ t = s.extract (k + 1) s.size) (hsp : Lib.indexByte t.data.toList 32 < 0) (Hv : Hid (¬ okX (prs t) = true)) :
    Calls Tryz.prog 30 #[.string s] w fun e w' => e = .returned (.tuple #[.string ⟨#[]⟩, .iface 58 (.agg #[.string t])]) ∧ Below w.heap.size w w' := by
  have cR : ∀ w, Calls Tryz.prog 74 #[.string t] w (Made2 w (outX (prs t)) false) := fun w => made2_to2 (pgsI_any t w ht) rfl (by cases h : okX (prs t) with | false => rfl | true => exact absurd h Hv.out)
  go_enter Tryz.func30, Tryz.ntmps30
  go_wp2_with fail
  refine (cut_yes s (⟨#[102, 108, 97, 103]⟩ : ByteArray) t _ hs hi).mono ?_
  rintro e w1 ⟨rfl, hb1⟩
  go_wp2_with fail
  refine (qst13_any _).mono ?_
  rintro e w2 ⟨b, rfl, hfn, hb2⟩
  have hb12 := hb1.trans (hb2.mono hb1.size)
  have hW := (Below.refl w2.heap.size w2).alloc (Nat.le_refl _) (.cells #[.func (.func 74) #[] #[], .func (.func 97) #[] #[.pointer (some ⟨b, 0, none⟩)]] 75)
  have hQ : Qst (w2.alloc (.cells #[.func (.func 74) #[] #[], .func (.func 97) #[] #[.pointer (some ⟨b, 0, none⟩)]] 75)) w2.heap.size (.func (.func 74) #[] #[]) (.func (.func 97) #[] #[.pointer (some ⟨b, 0, none⟩)]) := Qst.made w2 _ _
  have hb13 := hb12.trans (hW.mono hb12.size)
  have hfn := hfn.kept hW
  go_wp2_with fail
  refine (says_tob (hasSp_any t _) (decide_eq_false (by omega))).mono ?_
  rintro e w3 ⟨rfl, hb3⟩
  have hQ := hQ.keep hb3
  have hb14 := hb13.trans (hb3.mono hb13.size)
  have hfn := hfn.kept hb3
  have c0 := hQ.cell0
  have c1 := hQ.cell1
  clear hb1 hb2 hb12 hb13 hb3 hW
  go_wp2_with fail
  refine (cR _).mono ?_
  rintro e w4 ⟨u4, rfl, ho4, hb4⟩
  obtain ⟨a4, k4, rfl, s4⟩ := ho4.sl
  obtain ⟨n4, hn4⟩ : ∃ n4, n4 = (outX (prs t)).length := ⟨_, rfl⟩
  rw [← hn4] at s4 ⊢
  have hQ := hQ.keep hb4
  have hb15 := hb14.trans (hb4.mono hb14.size)
  have c0 := hQ.cell0
  have c1 := hQ.cell1
  clear hn4 ho4
  have hfn := hfn.kept hb4
  go_wp2
  go_ret2
  exact ⟨rfl, hb15⟩

end Go.Proofs.YtaceiebmgnhdgaaGreatDoor
