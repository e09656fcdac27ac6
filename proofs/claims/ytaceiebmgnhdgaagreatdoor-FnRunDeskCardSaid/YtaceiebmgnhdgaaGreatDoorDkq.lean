/- The desk of the program: what a word asks. No condition. -/
import Derived.Test.YtaceiebmgnhdgaaGreatDoorDki
import Derived.Laws.ResultCell
namespace Go.Proofs.YtaceiebmgnhdgaaGreatDoor
open Go.RowKit

/-- Block g is a question's struct that holds these two functions. -/
def Qst (w : World) (g : Nat) (u v : Value) : Prop := w.heap[g]? = some (.cells #[u, v] 75 (0, 0))
theorem Qst.cell0 {w : World} {g : Nat} {u v : Value} (h : Qst w g u v) : w.cell? ⟨g, 0, none⟩ = some u := by rw [cell_of_row w g 0 _ _ (0, 0) h]; rfl
theorem Qst.cell1 {w : World} {g : Nat} {u v : Value} (h : Qst w g u v) : w.cell? ⟨g, 1, none⟩ = some v := by rw [cell_of_row w g 1 _ _ (0, 0) h]; rfl
theorem Qst.other {w : World} {g : Nat} {u v : Value} (h : Qst w g u v) {a : Addr} (ha : a.block ≠ g) (x : Value) : Qst (w.setCell a x) g u v := by
  rw [Qst, Below.heap_setCell _ _ _ _ (by omega)]; exact h
theorem Qst.below {B : Nat} {w w' : World} {g : Nat} {u v : Value} (h : Qst w g u v) (hg : g < B) (hb : Below B w w') : Qst w' g u v := (hb.block g hg).trans h
theorem Qst.lt {w : World} {g : Nat} {u v : Value} (h : Qst w g u v) : g < w.heap.size := (Array.getElem?_eq_some_iff.1 h).1
theorem Qst.keep {w w' : World} {g : Nat} {u v : Value} (h : Qst w g u v) (hb : Below w.heap.size w w') : Qst w' g u v := h.below h.lt hb
theorem Qst.made (w : World) (u v : Value) : Qst (w.alloc (.cells #[u, v] 75)) w.heap.size u v := heap_alloc_new w _
theorem Qst.frozen {w : World} {g : Nat} {u v : Value} (h : Qst w g u v) (j : Nat) : w.frozen? ⟨g, j, none⟩ = false := frozen_of_row w g j _ _ h
theorem Qst.set0 {w : World} {g : Nat} {u v : Value} (h : Qst w g u v) (x : Value) : Qst (w.setCell ⟨g, 0, none⟩ x) g x v := by
  have := heap_setCell_same w g 0 _ _ x h
  rw [Qst, this]; rfl
theorem Qst.set1 {w : World} {g : Nat} {u v : Value} (h : Qst w g u v) (x : Value) : Qst (w.setCell ⟨g, 1, none⟩ x) g u x := by
  have := heap_setCell_same w g 1 _ _ x h
  rw [Qst, this]; rfl
theorem sizeQ2 : (Tryz.prog.info? 75).map (·.size) = some 2 := by kernel_rfl

theorem results_q2 {fn : Func} {p u : Tmp} (h : fn.results = #[.cell p 75, .tmp u]) (tmps : Array Value) (w : World) (g : Nat) (x y : Value)
    (hp : tmps.getD p undef = .pointer (some ⟨g, 0, none⟩)) (hg : Qst w g x y) :
    (results fn tmps).run Tryz.prog w = .ok (.tuple #[.agg #[x, y], tmps.getD u undef]) w := by
  have e := run_loadVar_row (P := Tryz.prog) w g 75 75 _ (0, 0) _ hg Tryz.underlying75 rfl sizeQ2
  rw [results_cell_tmp h, hp]
  simp [asAddr, e]

theorem heap_setCell2_other {w : World} {g b : Nat} {i j : Nat} {x y : Value} (h : b ≠ g) : ((w.setCell ⟨g, i, none⟩ x).setCell ⟨g, j, none⟩ y).heap[b]? = w.heap[b]? := by
  rw [Below.heap_setCell _ _ _ _ (fun e => h e), Below.heap_setCell _ _ _ _ (fun e => h e)]
theorem box_ne {w : World} {g b : Nat} {F : FuncId} {T : TypeId} {u v : Value} (hq : Qst w g u v) (hx : BoxAt w b F T) : b ≠ g := by
  rintro rfl
  rw [Qst] at hq
  rw [BoxAt] at hx
  rw [hx] at hq
  simp at hq

set_option maxHeartbeats 1000000 in
theorem inDec_any (g : FuncId) (bs : Array Value) (w : World) :
    Calls Tryz.prog 67 #[.func (.func g) #[] bs] w fun e w' => e = .returned (.func (.func 97) #[] #[.pointer (some ⟨w.heap.size, 0, none⟩)]) ∧ FnAt w' w.heap.size (.func (.func g) #[] bs) ∧ Below w.heap.size w w' := by
  go_enter Tryz.func67, Tryz.ntmps67
  go_wp2
  go_ret
  exact ⟨rfl, heap_alloc_new w _, (Below.refl _ _).alloc (Nat.le_refl _) _⟩

set_option maxRecDepth 20000 in
set_option maxHeartbeats 2000000 in
theorem qst0_any (w : World) :
    Calls Tryz.prog 47 #[.string nm_inversions] w fun e w' => ∃ b, e = .returned (.tuple #[.agg #[.func (.func 66) #[] #[], .func (.func 97) #[] #[.pointer (some ⟨b, 0, none⟩)]], .bool true]) ∧ FnAt w' b (.func (.func 85) #[] #[]) ∧ Below w.heap.size w w' := by
  go_enter Tryz.func47, Tryz.ntmps47
  have hq0 := (Below.refl w.heap.size w).alloc (Nat.le_refl _) (.cells #[.nilFunc, .nilFunc] 75)
  go_wp2_with fail
  refine (counters_any _).mono ?_
  rintro e w1 ⟨b0, rfl, C, b1⟩
  have h0 : Qst w1 w.heap.size .nilFunc .nilFunc := (Qst.made w _ _).keep b1
  have hb1 : Below w.heap.size w w1 := hq0.trans (b1.mono hq0.size)
  obtain ⟨x1, x2, x3, x4, hM, hx1, hx2, hx3, hx4⟩ := C.all
  have hsee := run_see (P := Tryz.prog) Tryz.underlying100 Tryz.underlying9 [] [(nm_major, .agg #[.func (.func 86) #[] #[]]), (nm_denert, .agg #[.func (.func 87) #[] #[]]), (nm_crossings, .agg #[.func (.func 88) #[] #[]]), (nm_nestings, .agg #[.func (.func 89) #[] #[]]), (nm_descents, .agg #[.func (.func 118) #[] #[.pointer (some ⟨x1, 0, none⟩)]]), (nm_above, .agg #[.func (.func 118) #[] #[.pointer (some ⟨x2, 0, none⟩)]]), (nm_records, .agg #[.func (.func 118) #[] #[.pointer (some ⟨x3, 0, none⟩)]]), (nm_circles, .agg #[.func (.func 121) #[] #[.pointer (some ⟨x4, 0, none⟩)]])] nm_inversions (.agg #[.func (.func 85) #[] #[]]) hM (nm_new _ _ rfl)
  have hc := (Below.refl w1.heap.size w1).alloc (Nat.le_refl _) (.cells #[.func (.func 85) #[] #[]] 98)
  have HQ0 : Qst (w1.alloc (.cells #[.func (.func 85) #[] #[]] 98)) w.heap.size .nilFunc .nilFunc := h0.keep hc
  have hb2 := hb1.trans (hc.mono hb1.size)
  clear hM C
  go_wp2_with fail
  refine (inDec_any _ _ _).mono ?_
  rintro e w2 ⟨rfl, hfn, hb3⟩
  rw [World.size_alloc] at hfn
  have HQ := HQ0.keep hb3
  have hb4 := hb2.trans (hb3.mono hb2.size)
  have hlt : w.heap.size < (w1.alloc (.cells #[.func (.func 85) #[] #[]] 98)).heap.size := HQ0.lt
  have hne : (w1.alloc (.cells #[.func (.func 85) #[] #[]] 98)).heap.size ≠ w.heap.size := by omega
  rw [World.size_alloc] at hne
  clear hlt HQ0 h0 hc
  have cc0 := HQ.cell0
  have ff0 := HQ.frozen 0
  have hq1 := HQ.set0 (.func (.func 66) #[] #[])
  have cc1 := hq1.cell1
  have ff1 := hq1.frozen 1
  go_wp2
  (try simp only [Exit.inBlock, Exit.then])
  refine bodyPost_ret (results_q2 rfl _ _ w.heap.size _ _ rfl (hq1.set1 _)) rfl ?_
  exact ⟨_, rfl, (heap_setCell2_other hne).trans hfn, (hb4.setCell (Nat.le_refl _) _).setCell (Nat.le_refl _) _⟩

set_option maxRecDepth 20000 in
set_option maxHeartbeats 2000000 in
theorem qst1_any (w : World) :
    Calls Tryz.prog 47 #[.string nm_major] w fun e w' => ∃ b, e = .returned (.tuple #[.agg #[.func (.func 66) #[] #[], .func (.func 97) #[] #[.pointer (some ⟨b, 0, none⟩)]], .bool true]) ∧ FnAt w' b (.func (.func 86) #[] #[]) ∧ Below w.heap.size w w' := by
  go_enter Tryz.func47, Tryz.ntmps47
  have hq0 := (Below.refl w.heap.size w).alloc (Nat.le_refl _) (.cells #[.nilFunc, .nilFunc] 75)
  go_wp2_with fail
  refine (counters_any _).mono ?_
  rintro e w1 ⟨b0, rfl, C, b1⟩
  have h0 : Qst w1 w.heap.size .nilFunc .nilFunc := (Qst.made w _ _).keep b1
  have hb1 : Below w.heap.size w w1 := hq0.trans (b1.mono hq0.size)
  obtain ⟨x1, x2, x3, x4, hM, hx1, hx2, hx3, hx4⟩ := C.all
  have hsee := run_see (P := Tryz.prog) Tryz.underlying100 Tryz.underlying9 [(nm_inversions, .agg #[.func (.func 85) #[] #[]])] [(nm_denert, .agg #[.func (.func 87) #[] #[]]), (nm_crossings, .agg #[.func (.func 88) #[] #[]]), (nm_nestings, .agg #[.func (.func 89) #[] #[]]), (nm_descents, .agg #[.func (.func 118) #[] #[.pointer (some ⟨x1, 0, none⟩)]]), (nm_above, .agg #[.func (.func 118) #[] #[.pointer (some ⟨x2, 0, none⟩)]]), (nm_records, .agg #[.func (.func 118) #[] #[.pointer (some ⟨x3, 0, none⟩)]]), (nm_circles, .agg #[.func (.func 121) #[] #[.pointer (some ⟨x4, 0, none⟩)]])] nm_major (.agg #[.func (.func 86) #[] #[]]) hM (nm_new _ _ rfl)
  have hc := (Below.refl w1.heap.size w1).alloc (Nat.le_refl _) (.cells #[.func (.func 86) #[] #[]] 98)
  have HQ0 : Qst (w1.alloc (.cells #[.func (.func 86) #[] #[]] 98)) w.heap.size .nilFunc .nilFunc := h0.keep hc
  have hb2 := hb1.trans (hc.mono hb1.size)
  clear hM C
  go_wp2_with fail
  refine (inDec_any _ _ _).mono ?_
  rintro e w2 ⟨rfl, hfn, hb3⟩
  rw [World.size_alloc] at hfn
  have HQ := HQ0.keep hb3
  have hb4 := hb2.trans (hb3.mono hb2.size)
  have hlt : w.heap.size < (w1.alloc (.cells #[.func (.func 86) #[] #[]] 98)).heap.size := HQ0.lt
  have hne : (w1.alloc (.cells #[.func (.func 86) #[] #[]] 98)).heap.size ≠ w.heap.size := by omega
  rw [World.size_alloc] at hne
  clear hlt HQ0 h0 hc
  have cc0 := HQ.cell0
  have ff0 := HQ.frozen 0
  have hq1 := HQ.set0 (.func (.func 66) #[] #[])
  have cc1 := hq1.cell1
  have ff1 := hq1.frozen 1
  go_wp2
  (try simp only [Exit.inBlock, Exit.then])
  refine bodyPost_ret (results_q2 rfl _ _ w.heap.size _ _ rfl (hq1.set1 _)) rfl ?_
  exact ⟨_, rfl, (heap_setCell2_other hne).trans hfn, (hb4.setCell (Nat.le_refl _) _).setCell (Nat.le_refl _) _⟩

set_option maxRecDepth 20000 in
set_option maxHeartbeats 2000000 in
theorem qst2_any (w : World) :
    Calls Tryz.prog 47 #[.string nm_denert] w fun e w' => ∃ b, e = .returned (.tuple #[.agg #[.func (.func 66) #[] #[], .func (.func 97) #[] #[.pointer (some ⟨b, 0, none⟩)]], .bool true]) ∧ FnAt w' b (.func (.func 87) #[] #[]) ∧ Below w.heap.size w w' := by
  go_enter Tryz.func47, Tryz.ntmps47
  have hq0 := (Below.refl w.heap.size w).alloc (Nat.le_refl _) (.cells #[.nilFunc, .nilFunc] 75)
  go_wp2_with fail
  refine (counters_any _).mono ?_
  rintro e w1 ⟨b0, rfl, C, b1⟩
  have h0 : Qst w1 w.heap.size .nilFunc .nilFunc := (Qst.made w _ _).keep b1
  have hb1 : Below w.heap.size w w1 := hq0.trans (b1.mono hq0.size)
  obtain ⟨x1, x2, x3, x4, hM, hx1, hx2, hx3, hx4⟩ := C.all
  have hsee := run_see (P := Tryz.prog) Tryz.underlying100 Tryz.underlying9 [(nm_inversions, .agg #[.func (.func 85) #[] #[]]), (nm_major, .agg #[.func (.func 86) #[] #[]])] [(nm_crossings, .agg #[.func (.func 88) #[] #[]]), (nm_nestings, .agg #[.func (.func 89) #[] #[]]), (nm_descents, .agg #[.func (.func 118) #[] #[.pointer (some ⟨x1, 0, none⟩)]]), (nm_above, .agg #[.func (.func 118) #[] #[.pointer (some ⟨x2, 0, none⟩)]]), (nm_records, .agg #[.func (.func 118) #[] #[.pointer (some ⟨x3, 0, none⟩)]]), (nm_circles, .agg #[.func (.func 121) #[] #[.pointer (some ⟨x4, 0, none⟩)]])] nm_denert (.agg #[.func (.func 87) #[] #[]]) hM (nm_new _ _ rfl)
  have hc := (Below.refl w1.heap.size w1).alloc (Nat.le_refl _) (.cells #[.func (.func 87) #[] #[]] 98)
  have HQ0 : Qst (w1.alloc (.cells #[.func (.func 87) #[] #[]] 98)) w.heap.size .nilFunc .nilFunc := h0.keep hc
  have hb2 := hb1.trans (hc.mono hb1.size)
  clear hM C
  go_wp2_with fail
  refine (inDec_any _ _ _).mono ?_
  rintro e w2 ⟨rfl, hfn, hb3⟩
  rw [World.size_alloc] at hfn
  have HQ := HQ0.keep hb3
  have hb4 := hb2.trans (hb3.mono hb2.size)
  have hlt : w.heap.size < (w1.alloc (.cells #[.func (.func 87) #[] #[]] 98)).heap.size := HQ0.lt
  have hne : (w1.alloc (.cells #[.func (.func 87) #[] #[]] 98)).heap.size ≠ w.heap.size := by omega
  rw [World.size_alloc] at hne
  clear hlt HQ0 h0 hc
  have cc0 := HQ.cell0
  have ff0 := HQ.frozen 0
  have hq1 := HQ.set0 (.func (.func 66) #[] #[])
  have cc1 := hq1.cell1
  have ff1 := hq1.frozen 1
  go_wp2
  (try simp only [Exit.inBlock, Exit.then])
  refine bodyPost_ret (results_q2 rfl _ _ w.heap.size _ _ rfl (hq1.set1 _)) rfl ?_
  exact ⟨_, rfl, (heap_setCell2_other hne).trans hfn, (hb4.setCell (Nat.le_refl _) _).setCell (Nat.le_refl _) _⟩

set_option maxRecDepth 20000 in
set_option maxHeartbeats 2000000 in
theorem qst3_any (w : World) :
    Calls Tryz.prog 47 #[.string nm_crossings] w fun e w' => ∃ b, e = .returned (.tuple #[.agg #[.func (.func 66) #[] #[], .func (.func 97) #[] #[.pointer (some ⟨b, 0, none⟩)]], .bool true]) ∧ FnAt w' b (.func (.func 88) #[] #[]) ∧ Below w.heap.size w w' := by
  go_enter Tryz.func47, Tryz.ntmps47
  have hq0 := (Below.refl w.heap.size w).alloc (Nat.le_refl _) (.cells #[.nilFunc, .nilFunc] 75)
  go_wp2_with fail
  refine (counters_any _).mono ?_
  rintro e w1 ⟨b0, rfl, C, b1⟩
  have h0 : Qst w1 w.heap.size .nilFunc .nilFunc := (Qst.made w _ _).keep b1
  have hb1 : Below w.heap.size w w1 := hq0.trans (b1.mono hq0.size)
  obtain ⟨x1, x2, x3, x4, hM, hx1, hx2, hx3, hx4⟩ := C.all
  have hsee := run_see (P := Tryz.prog) Tryz.underlying100 Tryz.underlying9 [(nm_inversions, .agg #[.func (.func 85) #[] #[]]), (nm_major, .agg #[.func (.func 86) #[] #[]]), (nm_denert, .agg #[.func (.func 87) #[] #[]])] [(nm_nestings, .agg #[.func (.func 89) #[] #[]]), (nm_descents, .agg #[.func (.func 118) #[] #[.pointer (some ⟨x1, 0, none⟩)]]), (nm_above, .agg #[.func (.func 118) #[] #[.pointer (some ⟨x2, 0, none⟩)]]), (nm_records, .agg #[.func (.func 118) #[] #[.pointer (some ⟨x3, 0, none⟩)]]), (nm_circles, .agg #[.func (.func 121) #[] #[.pointer (some ⟨x4, 0, none⟩)]])] nm_crossings (.agg #[.func (.func 88) #[] #[]]) hM (nm_new _ _ rfl)
  have hc := (Below.refl w1.heap.size w1).alloc (Nat.le_refl _) (.cells #[.func (.func 88) #[] #[]] 98)
  have HQ0 : Qst (w1.alloc (.cells #[.func (.func 88) #[] #[]] 98)) w.heap.size .nilFunc .nilFunc := h0.keep hc
  have hb2 := hb1.trans (hc.mono hb1.size)
  clear hM C
  go_wp2_with fail
  refine (inDec_any _ _ _).mono ?_
  rintro e w2 ⟨rfl, hfn, hb3⟩
  rw [World.size_alloc] at hfn
  have HQ := HQ0.keep hb3
  have hb4 := hb2.trans (hb3.mono hb2.size)
  have hlt : w.heap.size < (w1.alloc (.cells #[.func (.func 88) #[] #[]] 98)).heap.size := HQ0.lt
  have hne : (w1.alloc (.cells #[.func (.func 88) #[] #[]] 98)).heap.size ≠ w.heap.size := by omega
  rw [World.size_alloc] at hne
  clear hlt HQ0 h0 hc
  have cc0 := HQ.cell0
  have ff0 := HQ.frozen 0
  have hq1 := HQ.set0 (.func (.func 66) #[] #[])
  have cc1 := hq1.cell1
  have ff1 := hq1.frozen 1
  go_wp2
  (try simp only [Exit.inBlock, Exit.then])
  refine bodyPost_ret (results_q2 rfl _ _ w.heap.size _ _ rfl (hq1.set1 _)) rfl ?_
  exact ⟨_, rfl, (heap_setCell2_other hne).trans hfn, (hb4.setCell (Nat.le_refl _) _).setCell (Nat.le_refl _) _⟩

set_option maxRecDepth 20000 in
set_option maxHeartbeats 2000000 in
theorem qst4_any (w : World) :
    Calls Tryz.prog 47 #[.string nm_nestings] w fun e w' => ∃ b, e = .returned (.tuple #[.agg #[.func (.func 66) #[] #[], .func (.func 97) #[] #[.pointer (some ⟨b, 0, none⟩)]], .bool true]) ∧ FnAt w' b (.func (.func 89) #[] #[]) ∧ Below w.heap.size w w' := by
  go_enter Tryz.func47, Tryz.ntmps47
  have hq0 := (Below.refl w.heap.size w).alloc (Nat.le_refl _) (.cells #[.nilFunc, .nilFunc] 75)
  go_wp2_with fail
  refine (counters_any _).mono ?_
  rintro e w1 ⟨b0, rfl, C, b1⟩
  have h0 : Qst w1 w.heap.size .nilFunc .nilFunc := (Qst.made w _ _).keep b1
  have hb1 : Below w.heap.size w w1 := hq0.trans (b1.mono hq0.size)
  obtain ⟨x1, x2, x3, x4, hM, hx1, hx2, hx3, hx4⟩ := C.all
  have hsee := run_see (P := Tryz.prog) Tryz.underlying100 Tryz.underlying9 [(nm_inversions, .agg #[.func (.func 85) #[] #[]]), (nm_major, .agg #[.func (.func 86) #[] #[]]), (nm_denert, .agg #[.func (.func 87) #[] #[]]), (nm_crossings, .agg #[.func (.func 88) #[] #[]])] [(nm_descents, .agg #[.func (.func 118) #[] #[.pointer (some ⟨x1, 0, none⟩)]]), (nm_above, .agg #[.func (.func 118) #[] #[.pointer (some ⟨x2, 0, none⟩)]]), (nm_records, .agg #[.func (.func 118) #[] #[.pointer (some ⟨x3, 0, none⟩)]]), (nm_circles, .agg #[.func (.func 121) #[] #[.pointer (some ⟨x4, 0, none⟩)]])] nm_nestings (.agg #[.func (.func 89) #[] #[]]) hM (nm_new _ _ rfl)
  have hc := (Below.refl w1.heap.size w1).alloc (Nat.le_refl _) (.cells #[.func (.func 89) #[] #[]] 98)
  have HQ0 : Qst (w1.alloc (.cells #[.func (.func 89) #[] #[]] 98)) w.heap.size .nilFunc .nilFunc := h0.keep hc
  have hb2 := hb1.trans (hc.mono hb1.size)
  clear hM C
  go_wp2_with fail
  refine (inDec_any _ _ _).mono ?_
  rintro e w2 ⟨rfl, hfn, hb3⟩
  rw [World.size_alloc] at hfn
  have HQ := HQ0.keep hb3
  have hb4 := hb2.trans (hb3.mono hb2.size)
  have hlt : w.heap.size < (w1.alloc (.cells #[.func (.func 89) #[] #[]] 98)).heap.size := HQ0.lt
  have hne : (w1.alloc (.cells #[.func (.func 89) #[] #[]] 98)).heap.size ≠ w.heap.size := by omega
  rw [World.size_alloc] at hne
  clear hlt HQ0 h0 hc
  have cc0 := HQ.cell0
  have ff0 := HQ.frozen 0
  have hq1 := HQ.set0 (.func (.func 66) #[] #[])
  have cc1 := hq1.cell1
  have ff1 := hq1.frozen 1
  go_wp2
  (try simp only [Exit.inBlock, Exit.then])
  refine bodyPost_ret (results_q2 rfl _ _ w.heap.size _ _ rfl (hq1.set1 _)) rfl ?_
  exact ⟨_, rfl, (heap_setCell2_other hne).trans hfn, (hb4.setCell (Nat.le_refl _) _).setCell (Nat.le_refl _) _⟩

set_option maxRecDepth 20000 in
set_option maxHeartbeats 2000000 in
theorem qst5_any (w : World) :
    Calls Tryz.prog 47 #[.string nm_descents] w fun e w' => ∃ b c, e = .returned (.tuple #[.agg #[.func (.func 66) #[] #[], .func (.func 97) #[] #[.pointer (some ⟨b, 0, none⟩)]], .bool true]) ∧ FnAt w' b (.func (.func 118) #[] #[.pointer (some ⟨c, 0, none⟩)]) ∧ BoxAt w' c 91 67 ∧ Below w.heap.size w w' := by
  go_enter Tryz.func47, Tryz.ntmps47
  have hq0 := (Below.refl w.heap.size w).alloc (Nat.le_refl _) (.cells #[.nilFunc, .nilFunc] 75)
  go_wp2_with fail
  refine (counters_any _).mono ?_
  rintro e w1 ⟨b0, rfl, C, b1⟩
  have h0 : Qst w1 w.heap.size .nilFunc .nilFunc := (Qst.made w _ _).keep b1
  have hb1 : Below w.heap.size w w1 := hq0.trans (b1.mono hq0.size)
  obtain ⟨x1, x2, x3, x4, hM, hx1, hx2, hx3, hx4⟩ := C.all
  have hsee := run_see (P := Tryz.prog) Tryz.underlying100 Tryz.underlying9 [(nm_inversions, .agg #[.func (.func 85) #[] #[]]), (nm_major, .agg #[.func (.func 86) #[] #[]]), (nm_denert, .agg #[.func (.func 87) #[] #[]]), (nm_crossings, .agg #[.func (.func 88) #[] #[]]), (nm_nestings, .agg #[.func (.func 89) #[] #[]])] [(nm_above, .agg #[.func (.func 118) #[] #[.pointer (some ⟨x2, 0, none⟩)]]), (nm_records, .agg #[.func (.func 118) #[] #[.pointer (some ⟨x3, 0, none⟩)]]), (nm_circles, .agg #[.func (.func 121) #[] #[.pointer (some ⟨x4, 0, none⟩)]])] nm_descents (.agg #[.func (.func 118) #[] #[.pointer (some ⟨x1, 0, none⟩)]]) hM (nm_new _ _ rfl)
  have hc := (Below.refl w1.heap.size w1).alloc (Nat.le_refl _) (.cells #[.func (.func 118) #[] #[.pointer (some ⟨x1, 0, none⟩)]] 98)
  have HQ0 : Qst (w1.alloc (.cells #[.func (.func 118) #[] #[.pointer (some ⟨x1, 0, none⟩)]] 98)) w.heap.size .nilFunc .nilFunc := h0.keep hc
  have hb2 := hb1.trans (hc.mono hb1.size)
  have hxx := hx1.kept hc
  clear hM C
  go_wp2_with fail
  refine (inDec_any _ _ _).mono ?_
  rintro e w2 ⟨rfl, hfn, hb3⟩
  rw [World.size_alloc] at hfn
  have HQ := HQ0.keep hb3
  have hxx := hxx.kept hb3
  have hbne := box_ne HQ hxx
  have hb4 := hb2.trans (hb3.mono hb2.size)
  have hlt : w.heap.size < (w1.alloc (.cells #[.func (.func 118) #[] #[.pointer (some ⟨x1, 0, none⟩)]] 98)).heap.size := HQ0.lt
  have hne : (w1.alloc (.cells #[.func (.func 118) #[] #[.pointer (some ⟨x1, 0, none⟩)]] 98)).heap.size ≠ w.heap.size := by omega
  rw [World.size_alloc] at hne
  clear hlt HQ0 h0 hc
  have cc0 := HQ.cell0
  have ff0 := HQ.frozen 0
  have hq1 := HQ.set0 (.func (.func 66) #[] #[])
  have cc1 := hq1.cell1
  have ff1 := hq1.frozen 1
  go_wp2
  (try simp only [Exit.inBlock, Exit.then])
  refine bodyPost_ret (results_q2 rfl _ _ w.heap.size _ _ rfl (hq1.set1 _)) rfl ?_
  exact ⟨_, x1, rfl, (heap_setCell2_other hne).trans hfn, (heap_setCell2_other hbne).trans hxx, (hb4.setCell (Nat.le_refl _) _).setCell (Nat.le_refl _) _⟩

set_option maxRecDepth 20000 in
set_option maxHeartbeats 2000000 in
theorem qst6_any (w : World) :
    Calls Tryz.prog 47 #[.string nm_above] w fun e w' => ∃ b c, e = .returned (.tuple #[.agg #[.func (.func 66) #[] #[], .func (.func 97) #[] #[.pointer (some ⟨b, 0, none⟩)]], .bool true]) ∧ FnAt w' b (.func (.func 118) #[] #[.pointer (some ⟨c, 0, none⟩)]) ∧ BoxAt w' c 92 67 ∧ Below w.heap.size w w' := by
  go_enter Tryz.func47, Tryz.ntmps47
  have hq0 := (Below.refl w.heap.size w).alloc (Nat.le_refl _) (.cells #[.nilFunc, .nilFunc] 75)
  go_wp2_with fail
  refine (counters_any _).mono ?_
  rintro e w1 ⟨b0, rfl, C, b1⟩
  have h0 : Qst w1 w.heap.size .nilFunc .nilFunc := (Qst.made w _ _).keep b1
  have hb1 : Below w.heap.size w w1 := hq0.trans (b1.mono hq0.size)
  obtain ⟨x1, x2, x3, x4, hM, hx1, hx2, hx3, hx4⟩ := C.all
  have hsee := run_see (P := Tryz.prog) Tryz.underlying100 Tryz.underlying9 [(nm_inversions, .agg #[.func (.func 85) #[] #[]]), (nm_major, .agg #[.func (.func 86) #[] #[]]), (nm_denert, .agg #[.func (.func 87) #[] #[]]), (nm_crossings, .agg #[.func (.func 88) #[] #[]]), (nm_nestings, .agg #[.func (.func 89) #[] #[]]), (nm_descents, .agg #[.func (.func 118) #[] #[.pointer (some ⟨x1, 0, none⟩)]])] [(nm_records, .agg #[.func (.func 118) #[] #[.pointer (some ⟨x3, 0, none⟩)]]), (nm_circles, .agg #[.func (.func 121) #[] #[.pointer (some ⟨x4, 0, none⟩)]])] nm_above (.agg #[.func (.func 118) #[] #[.pointer (some ⟨x2, 0, none⟩)]]) hM (nm_new _ _ rfl)
  have hc := (Below.refl w1.heap.size w1).alloc (Nat.le_refl _) (.cells #[.func (.func 118) #[] #[.pointer (some ⟨x2, 0, none⟩)]] 98)
  have HQ0 : Qst (w1.alloc (.cells #[.func (.func 118) #[] #[.pointer (some ⟨x2, 0, none⟩)]] 98)) w.heap.size .nilFunc .nilFunc := h0.keep hc
  have hb2 := hb1.trans (hc.mono hb1.size)
  have hxx := hx2.kept hc
  clear hM C
  go_wp2_with fail
  refine (inDec_any _ _ _).mono ?_
  rintro e w2 ⟨rfl, hfn, hb3⟩
  rw [World.size_alloc] at hfn
  have HQ := HQ0.keep hb3
  have hxx := hxx.kept hb3
  have hbne := box_ne HQ hxx
  have hb4 := hb2.trans (hb3.mono hb2.size)
  have hlt : w.heap.size < (w1.alloc (.cells #[.func (.func 118) #[] #[.pointer (some ⟨x2, 0, none⟩)]] 98)).heap.size := HQ0.lt
  have hne : (w1.alloc (.cells #[.func (.func 118) #[] #[.pointer (some ⟨x2, 0, none⟩)]] 98)).heap.size ≠ w.heap.size := by omega
  rw [World.size_alloc] at hne
  clear hlt HQ0 h0 hc
  have cc0 := HQ.cell0
  have ff0 := HQ.frozen 0
  have hq1 := HQ.set0 (.func (.func 66) #[] #[])
  have cc1 := hq1.cell1
  have ff1 := hq1.frozen 1
  go_wp2
  (try simp only [Exit.inBlock, Exit.then])
  refine bodyPost_ret (results_q2 rfl _ _ w.heap.size _ _ rfl (hq1.set1 _)) rfl ?_
  exact ⟨_, x2, rfl, (heap_setCell2_other hne).trans hfn, (heap_setCell2_other hbne).trans hxx, (hb4.setCell (Nat.le_refl _) _).setCell (Nat.le_refl _) _⟩

set_option maxRecDepth 20000 in
set_option maxHeartbeats 2000000 in
theorem qst7_any (w : World) :
    Calls Tryz.prog 47 #[.string nm_records] w fun e w' => ∃ b c, e = .returned (.tuple #[.agg #[.func (.func 66) #[] #[], .func (.func 97) #[] #[.pointer (some ⟨b, 0, none⟩)]], .bool true]) ∧ FnAt w' b (.func (.func 118) #[] #[.pointer (some ⟨c, 0, none⟩)]) ∧ BoxAt w' c 93 67 ∧ Below w.heap.size w w' := by
  go_enter Tryz.func47, Tryz.ntmps47
  have hq0 := (Below.refl w.heap.size w).alloc (Nat.le_refl _) (.cells #[.nilFunc, .nilFunc] 75)
  go_wp2_with fail
  refine (counters_any _).mono ?_
  rintro e w1 ⟨b0, rfl, C, b1⟩
  have h0 : Qst w1 w.heap.size .nilFunc .nilFunc := (Qst.made w _ _).keep b1
  have hb1 : Below w.heap.size w w1 := hq0.trans (b1.mono hq0.size)
  obtain ⟨x1, x2, x3, x4, hM, hx1, hx2, hx3, hx4⟩ := C.all
  have hsee := run_see (P := Tryz.prog) Tryz.underlying100 Tryz.underlying9 [(nm_inversions, .agg #[.func (.func 85) #[] #[]]), (nm_major, .agg #[.func (.func 86) #[] #[]]), (nm_denert, .agg #[.func (.func 87) #[] #[]]), (nm_crossings, .agg #[.func (.func 88) #[] #[]]), (nm_nestings, .agg #[.func (.func 89) #[] #[]]), (nm_descents, .agg #[.func (.func 118) #[] #[.pointer (some ⟨x1, 0, none⟩)]]), (nm_above, .agg #[.func (.func 118) #[] #[.pointer (some ⟨x2, 0, none⟩)]])] [(nm_circles, .agg #[.func (.func 121) #[] #[.pointer (some ⟨x4, 0, none⟩)]])] nm_records (.agg #[.func (.func 118) #[] #[.pointer (some ⟨x3, 0, none⟩)]]) hM (nm_new _ _ rfl)
  have hc := (Below.refl w1.heap.size w1).alloc (Nat.le_refl _) (.cells #[.func (.func 118) #[] #[.pointer (some ⟨x3, 0, none⟩)]] 98)
  have HQ0 : Qst (w1.alloc (.cells #[.func (.func 118) #[] #[.pointer (some ⟨x3, 0, none⟩)]] 98)) w.heap.size .nilFunc .nilFunc := h0.keep hc
  have hb2 := hb1.trans (hc.mono hb1.size)
  have hxx := hx3.kept hc
  clear hM C
  go_wp2_with fail
  refine (inDec_any _ _ _).mono ?_
  rintro e w2 ⟨rfl, hfn, hb3⟩
  rw [World.size_alloc] at hfn
  have HQ := HQ0.keep hb3
  have hxx := hxx.kept hb3
  have hbne := box_ne HQ hxx
  have hb4 := hb2.trans (hb3.mono hb2.size)
  have hlt : w.heap.size < (w1.alloc (.cells #[.func (.func 118) #[] #[.pointer (some ⟨x3, 0, none⟩)]] 98)).heap.size := HQ0.lt
  have hne : (w1.alloc (.cells #[.func (.func 118) #[] #[.pointer (some ⟨x3, 0, none⟩)]] 98)).heap.size ≠ w.heap.size := by omega
  rw [World.size_alloc] at hne
  clear hlt HQ0 h0 hc
  have cc0 := HQ.cell0
  have ff0 := HQ.frozen 0
  have hq1 := HQ.set0 (.func (.func 66) #[] #[])
  have cc1 := hq1.cell1
  have ff1 := hq1.frozen 1
  go_wp2
  (try simp only [Exit.inBlock, Exit.then])
  refine bodyPost_ret (results_q2 rfl _ _ w.heap.size _ _ rfl (hq1.set1 _)) rfl ?_
  exact ⟨_, x3, rfl, (heap_setCell2_other hne).trans hfn, (heap_setCell2_other hbne).trans hxx, (hb4.setCell (Nat.le_refl _) _).setCell (Nat.le_refl _) _⟩

set_option maxRecDepth 20000 in
set_option maxHeartbeats 2000000 in
theorem qst8_any (w : World) :
    Calls Tryz.prog 47 #[.string nm_circles] w fun e w' => ∃ b c, e = .returned (.tuple #[.agg #[.func (.func 66) #[] #[], .func (.func 97) #[] #[.pointer (some ⟨b, 0, none⟩)]], .bool true]) ∧ FnAt w' b (.func (.func 121) #[] #[.pointer (some ⟨c, 0, none⟩)]) ∧ BoxAt w' c 95 92 ∧ Below w.heap.size w w' := by
  go_enter Tryz.func47, Tryz.ntmps47
  have hq0 := (Below.refl w.heap.size w).alloc (Nat.le_refl _) (.cells #[.nilFunc, .nilFunc] 75)
  go_wp2_with fail
  refine (counters_any _).mono ?_
  rintro e w1 ⟨b0, rfl, C, b1⟩
  have h0 : Qst w1 w.heap.size .nilFunc .nilFunc := (Qst.made w _ _).keep b1
  have hb1 : Below w.heap.size w w1 := hq0.trans (b1.mono hq0.size)
  obtain ⟨x1, x2, x3, x4, hM, hx1, hx2, hx3, hx4⟩ := C.all
  have hsee := run_see (P := Tryz.prog) Tryz.underlying100 Tryz.underlying9 [(nm_inversions, .agg #[.func (.func 85) #[] #[]]), (nm_major, .agg #[.func (.func 86) #[] #[]]), (nm_denert, .agg #[.func (.func 87) #[] #[]]), (nm_crossings, .agg #[.func (.func 88) #[] #[]]), (nm_nestings, .agg #[.func (.func 89) #[] #[]]), (nm_descents, .agg #[.func (.func 118) #[] #[.pointer (some ⟨x1, 0, none⟩)]]), (nm_above, .agg #[.func (.func 118) #[] #[.pointer (some ⟨x2, 0, none⟩)]]), (nm_records, .agg #[.func (.func 118) #[] #[.pointer (some ⟨x3, 0, none⟩)]])] [] nm_circles (.agg #[.func (.func 121) #[] #[.pointer (some ⟨x4, 0, none⟩)]]) hM (nm_new _ _ rfl)
  have hc := (Below.refl w1.heap.size w1).alloc (Nat.le_refl _) (.cells #[.func (.func 121) #[] #[.pointer (some ⟨x4, 0, none⟩)]] 98)
  have HQ0 : Qst (w1.alloc (.cells #[.func (.func 121) #[] #[.pointer (some ⟨x4, 0, none⟩)]] 98)) w.heap.size .nilFunc .nilFunc := h0.keep hc
  have hb2 := hb1.trans (hc.mono hb1.size)
  have hxx := hx4.kept hc
  clear hM C
  go_wp2_with fail
  refine (inDec_any _ _ _).mono ?_
  rintro e w2 ⟨rfl, hfn, hb3⟩
  rw [World.size_alloc] at hfn
  have HQ := HQ0.keep hb3
  have hxx := hxx.kept hb3
  have hbne := box_ne HQ hxx
  have hb4 := hb2.trans (hb3.mono hb2.size)
  have hlt : w.heap.size < (w1.alloc (.cells #[.func (.func 121) #[] #[.pointer (some ⟨x4, 0, none⟩)]] 98)).heap.size := HQ0.lt
  have hne : (w1.alloc (.cells #[.func (.func 121) #[] #[.pointer (some ⟨x4, 0, none⟩)]] 98)).heap.size ≠ w.heap.size := by omega
  rw [World.size_alloc] at hne
  clear hlt HQ0 h0 hc
  have cc0 := HQ.cell0
  have ff0 := HQ.frozen 0
  have hq1 := HQ.set0 (.func (.func 66) #[] #[])
  have cc1 := hq1.cell1
  have ff1 := hq1.frozen 1
  go_wp2
  (try simp only [Exit.inBlock, Exit.then])
  refine bodyPost_ret (results_q2 rfl _ _ w.heap.size _ _ rfl (hq1.set1 _)) rfl ?_
  exact ⟨_, x4, rfl, (heap_setCell2_other hne).trans hfn, (heap_setCell2_other hbne).trans hxx, (hb4.setCell (Nat.le_refl _) _).setCell (Nat.le_refl _) _⟩

set_option maxRecDepth 20000 in
set_option maxHeartbeats 2000000 in
theorem qst9_any (w : World) :
    Calls Tryz.prog 47 #[.string ⟨#[116, 97, 98, 108, 101]⟩] w fun e w' => e = .returned (.tuple #[.agg #[.func (.func 66) #[] #[], .func (.func 68) #[] #[]], .bool true]) ∧ Below w.heap.size w w' := by
  go_enter Tryz.func47, Tryz.ntmps47
  have hq0 := (Below.refl w.heap.size w).alloc (Nat.le_refl _) (.cells #[.nilFunc, .nilFunc] 75)
  go_wp2_with fail
  refine (counters_any _).mono ?_
  rintro e w1 ⟨b0, rfl, C, b1⟩
  have h0 : Qst w1 w.heap.size .nilFunc .nilFunc := (Qst.made w _ _).keep b1
  have hb1 : Below w.heap.size w w1 := hq0.trans (b1.mono hq0.size)
  obtain ⟨x1, x2, x3, x4, hM, hx1, hx2, hx3, hx4⟩ := C.all
  have hun := run_unseen (P := Tryz.prog) Tryz.underlying100 Tryz.underlying9 (w := w1) (b := b0) (et := 98) (.agg #[.nilFunc]) (by kernel_rfl) ⟨#[116, 97, 98, 108, 101]⟩ hM (ix_no (by decide))
  have hc := (Below.refl w1.heap.size w1).alloc (Nat.le_refl _) (.cells #[.nilFunc] 98)
  have HQ0 : Qst (w1.alloc (.cells #[.nilFunc] 98)) w.heap.size .nilFunc .nilFunc := h0.keep hc
  have hb2 := hb1.trans (hc.mono hb1.size)
  have hlt : w.heap.size < (w1.alloc (.cells #[.nilFunc] 98)).heap.size := HQ0.lt
  have hne : (w1.alloc (.cells #[.nilFunc] 98)).heap.size ≠ w.heap.size := by omega
  rw [World.size_alloc] at hne
  clear hM C h0 hlt
  have HQ := HQ0
  have cc0 := HQ.cell0
  have ff0 := HQ.frozen 0
  have hq1 := HQ.set0 (.func (.func 66) #[] #[])
  have cc1 := hq1.cell1
  have ff1 := hq1.frozen 1
  go_wp2
  (try simp only [Exit.inBlock, Exit.then])
  refine bodyPost_ret (results_q2 rfl _ _ w.heap.size _ _ rfl (hq1.set1 _)) rfl ?_
  exact ⟨rfl, (hb2.setCell (Nat.le_refl _) _).setCell (Nat.le_refl _) _⟩

set_option maxRecDepth 20000 in
set_option maxHeartbeats 2000000 in
theorem qst10_any (w : World) :
    Calls Tryz.prog 47 #[.string ⟨#[102, 111, 97, 116, 97]⟩] w fun e w' => e = .returned (.tuple #[.agg #[.func (.func 66) #[] #[], .func (.func 69) #[] #[]], .bool true]) ∧ Below w.heap.size w w' := by
  go_enter Tryz.func47, Tryz.ntmps47
  have hq0 := (Below.refl w.heap.size w).alloc (Nat.le_refl _) (.cells #[.nilFunc, .nilFunc] 75)
  go_wp2_with fail
  refine (counters_any _).mono ?_
  rintro e w1 ⟨b0, rfl, C, b1⟩
  have h0 : Qst w1 w.heap.size .nilFunc .nilFunc := (Qst.made w _ _).keep b1
  have hb1 : Below w.heap.size w w1 := hq0.trans (b1.mono hq0.size)
  obtain ⟨x1, x2, x3, x4, hM, hx1, hx2, hx3, hx4⟩ := C.all
  have hun := run_unseen (P := Tryz.prog) Tryz.underlying100 Tryz.underlying9 (w := w1) (b := b0) (et := 98) (.agg #[.nilFunc]) (by kernel_rfl) ⟨#[102, 111, 97, 116, 97]⟩ hM (ix_no (by decide))
  have hc := (Below.refl w1.heap.size w1).alloc (Nat.le_refl _) (.cells #[.nilFunc] 98)
  have HQ0 : Qst (w1.alloc (.cells #[.nilFunc] 98)) w.heap.size .nilFunc .nilFunc := h0.keep hc
  have hb2 := hb1.trans (hc.mono hb1.size)
  have hlt : w.heap.size < (w1.alloc (.cells #[.nilFunc] 98)).heap.size := HQ0.lt
  have hne : (w1.alloc (.cells #[.nilFunc] 98)).heap.size ≠ w.heap.size := by omega
  rw [World.size_alloc] at hne
  clear hM C h0 hlt
  have HQ := HQ0
  have cc0 := HQ.cell0
  have ff0 := HQ.frozen 0
  have hq1 := HQ.set0 (.func (.func 66) #[] #[])
  have cc1 := hq1.cell1
  have ff1 := hq1.frozen 1
  go_wp2
  (try simp only [Exit.inBlock, Exit.then])
  refine bodyPost_ret (results_q2 rfl _ _ w.heap.size _ _ rfl (hq1.set1 _)) rfl ?_
  exact ⟨rfl, (hb2.setCell (Nat.le_refl _) _).setCell (Nat.le_refl _) _⟩

set_option maxRecDepth 20000 in
set_option maxHeartbeats 2000000 in
theorem qst11_any (w : World) :
    Calls Tryz.prog 47 #[.string ⟨#[108, 105, 110, 101]⟩] w fun e w' => e = .returned (.tuple #[.agg #[.func (.func 66) #[] #[], .func (.func 72) #[] #[]], .bool true]) ∧ Below w.heap.size w w' := by
  go_enter Tryz.func47, Tryz.ntmps47
  have hq0 := (Below.refl w.heap.size w).alloc (Nat.le_refl _) (.cells #[.nilFunc, .nilFunc] 75)
  go_wp2_with fail
  refine (counters_any _).mono ?_
  rintro e w1 ⟨b0, rfl, C, b1⟩
  have h0 : Qst w1 w.heap.size .nilFunc .nilFunc := (Qst.made w _ _).keep b1
  have hb1 : Below w.heap.size w w1 := hq0.trans (b1.mono hq0.size)
  obtain ⟨x1, x2, x3, x4, hM, hx1, hx2, hx3, hx4⟩ := C.all
  have hun := run_unseen (P := Tryz.prog) Tryz.underlying100 Tryz.underlying9 (w := w1) (b := b0) (et := 98) (.agg #[.nilFunc]) (by kernel_rfl) ⟨#[108, 105, 110, 101]⟩ hM (ix_no (by decide))
  have hc := (Below.refl w1.heap.size w1).alloc (Nat.le_refl _) (.cells #[.nilFunc] 98)
  have HQ0 : Qst (w1.alloc (.cells #[.nilFunc] 98)) w.heap.size .nilFunc .nilFunc := h0.keep hc
  have hb2 := hb1.trans (hc.mono hb1.size)
  have hlt : w.heap.size < (w1.alloc (.cells #[.nilFunc] 98)).heap.size := HQ0.lt
  have hne : (w1.alloc (.cells #[.nilFunc] 98)).heap.size ≠ w.heap.size := by omega
  rw [World.size_alloc] at hne
  clear hM C h0 hlt
  have HQ := HQ0
  have cc0 := HQ.cell0
  have ff0 := HQ.frozen 0
  have hq1 := HQ.set0 (.func (.func 66) #[] #[])
  have cc1 := hq1.cell1
  have ff1 := hq1.frozen 1
  go_wp2
  (try simp only [Exit.inBlock, Exit.then])
  refine bodyPost_ret (results_q2 rfl _ _ w.heap.size _ _ rfl (hq1.set1 _)) rfl ?_
  exact ⟨rfl, (hb2.setCell (Nat.le_refl _) _).setCell (Nat.le_refl _) _⟩

set_option maxRecDepth 20000 in
set_option maxHeartbeats 2000000 in
theorem qst12_any (w : World) :
    Calls Tryz.prog 47 #[.string ⟨#[108, 101, 110, 103, 116, 104]⟩] w fun e w' => ∃ b, e = .returned (.tuple #[.agg #[.func (.func 74) #[] #[], .func (.func 97) #[] #[.pointer (some ⟨b, 0, none⟩)]], .bool true]) ∧ FnAt w' b (.func (.func 75) #[] #[]) ∧ Below w.heap.size w w' := by
  go_enter Tryz.func47, Tryz.ntmps47
  have hq0 := (Below.refl w.heap.size w).alloc (Nat.le_refl _) (.cells #[.nilFunc, .nilFunc] 75)
  go_wp2_with fail
  refine (counters_any _).mono ?_
  rintro e w1 ⟨b0, rfl, C, b1⟩
  have h0 : Qst w1 w.heap.size .nilFunc .nilFunc := (Qst.made w _ _).keep b1
  have hb1 : Below w.heap.size w w1 := hq0.trans (b1.mono hq0.size)
  obtain ⟨x1, x2, x3, x4, hM, hx1, hx2, hx3, hx4⟩ := C.all
  have hun := run_unseen (P := Tryz.prog) Tryz.underlying100 Tryz.underlying9 (w := w1) (b := b0) (et := 98) (.agg #[.nilFunc]) (by kernel_rfl) ⟨#[108, 101, 110, 103, 116, 104]⟩ hM (ix_no (by decide))
  have hc := (Below.refl w1.heap.size w1).alloc (Nat.le_refl _) (.cells #[.nilFunc] 98)
  have HQ0 : Qst (w1.alloc (.cells #[.nilFunc] 98)) w.heap.size .nilFunc .nilFunc := h0.keep hc
  have hb2 := hb1.trans (hc.mono hb1.size)
  have hlt : w.heap.size < (w1.alloc (.cells #[.nilFunc] 98)).heap.size := HQ0.lt
  have hne : (w1.alloc (.cells #[.nilFunc] 98)).heap.size ≠ w.heap.size := by omega
  rw [World.size_alloc] at hne
  clear hM C h0 hlt
  go_wp2_with fail
  refine (inDec_any _ _ _).mono ?_
  rintro e w2 ⟨rfl, hfn, hb3⟩
  rw [World.size_alloc] at hfn
  have HQ := HQ0.keep hb3
  have hb4 := hb2.trans (hb3.mono hb2.size)
  have cc0 := HQ.cell0
  have ff0 := HQ.frozen 0
  have hq1 := HQ.set0 (.func (.func 74) #[] #[])
  have cc1 := hq1.cell1
  have ff1 := hq1.frozen 1
  go_wp2
  (try simp only [Exit.inBlock, Exit.then])
  refine bodyPost_ret (results_q2 rfl _ _ w.heap.size _ _ rfl (hq1.set1 _)) rfl ?_
  exact ⟨_, rfl, (heap_setCell2_other hne).trans hfn, (hb4.setCell (Nat.le_refl _) _).setCell (Nat.le_refl _) _⟩

set_option maxRecDepth 20000 in
set_option maxHeartbeats 2000000 in
theorem qst13_any (w : World) :
    Calls Tryz.prog 47 #[.string ⟨#[102, 108, 97, 103]⟩] w fun e w' => ∃ b, e = .returned (.tuple #[.agg #[.func (.func 74) #[] #[], .func (.func 97) #[] #[.pointer (some ⟨b, 0, none⟩)]], .bool true]) ∧ FnAt w' b (.func (.func 76) #[] #[]) ∧ Below w.heap.size w w' := by
  go_enter Tryz.func47, Tryz.ntmps47
  have hq0 := (Below.refl w.heap.size w).alloc (Nat.le_refl _) (.cells #[.nilFunc, .nilFunc] 75)
  go_wp2_with fail
  refine (counters_any _).mono ?_
  rintro e w1 ⟨b0, rfl, C, b1⟩
  have h0 : Qst w1 w.heap.size .nilFunc .nilFunc := (Qst.made w _ _).keep b1
  have hb1 : Below w.heap.size w w1 := hq0.trans (b1.mono hq0.size)
  obtain ⟨x1, x2, x3, x4, hM, hx1, hx2, hx3, hx4⟩ := C.all
  have hun := run_unseen (P := Tryz.prog) Tryz.underlying100 Tryz.underlying9 (w := w1) (b := b0) (et := 98) (.agg #[.nilFunc]) (by kernel_rfl) ⟨#[102, 108, 97, 103]⟩ hM (ix_no (by decide))
  have hc := (Below.refl w1.heap.size w1).alloc (Nat.le_refl _) (.cells #[.nilFunc] 98)
  have HQ0 : Qst (w1.alloc (.cells #[.nilFunc] 98)) w.heap.size .nilFunc .nilFunc := h0.keep hc
  have hb2 := hb1.trans (hc.mono hb1.size)
  have hlt : w.heap.size < (w1.alloc (.cells #[.nilFunc] 98)).heap.size := HQ0.lt
  have hne : (w1.alloc (.cells #[.nilFunc] 98)).heap.size ≠ w.heap.size := by omega
  rw [World.size_alloc] at hne
  clear hM C h0 hlt
  go_wp2_with fail
  refine (inDec_any _ _ _).mono ?_
  rintro e w2 ⟨rfl, hfn, hb3⟩
  rw [World.size_alloc] at hfn
  have HQ := HQ0.keep hb3
  have hb4 := hb2.trans (hb3.mono hb2.size)
  have cc0 := HQ.cell0
  have ff0 := HQ.frozen 0
  have hq1 := HQ.set0 (.func (.func 74) #[] #[])
  have cc1 := hq1.cell1
  have ff1 := hq1.frozen 1
  go_wp2
  (try simp only [Exit.inBlock, Exit.then])
  refine bodyPost_ret (results_q2 rfl _ _ w.heap.size _ _ rfl (hq1.set1 _)) rfl ?_
  exact ⟨_, rfl, (heap_setCell2_other hne).trans hfn, (hb4.setCell (Nat.le_refl _) _).setCell (Nat.le_refl _) _⟩

set_option maxRecDepth 20000 in
set_option maxHeartbeats 2000000 in
theorem qst14_any (s : ByteArray) (w : World) (h9 : ¬ ixOf s < 9) (h5 : wIx s = 5) :
    Calls Tryz.prog 47 #[.string s] w fun e w' => e = .returned (.tuple #[.agg #[.nilFunc, .nilFunc], .bool false]) ∧ Below w.heap.size w w' := by
  go_enter Tryz.func47, Tryz.ntmps47
  have hq0 := (Below.refl w.heap.size w).alloc (Nat.le_refl _) (.cells #[.nilFunc, .nilFunc] 75)
  go_wp2_with fail
  refine (counters_any _).mono ?_
  rintro e w1 ⟨b0, rfl, C, b1⟩
  have h0 : Qst w1 w.heap.size .nilFunc .nilFunc := (Qst.made w _ _).keep b1
  have hb1 : Below w.heap.size w w1 := hq0.trans (b1.mono hq0.size)
  obtain ⟨x1, x2, x3, x4, hM, hx1, hx2, hx3, hx4⟩ := C.all
  have hun := run_unseen (P := Tryz.prog) Tryz.underlying100 Tryz.underlying9 (w := w1) (b := b0) (et := 98) (.agg #[.nilFunc]) (by kernel_rfl) s hM (ix_no h9)
  have hc := (Below.refl w1.heap.size w1).alloc (Nat.le_refl _) (.cells #[.nilFunc] 98)
  have HQ0 : Qst (w1.alloc (.cells #[.nilFunc] 98)) w.heap.size .nilFunc .nilFunc := h0.keep hc
  have hb2 := hb1.trans (hc.mono hb1.size)
  have hlt : w.heap.size < (w1.alloc (.cells #[.nilFunc] 98)).heap.size := HQ0.lt
  have hne : (w1.alloc (.cells #[.nilFunc] 98)).heap.size ≠ w.heap.size := by omega
  rw [World.size_alloc] at hne
  clear hM C h0 hlt
  have e0 : ((s : ByteArray).toList == [116, 97, 98, 108, 101]) = false := (eql_table _).trans (decide_eq_false (by rw [h5]; decide))
  have e1 : ((s : ByteArray).toList == [102, 111, 97, 116, 97]) = false := (eql_foata _).trans (decide_eq_false (by rw [h5]; decide))
  have e2 : ((s : ByteArray).toList == [108, 105, 110, 101]) = false := (eql_line _).trans (decide_eq_false (by rw [h5]; decide))
  have e3 : ((s : ByteArray).toList == [108, 101, 110, 103, 116, 104]) = false := (eql_length _).trans (decide_eq_false (by rw [h5]; decide))
  have e4 : ((s : ByteArray).toList == [102, 108, 97, 103]) = false := (eql_flag _).trans (decide_eq_false (by rw [h5]; decide))
  have HQ := HQ0
  have cc0 := HQ.cell0
  have ff0 := HQ.frozen 0
  have hq1 := HQ.set0 (.nilFunc)
  have cc1 := hq1.cell1
  have ff1 := hq1.frozen 1
  go_wp2
  (try simp only [Exit.inBlock, Exit.then])
  refine bodyPost_ret (results_q2 rfl _ _ w.heap.size _ _ rfl (hq1.set1 _)) rfl ?_
  exact ⟨rfl, (hb2.setCell (Nat.le_refl _) _).setCell (Nat.le_refl _) _⟩

end Go.Proofs.YtaceiebmgnhdgaaGreatDoor
