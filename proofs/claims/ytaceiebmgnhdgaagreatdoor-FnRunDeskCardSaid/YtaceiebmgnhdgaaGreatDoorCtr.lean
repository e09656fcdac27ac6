/- Counters by their names: what is counted. No condition. -/
import Derived.Test.YtaceiebmgnhdgaaGreatDoorMap
import Derived.Laws.Alloc2
import Derived.Laws.Rows
import Derived.Laws.EntriesVeiled
namespace Go.Proofs.YtaceiebmgnhdgaaGreatDoor
open Go.RowKit

/-- A cell of its own that holds a function. -/
def BoxAt (w : World) (b : Nat) (g : FuncId) (t : TypeId) : Prop := w.heap[b]? = some (.cells #[.func (.func g) #[] #[]] t)
theorem BoxAt.lt {w : World} {b : Nat} {g : FuncId} {t : TypeId} (h : BoxAt w b g t) : b < w.heap.size := (Array.getElem?_eq_some_iff.1 h).1
theorem BoxAt.kept {w w' : World} {b : Nat} {g : FuncId} {t : TypeId} (h : BoxAt w b g t) (hb : Below w.heap.size w w') : BoxAt w' b g t := (hb.block b h.lt).trans h
theorem BoxAt.grown {w w' : World} {b : Nat} {g : FuncId} {t : TypeId} (h : BoxAt w b g t) {o : Option Nat} (hb : w.grownBy w' o) (hn : o ≠ some b) : BoxAt w' b g t := (hb.block b h.lt hn.symm).trans h
theorem BoxAt.cell {w : World} {b : Nat} {g : FuncId} {t : TypeId} (h : BoxAt w b g t) : w.cell? ⟨b, 0, none⟩ = some (.func (.func g) #[] #[]) := by simp [World.cell?, show w.heap[b]? = some (.cells #[.func (.func g) #[] #[]] t) from h]

set_option maxHeartbeats 1000000 in
theorem sizeOfI_any (g : FuncId) (w : World) :
    Calls Tryz.prog 90 #[.func (.func g) #[] #[]] w fun e w' => ∃ b, e = .returned (.agg #[.func (.func 118) #[] #[.pointer (some ⟨b, 0, none⟩)]]) ∧ w.heap.size ≤ b ∧ BoxAt w' b g 67 ∧ Below w.heap.size w w' := by
  go_enter Tryz.func90, Tryz.ntmps90
  go_wp2_with fail
  refine bodyPost_ret (results_cell_row rfl _ _ (w.heap.size + 1) 98 _ (0, 0) _ rfl (heap_alloc2_new w _ _) Tryz.underlying98 rfl (by kernel_rfl)) rfl ?_
  refine ⟨_, rfl, Nat.le_refl _, ?_, ((Below.refl _ _).alloc (Nat.le_refl _) _).alloc (by simp) _⟩
  exact (Below.heap_alloc _ _ _ (by simp)).trans (heap_alloc_new w _)

set_option maxHeartbeats 1000000 in
theorem sizeOfL_any (g : FuncId) (w : World) :
    Calls Tryz.prog 94 #[.func (.func g) #[] #[]] w fun e w' => ∃ b, e = .returned (.agg #[.func (.func 121) #[] #[.pointer (some ⟨b, 0, none⟩)]]) ∧ w.heap.size ≤ b ∧ BoxAt w' b g 92 ∧ Below w.heap.size w w' := by
  go_enter Tryz.func94, Tryz.ntmps94
  go_wp2_with fail
  refine bodyPost_ret (results_cell_row rfl _ _ (w.heap.size + 1) 98 _ (0, 0) _ rfl (heap_alloc2_new w _ _) Tryz.underlying98 rfl (by kernel_rfl)) rfl ?_
  refine ⟨_, rfl, Nat.le_refl _, ?_, ((Below.refl _ _).alloc (Nat.le_refl _) _).alloc (by simp) _⟩
  exact (Below.heap_alloc _ _ _ (by simp)).trans (heap_alloc_new w _)

/-- The names of what is counted. -/
def nm_inversions : ByteArray := ⟨#[105, 110, 118, 101, 114, 115, 105, 111, 110, 115]⟩
def nm_major : ByteArray := ⟨#[109, 97, 106, 111, 114]⟩
def nm_denert : ByteArray := ⟨#[100, 101, 110, 101, 114, 116]⟩
def nm_crossings : ByteArray := ⟨#[99, 114, 111, 115, 115, 105, 110, 103, 115]⟩
def nm_nestings : ByteArray := ⟨#[110, 101, 115, 116, 105, 110, 103, 115]⟩
def nm_descents : ByteArray := ⟨#[100, 101, 115, 99, 101, 110, 116, 115]⟩
def nm_above : ByteArray := ⟨#[97, 98, 111, 118, 101]⟩
def nm_records : ByteArray := ⟨#[114, 101, 99, 111, 114, 100, 115]⟩
def nm_circles : ByteArray := ⟨#[99, 105, 114, 99, 108, 101, 115]⟩

/-- What counters hold. -/
def ctrs (b1 b2 b3 b4 : Nat) : List (ByteArray × Value) := [(nm_inversions, .agg #[.func (.func 85) #[] #[]]), (nm_major, .agg #[.func (.func 86) #[] #[]]), (nm_denert, .agg #[.func (.func 87) #[] #[]]), (nm_crossings, .agg #[.func (.func 88) #[] #[]]), (nm_nestings, .agg #[.func (.func 89) #[] #[]]), (nm_descents, .agg #[.func (.func 118) #[] #[.pointer (some ⟨b1, 0, none⟩)]]), (nm_above, .agg #[.func (.func 118) #[] #[.pointer (some ⟨b2, 0, none⟩)]]), (nm_records, .agg #[.func (.func 118) #[] #[.pointer (some ⟨b3, 0, none⟩)]]), (nm_circles, .agg #[.func (.func 121) #[] #[.pointer (some ⟨b4, 0, none⟩)]])]

/-- Block b is the counters' map. -/
structure Counters (w0 w : World) (b : Nat) : Prop where
  all : ∃ b1 b2 b3 b4, MapAt w b (ctrs b1 b2 b3 b4) ∧ BoxAt w b1 91 67 ∧ BoxAt w b2 92 67 ∧ BoxAt w b3 93 67 ∧ BoxAt w b4 95 92
  low : w0.heap.size ≤ b

theorem nm_new (s : ByteArray) (L : List (ByteArray × Value)) (h : (L.map (fun p => p.1.data.toList)).all (fun x => !(x == s.data.toList)) = true) : ∀ p ∈ L, p.1 ≠ s := by
  intro p hp e
  rw [List.all_eq_true] at h
  have := h p.1.data.toList (List.mem_map_of_mem (f := fun p : ByteArray × Value => p.1.data.toList) hp)
  rw [e] at this
  simp at this

set_option maxRecDepth 20000 in
set_option maxHeartbeats 4000000 in
theorem counters_any (w : World) :
    Calls Tryz.prog 65 #[] w fun e w' => ∃ b, e = .returned (.map (some b)) ∧ Counters w w' b ∧ Below w.heap.size w w' := by
  go_enter Tryz.func65, Tryz.ntmps65
  have h0 := MapAt.made w
  have hmk := run_makeMap (P := Tryz.prog) 100 w
  have g0 : Below w.heap.size w (w.alloc (.map #[] 0)) := (Below.refl _ _).alloc (Nat.le_refl _) _
  go_wp2_with (first
    | (refine put_law _ rfl _ _ _ 100 _ _ rfl Tryz.underlying100 Tryz.underlying9 _ _ h0 nm_inversions (.agg #[.func (.func 85) #[] #[]]) rfl rfl rfl (nm_new _ _ rfl) ?_; intro w1 h1 q1; have g1 := g0.grown q1 g0.size (by rintro _ ⟨⟩; exact Nat.le_refl _))
    | (refine put_law _ rfl _ _ _ 100 _ _ rfl Tryz.underlying100 Tryz.underlying9 _ _ h1 nm_major (.agg #[.func (.func 86) #[] #[]]) rfl rfl rfl (nm_new _ _ rfl) ?_; intro w2 h2 q2; have g2 := g1.grown q2 g1.size (by rintro _ ⟨⟩; exact Nat.le_refl _))
    | (refine put_law _ rfl _ _ _ 100 _ _ rfl Tryz.underlying100 Tryz.underlying9 _ _ h2 nm_denert (.agg #[.func (.func 87) #[] #[]]) rfl rfl rfl (nm_new _ _ rfl) ?_; intro w3 h3 q3; have g3 := g2.grown q3 g2.size (by rintro _ ⟨⟩; exact Nat.le_refl _))
    | (refine put_law _ rfl _ _ _ 100 _ _ rfl Tryz.underlying100 Tryz.underlying9 _ _ h3 nm_crossings (.agg #[.func (.func 88) #[] #[]]) rfl rfl rfl (nm_new _ _ rfl) ?_; intro w4 h4 q4; have g4 := g3.grown q4 g3.size (by rintro _ ⟨⟩; exact Nat.le_refl _))
    | (refine put_law _ rfl _ _ _ 100 _ _ rfl Tryz.underlying100 Tryz.underlying9 _ _ h4 nm_nestings (.agg #[.func (.func 89) #[] #[]]) rfl rfl rfl (nm_new _ _ rfl) ?_; intro w5 h5 q5; have g5 := g4.grown q5 g4.size (by rintro _ ⟨⟩; exact Nat.le_refl _))
    | (go_at_call 90; refine (sizeOfI_any 91 _).mono ?_; rintro e v5 ⟨b1, rfl, l1, x5_1, t5⟩; have m5 := h5.kept t5; have gg5 := g5.trans (t5.mono g5.size))
    | (refine put_law _ rfl _ _ _ 100 _ _ rfl Tryz.underlying100 Tryz.underlying9 _ _ m5 nm_descents (.agg #[.func (.func 118) #[] #[.pointer (some ⟨b1, 0, none⟩)]]) rfl rfl rfl (nm_new _ _ rfl) ?_; intro w6 h6 q6; have g6 := gg5.grown q6 gg5.size (by rintro _ ⟨⟩; exact Nat.le_refl _); have z6_1 := x5_1.grown q6 (fun e => absurd (Option.some.inj e) (by have := h5.lt; omega)))
    | (go_at_call 90; refine (sizeOfI_any 92 _).mono ?_; rintro e v6 ⟨b2, rfl, l2, x6_2, t6⟩; have m6 := h6.kept t6; have gg6 := g6.trans (t6.mono g6.size); have y6_1 := z6_1.kept t6)
    | (refine put_law _ rfl _ _ _ 100 _ _ rfl Tryz.underlying100 Tryz.underlying9 _ _ m6 nm_above (.agg #[.func (.func 118) #[] #[.pointer (some ⟨b2, 0, none⟩)]]) rfl rfl rfl (nm_new _ _ rfl) ?_; intro w7 h7 q7; have g7 := gg6.grown q7 gg6.size (by rintro _ ⟨⟩; exact Nat.le_refl _); have z7_1 := y6_1.grown q7 (fun e => absurd (Option.some.inj e) (by have := h5.lt; omega)); have z7_2 := x6_2.grown q7 (fun e => absurd (Option.some.inj e) (by have := h6.lt; omega)))
    | (go_at_call 90; refine (sizeOfI_any 93 _).mono ?_; rintro e v7 ⟨b3, rfl, l3, x7_3, t7⟩; have m7 := h7.kept t7; have gg7 := g7.trans (t7.mono g7.size); have y7_1 := z7_1.kept t7; have y7_2 := z7_2.kept t7)
    | (refine put_law _ rfl _ _ _ 100 _ _ rfl Tryz.underlying100 Tryz.underlying9 _ _ m7 nm_records (.agg #[.func (.func 118) #[] #[.pointer (some ⟨b3, 0, none⟩)]]) rfl rfl rfl (nm_new _ _ rfl) ?_; intro w8 h8 q8; have g8 := gg7.grown q8 gg7.size (by rintro _ ⟨⟩; exact Nat.le_refl _); have z8_1 := y7_1.grown q8 (fun e => absurd (Option.some.inj e) (by have := h5.lt; omega)); have z8_2 := y7_2.grown q8 (fun e => absurd (Option.some.inj e) (by have := h6.lt; omega)); have z8_3 := x7_3.grown q8 (fun e => absurd (Option.some.inj e) (by have := h7.lt; omega)))
    | (go_at_call 94; refine (sizeOfL_any 95 _).mono ?_; rintro e v8 ⟨b4, rfl, l4, x8_4, t8⟩; have m8 := h8.kept t8; have gg8 := g8.trans (t8.mono g8.size); have y8_1 := z8_1.kept t8; have y8_2 := z8_2.kept t8; have y8_3 := z8_3.kept t8)
    | (refine put_law _ rfl _ _ _ 100 _ _ rfl Tryz.underlying100 Tryz.underlying9 _ _ m8 nm_circles (.agg #[.func (.func 121) #[] #[.pointer (some ⟨b4, 0, none⟩)]]) rfl rfl rfl (nm_new _ _ rfl) ?_; intro w9 h9 q9; have g9 := gg8.grown q9 gg8.size (by rintro _ ⟨⟩; exact Nat.le_refl _); have z9_1 := y8_1.grown q9 (fun e => absurd (Option.some.inj e) (by have := h5.lt; omega)); have z9_2 := y8_2.grown q9 (fun e => absurd (Option.some.inj e) (by have := h6.lt; omega)); have z9_3 := y8_3.grown q9 (fun e => absurd (Option.some.inj e) (by have := h7.lt; omega)); have z9_4 := x8_4.grown q9 (fun e => absurd (Option.some.inj e) (by have := h8.lt; omega)))
    )
  go_ret
  exact ⟨_, rfl, ⟨⟨_, _, _, _, h9, z9_1, z9_2, z9_3, z9_4⟩, Nat.le_refl _⟩, g9⟩

end Go.Proofs.YtaceiebmgnhdgaaGreatDoor
