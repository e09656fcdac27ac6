/- The number of a name: contracts of spec.CountOf and impl.CountOf. No condition. -/
import Derived.Test.YtpokoknapapdcaaCof
namespace Go.Proofs.Ytpokoknapapdcaa
open Go.RowKit

set_option maxHeartbeats 1000000 in
theorem countS_any (s : ByteArray) (ao : Option Addr) (n cap : Nat) (xs : List Int) (w : World) (h : Sl w ao n cap xs) :
    Calls Try.prog 23 #[.string s, .slice ao n cap] w (Counted w (cntV s xs) (cntB s xs)) := by
  have en : True := trivial
  by_cases hv : Valid xs
  · have Hv := hid hv
    have e1 : cntV s xs = valN xs (ixOf s) := if_pos hv
    have e2 : cntB s xs = decide (ixOf s < 9) := by simp [cntB, hv]
    have hd := decide_eq_true hv
    rw [e1, e2]
    clear hv e1 e2 en
    go_enter Try.func23, Try.ntmps23
    go_wp2_with fail
    refine (says_tob (validS_any _ _ _ xs _ h) hd).mono ?_
    rintro e w1 ⟨rfl, b1⟩
    go_wp2_with fail
    refine (countS0_any s _ _ _ xs _ (h.later b1) Hv).mono ?_
    rintro e w2 ⟨rfl, b2⟩
    go_wp2
    go_ret2
    exact ⟨rfl, b1.trans (b2.mono b1.size)⟩
  · have e1 : cntV s xs = 0 := if_neg hv
    have e2 : cntB s xs = false := by simp [cntB, hv]
    have hd := decide_eq_false hv
    rw [e1, e2]
    clear hv e1 e2 en
    go_enter Try.func23, Try.ntmps23
    go_wp2_with fail
    refine (says_tob (validS_any _ _ _ xs _ h) hd).mono ?_
    rintro e w1 ⟨rfl, b1⟩
    go_wp2
    go_ret2
    exact ⟨rfl, b1⟩

set_option maxHeartbeats 1000000 in
theorem sz5_any (b : Nat) (ao : Option Addr) (n cap : Nat) (xs : List Int) (w : World) (h : Sl w ao n cap xs) (hb : BoxAt w b 29 27) :
    Calls Try.prog 108 #[.slice ao n cap, .pointer (some ⟨b, 0, none⟩)] w (Says w (.int .i64 ((onV xs (desc xs)).length : Int))) := by
  have hc := hb.cell
  go_enter Try.func108, Try.ntmps108
  go_wp2_with fail
  refine (descI_any _ _ _ xs _ h).mono ?_
  rintro e w' ⟨u, rfl, o, bl⟩
  obtain ⟨ad, cp, rfl, sl⟩ := o.sl
  clear o
  go_wp2
  go_ret
  exact ⟨rfl, bl⟩

set_option maxHeartbeats 1000000 in
theorem sz6_any (b : Nat) (ao : Option Addr) (n cap : Nat) (xs : List Int) (w : World) (h : Sl w ao n cap xs) (hb : BoxAt w b 30 27) :
    Calls Try.prog 108 #[.slice ao n cap, .pointer (some ⟨b, 0, none⟩)] w (Says w (.int .i64 ((onV xs (above xs)).length : Int))) := by
  have hc := hb.cell
  go_enter Try.func108, Try.ntmps108
  go_wp2_with fail
  refine (aboveI_any _ _ _ xs _ h).mono ?_
  rintro e w' ⟨u, rfl, o, bl⟩
  obtain ⟨ad, cp, rfl, sl⟩ := o.sl
  clear o
  go_wp2
  go_ret
  exact ⟨rfl, bl⟩

set_option maxHeartbeats 1000000 in
theorem sz7_any (b : Nat) (ao : Option Addr) (n cap : Nat) (xs : List Int) (w : World) (h : Sl w ao n cap xs) (hb : BoxAt w b 31 27) :
    Calls Try.prog 108 #[.slice ao n cap, .pointer (some ⟨b, 0, none⟩)] w (Says w (.int .i64 ((onV xs (records xs)).length : Int))) := by
  have hc := hb.cell
  go_enter Try.func108, Try.ntmps108
  go_wp2_with fail
  refine (recordsI_any _ _ _ xs _ h).mono ?_
  rintro e w' ⟨u, rfl, o, bl⟩
  obtain ⟨ad, cp, rfl, sl⟩ := o.sl
  clear o
  go_wp2
  go_ret
  exact ⟨rfl, bl⟩

set_option maxHeartbeats 1000000 in
theorem sz8_any (b : Nat) (ao : Option Addr) (n cap : Nat) (xs : List Int) (w : World) (h : Sl w ao n cap xs) (hb : BoxAt w b 32 37) :
    Calls Try.prog 109 #[.slice ao n cap, .pointer (some ⟨b, 0, none⟩)] w (Says w (.int .i64 ((onVL xs (circles xs)).length : Int))) := by
  have hc := hb.cell
  go_enter Try.func109, Try.ntmps109
  go_wp2_with fail
  refine (circlesI_any _ _ _ xs _ h).mono ?_
  rintro e w' ⟨u, rfl, o, bl⟩
  obtain ⟨ad, cp, rfl, sl⟩ := o.sl
  clear o
  go_wp2
  go_ret
  exact ⟨rfl, bl⟩

set_option maxHeartbeats 1000000 in
theorem countY0_any (ao : Option Addr) (n cap : Nat) (xs : List Int) (w : World) (h : Sl w ao n cap xs) (Hv : Hid (Valid xs)) :
    Calls Try.prog 22 #[.string nm_inversions, .slice ao n cap] w (Counted w (valN xs 0) true) := by
  have hd := decide_eq_true Hv.out
  go_enter Try.func22, Try.ntmps22
  go_wp2_with fail
  refine (counters_any _).mono ?_
  rintro e w1 ⟨b, rfl, C, b1⟩
  obtain ⟨x1, x2, x3, x4, hM, hx1, hx2, hx3, hx4⟩ := C.all
  have hsee := run_see (P := Try.prog) Try.underlying65 Try.underlying9 [] [(nm_major, .agg #[.func (.func 25) #[] #[]]), (nm_denert, .agg #[.func (.func 26) #[] #[]]), (nm_crossings, .agg #[.func (.func 27) #[] #[]]), (nm_nestings, .agg #[.func (.func 28) #[] #[]]), (nm_descents, .agg #[.func (.func 108) #[] #[.pointer (some ⟨x1, 0, none⟩)]]), (nm_above, .agg #[.func (.func 108) #[] #[.pointer (some ⟨x2, 0, none⟩)]]), (nm_records, .agg #[.func (.func 108) #[] #[.pointer (some ⟨x3, 0, none⟩)]]), (nm_circles, .agg #[.func (.func 109) #[] #[.pointer (some ⟨x4, 0, none⟩)]])] nm_inversions (.agg #[.func (.func 24) #[] #[]]) hM (nm_new _ _ rfl)
  clear hM C
  have hW := ((Below.refl w1.heap.size w1).alloc (Nat.le_refl _) (.cells #[.func (.func 24) #[] #[]] 63))
  go_wp2_with fail
  refine (says_tob (validI_any _ _ _ xs _ ((h.later b1).later hW)) hd).mono ?_
  rintro e w2 ⟨rfl, b2⟩
  have hc2 : w2.cell? ⟨w1.heap.size, 0, none⟩ = some (.func (.func 24) #[] #[]) := (b2.cell (by simp)).trans (by rw [World.cell?_alloc_new]; rfl)
  have b3 : Below w1.heap.size w1 w2 := hW.trans (b2.mono hW.size)
  go_wp2_with fail
  refine (says_to (invsI_any _ _ _ xs _ ((h.later b1).later b3)) (onVi_yes Hv.out)).mono ?_
  rintro e w3 ⟨rfl, b4⟩
  go_wp2
  go_ret2
  exact ⟨rfl, b1.trans ((b3.trans (b4.mono b3.size)).mono b1.size)⟩

set_option maxHeartbeats 1000000 in
theorem countN0_any (ao : Option Addr) (n cap : Nat) (xs : List Int) (w : World) (h : Sl w ao n cap xs) (Hv : Hid (¬ Valid xs)) :
    Calls Try.prog 22 #[.string nm_inversions, .slice ao n cap] w (Counted w 0 false) := by
  have hd := decide_eq_false Hv.out
  go_enter Try.func22, Try.ntmps22
  go_wp2_with fail
  refine (counters_any _).mono ?_
  rintro e w1 ⟨b, rfl, C, b1⟩
  obtain ⟨x1, x2, x3, x4, hM, hx1, hx2, hx3, hx4⟩ := C.all
  have hsee := run_see (P := Try.prog) Try.underlying65 Try.underlying9 [] [(nm_major, .agg #[.func (.func 25) #[] #[]]), (nm_denert, .agg #[.func (.func 26) #[] #[]]), (nm_crossings, .agg #[.func (.func 27) #[] #[]]), (nm_nestings, .agg #[.func (.func 28) #[] #[]]), (nm_descents, .agg #[.func (.func 108) #[] #[.pointer (some ⟨x1, 0, none⟩)]]), (nm_above, .agg #[.func (.func 108) #[] #[.pointer (some ⟨x2, 0, none⟩)]]), (nm_records, .agg #[.func (.func 108) #[] #[.pointer (some ⟨x3, 0, none⟩)]]), (nm_circles, .agg #[.func (.func 109) #[] #[.pointer (some ⟨x4, 0, none⟩)]])] nm_inversions (.agg #[.func (.func 24) #[] #[]]) hM (nm_new _ _ rfl)
  clear hM C
  have hW := ((Below.refl w1.heap.size w1).alloc (Nat.le_refl _) (.cells #[.func (.func 24) #[] #[]] 63))
  go_wp2_with fail
  refine (says_tob (validI_any _ _ _ xs _ ((h.later b1).later hW)) hd).mono ?_
  rintro e w2 ⟨rfl, b2⟩
  have hc2 : w2.cell? ⟨w1.heap.size, 0, none⟩ = some (.func (.func 24) #[] #[]) := (b2.cell (by simp)).trans (by rw [World.cell?_alloc_new]; rfl)
  have b3 : Below w1.heap.size w1 w2 := hW.trans (b2.mono hW.size)
  go_wp2
  go_ret2
  exact ⟨rfl, b1.trans (b3.mono b1.size)⟩

set_option maxHeartbeats 1000000 in
theorem countY1_any (ao : Option Addr) (n cap : Nat) (xs : List Int) (w : World) (h : Sl w ao n cap xs) (Hv : Hid (Valid xs)) :
    Calls Try.prog 22 #[.string nm_major, .slice ao n cap] w (Counted w (valN xs 1) true) := by
  have hd := decide_eq_true Hv.out
  go_enter Try.func22, Try.ntmps22
  go_wp2_with fail
  refine (counters_any _).mono ?_
  rintro e w1 ⟨b, rfl, C, b1⟩
  obtain ⟨x1, x2, x3, x4, hM, hx1, hx2, hx3, hx4⟩ := C.all
  have hsee := run_see (P := Try.prog) Try.underlying65 Try.underlying9 [(nm_inversions, .agg #[.func (.func 24) #[] #[]])] [(nm_denert, .agg #[.func (.func 26) #[] #[]]), (nm_crossings, .agg #[.func (.func 27) #[] #[]]), (nm_nestings, .agg #[.func (.func 28) #[] #[]]), (nm_descents, .agg #[.func (.func 108) #[] #[.pointer (some ⟨x1, 0, none⟩)]]), (nm_above, .agg #[.func (.func 108) #[] #[.pointer (some ⟨x2, 0, none⟩)]]), (nm_records, .agg #[.func (.func 108) #[] #[.pointer (some ⟨x3, 0, none⟩)]]), (nm_circles, .agg #[.func (.func 109) #[] #[.pointer (some ⟨x4, 0, none⟩)]])] nm_major (.agg #[.func (.func 25) #[] #[]]) hM (nm_new _ _ rfl)
  clear hM C
  have hW := ((Below.refl w1.heap.size w1).alloc (Nat.le_refl _) (.cells #[.func (.func 25) #[] #[]] 63))
  go_wp2_with fail
  refine (says_tob (validI_any _ _ _ xs _ ((h.later b1).later hW)) hd).mono ?_
  rintro e w2 ⟨rfl, b2⟩
  have hc2 : w2.cell? ⟨w1.heap.size, 0, none⟩ = some (.func (.func 25) #[] #[]) := (b2.cell (by simp)).trans (by rw [World.cell?_alloc_new]; rfl)
  have b3 : Below w1.heap.size w1 w2 := hW.trans (b2.mono hW.size)
  go_wp2_with fail
  refine (says_to (majorI_any _ _ _ xs _ ((h.later b1).later b3)) (onVi_yes Hv.out)).mono ?_
  rintro e w3 ⟨rfl, b4⟩
  go_wp2
  go_ret2
  exact ⟨rfl, b1.trans ((b3.trans (b4.mono b3.size)).mono b1.size)⟩

set_option maxHeartbeats 1000000 in
theorem countN1_any (ao : Option Addr) (n cap : Nat) (xs : List Int) (w : World) (h : Sl w ao n cap xs) (Hv : Hid (¬ Valid xs)) :
    Calls Try.prog 22 #[.string nm_major, .slice ao n cap] w (Counted w 0 false) := by
  have hd := decide_eq_false Hv.out
  go_enter Try.func22, Try.ntmps22
  go_wp2_with fail
  refine (counters_any _).mono ?_
  rintro e w1 ⟨b, rfl, C, b1⟩
  obtain ⟨x1, x2, x3, x4, hM, hx1, hx2, hx3, hx4⟩ := C.all
  have hsee := run_see (P := Try.prog) Try.underlying65 Try.underlying9 [(nm_inversions, .agg #[.func (.func 24) #[] #[]])] [(nm_denert, .agg #[.func (.func 26) #[] #[]]), (nm_crossings, .agg #[.func (.func 27) #[] #[]]), (nm_nestings, .agg #[.func (.func 28) #[] #[]]), (nm_descents, .agg #[.func (.func 108) #[] #[.pointer (some ⟨x1, 0, none⟩)]]), (nm_above, .agg #[.func (.func 108) #[] #[.pointer (some ⟨x2, 0, none⟩)]]), (nm_records, .agg #[.func (.func 108) #[] #[.pointer (some ⟨x3, 0, none⟩)]]), (nm_circles, .agg #[.func (.func 109) #[] #[.pointer (some ⟨x4, 0, none⟩)]])] nm_major (.agg #[.func (.func 25) #[] #[]]) hM (nm_new _ _ rfl)
  clear hM C
  have hW := ((Below.refl w1.heap.size w1).alloc (Nat.le_refl _) (.cells #[.func (.func 25) #[] #[]] 63))
  go_wp2_with fail
  refine (says_tob (validI_any _ _ _ xs _ ((h.later b1).later hW)) hd).mono ?_
  rintro e w2 ⟨rfl, b2⟩
  have hc2 : w2.cell? ⟨w1.heap.size, 0, none⟩ = some (.func (.func 25) #[] #[]) := (b2.cell (by simp)).trans (by rw [World.cell?_alloc_new]; rfl)
  have b3 : Below w1.heap.size w1 w2 := hW.trans (b2.mono hW.size)
  go_wp2
  go_ret2
  exact ⟨rfl, b1.trans (b3.mono b1.size)⟩

set_option maxHeartbeats 1000000 in
theorem countY2_any (ao : Option Addr) (n cap : Nat) (xs : List Int) (w : World) (h : Sl w ao n cap xs) (Hv : Hid (Valid xs)) :
    Calls Try.prog 22 #[.string nm_denert, .slice ao n cap] w (Counted w (valN xs 2) true) := by
  have hd := decide_eq_true Hv.out
  go_enter Try.func22, Try.ntmps22
  go_wp2_with fail
  refine (counters_any _).mono ?_
  rintro e w1 ⟨b, rfl, C, b1⟩
  obtain ⟨x1, x2, x3, x4, hM, hx1, hx2, hx3, hx4⟩ := C.all
  have hsee := run_see (P := Try.prog) Try.underlying65 Try.underlying9 [(nm_inversions, .agg #[.func (.func 24) #[] #[]]), (nm_major, .agg #[.func (.func 25) #[] #[]])] [(nm_crossings, .agg #[.func (.func 27) #[] #[]]), (nm_nestings, .agg #[.func (.func 28) #[] #[]]), (nm_descents, .agg #[.func (.func 108) #[] #[.pointer (some ⟨x1, 0, none⟩)]]), (nm_above, .agg #[.func (.func 108) #[] #[.pointer (some ⟨x2, 0, none⟩)]]), (nm_records, .agg #[.func (.func 108) #[] #[.pointer (some ⟨x3, 0, none⟩)]]), (nm_circles, .agg #[.func (.func 109) #[] #[.pointer (some ⟨x4, 0, none⟩)]])] nm_denert (.agg #[.func (.func 26) #[] #[]]) hM (nm_new _ _ rfl)
  clear hM C
  have hW := ((Below.refl w1.heap.size w1).alloc (Nat.le_refl _) (.cells #[.func (.func 26) #[] #[]] 63))
  go_wp2_with fail
  refine (says_tob (validI_any _ _ _ xs _ ((h.later b1).later hW)) hd).mono ?_
  rintro e w2 ⟨rfl, b2⟩
  have hc2 : w2.cell? ⟨w1.heap.size, 0, none⟩ = some (.func (.func 26) #[] #[]) := (b2.cell (by simp)).trans (by rw [World.cell?_alloc_new]; rfl)
  have b3 : Below w1.heap.size w1 w2 := hW.trans (b2.mono hW.size)
  go_wp2_with fail
  refine (says_to (denI_any _ _ _ xs _ ((h.later b1).later b3)) (onVi_yes Hv.out)).mono ?_
  rintro e w3 ⟨rfl, b4⟩
  go_wp2
  go_ret2
  exact ⟨rfl, b1.trans ((b3.trans (b4.mono b3.size)).mono b1.size)⟩

set_option maxHeartbeats 1000000 in
theorem countN2_any (ao : Option Addr) (n cap : Nat) (xs : List Int) (w : World) (h : Sl w ao n cap xs) (Hv : Hid (¬ Valid xs)) :
    Calls Try.prog 22 #[.string nm_denert, .slice ao n cap] w (Counted w 0 false) := by
  have hd := decide_eq_false Hv.out
  go_enter Try.func22, Try.ntmps22
  go_wp2_with fail
  refine (counters_any _).mono ?_
  rintro e w1 ⟨b, rfl, C, b1⟩
  obtain ⟨x1, x2, x3, x4, hM, hx1, hx2, hx3, hx4⟩ := C.all
  have hsee := run_see (P := Try.prog) Try.underlying65 Try.underlying9 [(nm_inversions, .agg #[.func (.func 24) #[] #[]]), (nm_major, .agg #[.func (.func 25) #[] #[]])] [(nm_crossings, .agg #[.func (.func 27) #[] #[]]), (nm_nestings, .agg #[.func (.func 28) #[] #[]]), (nm_descents, .agg #[.func (.func 108) #[] #[.pointer (some ⟨x1, 0, none⟩)]]), (nm_above, .agg #[.func (.func 108) #[] #[.pointer (some ⟨x2, 0, none⟩)]]), (nm_records, .agg #[.func (.func 108) #[] #[.pointer (some ⟨x3, 0, none⟩)]]), (nm_circles, .agg #[.func (.func 109) #[] #[.pointer (some ⟨x4, 0, none⟩)]])] nm_denert (.agg #[.func (.func 26) #[] #[]]) hM (nm_new _ _ rfl)
  clear hM C
  have hW := ((Below.refl w1.heap.size w1).alloc (Nat.le_refl _) (.cells #[.func (.func 26) #[] #[]] 63))
  go_wp2_with fail
  refine (says_tob (validI_any _ _ _ xs _ ((h.later b1).later hW)) hd).mono ?_
  rintro e w2 ⟨rfl, b2⟩
  have hc2 : w2.cell? ⟨w1.heap.size, 0, none⟩ = some (.func (.func 26) #[] #[]) := (b2.cell (by simp)).trans (by rw [World.cell?_alloc_new]; rfl)
  have b3 : Below w1.heap.size w1 w2 := hW.trans (b2.mono hW.size)
  go_wp2
  go_ret2
  exact ⟨rfl, b1.trans (b3.mono b1.size)⟩

set_option maxHeartbeats 1000000 in
theorem countY3_any (ao : Option Addr) (n cap : Nat) (xs : List Int) (w : World) (h : Sl w ao n cap xs) (Hv : Hid (Valid xs)) :
    Calls Try.prog 22 #[.string nm_crossings, .slice ao n cap] w (Counted w (valN xs 3) true) := by
  have hd := decide_eq_true Hv.out
  go_enter Try.func22, Try.ntmps22
  go_wp2_with fail
  refine (counters_any _).mono ?_
  rintro e w1 ⟨b, rfl, C, b1⟩
  obtain ⟨x1, x2, x3, x4, hM, hx1, hx2, hx3, hx4⟩ := C.all
  have hsee := run_see (P := Try.prog) Try.underlying65 Try.underlying9 [(nm_inversions, .agg #[.func (.func 24) #[] #[]]), (nm_major, .agg #[.func (.func 25) #[] #[]]), (nm_denert, .agg #[.func (.func 26) #[] #[]])] [(nm_nestings, .agg #[.func (.func 28) #[] #[]]), (nm_descents, .agg #[.func (.func 108) #[] #[.pointer (some ⟨x1, 0, none⟩)]]), (nm_above, .agg #[.func (.func 108) #[] #[.pointer (some ⟨x2, 0, none⟩)]]), (nm_records, .agg #[.func (.func 108) #[] #[.pointer (some ⟨x3, 0, none⟩)]]), (nm_circles, .agg #[.func (.func 109) #[] #[.pointer (some ⟨x4, 0, none⟩)]])] nm_crossings (.agg #[.func (.func 27) #[] #[]]) hM (nm_new _ _ rfl)
  clear hM C
  have hW := ((Below.refl w1.heap.size w1).alloc (Nat.le_refl _) (.cells #[.func (.func 27) #[] #[]] 63))
  go_wp2_with fail
  refine (says_tob (validI_any _ _ _ xs _ ((h.later b1).later hW)) hd).mono ?_
  rintro e w2 ⟨rfl, b2⟩
  have hc2 : w2.cell? ⟨w1.heap.size, 0, none⟩ = some (.func (.func 27) #[] #[]) := (b2.cell (by simp)).trans (by rw [World.cell?_alloc_new]; rfl)
  have b3 : Below w1.heap.size w1 w2 := hW.trans (b2.mono hW.size)
  go_wp2_with fail
  refine (says_to (crossI_any _ _ _ xs _ ((h.later b1).later b3)) (onVi_yes Hv.out)).mono ?_
  rintro e w3 ⟨rfl, b4⟩
  go_wp2
  go_ret2
  exact ⟨rfl, b1.trans ((b3.trans (b4.mono b3.size)).mono b1.size)⟩

set_option maxHeartbeats 1000000 in
theorem countN3_any (ao : Option Addr) (n cap : Nat) (xs : List Int) (w : World) (h : Sl w ao n cap xs) (Hv : Hid (¬ Valid xs)) :
    Calls Try.prog 22 #[.string nm_crossings, .slice ao n cap] w (Counted w 0 false) := by
  have hd := decide_eq_false Hv.out
  go_enter Try.func22, Try.ntmps22
  go_wp2_with fail
  refine (counters_any _).mono ?_
  rintro e w1 ⟨b, rfl, C, b1⟩
  obtain ⟨x1, x2, x3, x4, hM, hx1, hx2, hx3, hx4⟩ := C.all
  have hsee := run_see (P := Try.prog) Try.underlying65 Try.underlying9 [(nm_inversions, .agg #[.func (.func 24) #[] #[]]), (nm_major, .agg #[.func (.func 25) #[] #[]]), (nm_denert, .agg #[.func (.func 26) #[] #[]])] [(nm_nestings, .agg #[.func (.func 28) #[] #[]]), (nm_descents, .agg #[.func (.func 108) #[] #[.pointer (some ⟨x1, 0, none⟩)]]), (nm_above, .agg #[.func (.func 108) #[] #[.pointer (some ⟨x2, 0, none⟩)]]), (nm_records, .agg #[.func (.func 108) #[] #[.pointer (some ⟨x3, 0, none⟩)]]), (nm_circles, .agg #[.func (.func 109) #[] #[.pointer (some ⟨x4, 0, none⟩)]])] nm_crossings (.agg #[.func (.func 27) #[] #[]]) hM (nm_new _ _ rfl)
  clear hM C
  have hW := ((Below.refl w1.heap.size w1).alloc (Nat.le_refl _) (.cells #[.func (.func 27) #[] #[]] 63))
  go_wp2_with fail
  refine (says_tob (validI_any _ _ _ xs _ ((h.later b1).later hW)) hd).mono ?_
  rintro e w2 ⟨rfl, b2⟩
  have hc2 : w2.cell? ⟨w1.heap.size, 0, none⟩ = some (.func (.func 27) #[] #[]) := (b2.cell (by simp)).trans (by rw [World.cell?_alloc_new]; rfl)
  have b3 : Below w1.heap.size w1 w2 := hW.trans (b2.mono hW.size)
  go_wp2
  go_ret2
  exact ⟨rfl, b1.trans (b3.mono b1.size)⟩

set_option maxHeartbeats 1000000 in
theorem countY4_any (ao : Option Addr) (n cap : Nat) (xs : List Int) (w : World) (h : Sl w ao n cap xs) (Hv : Hid (Valid xs)) :
    Calls Try.prog 22 #[.string nm_nestings, .slice ao n cap] w (Counted w (valN xs 4) true) := by
  have hd := decide_eq_true Hv.out
  go_enter Try.func22, Try.ntmps22
  go_wp2_with fail
  refine (counters_any _).mono ?_
  rintro e w1 ⟨b, rfl, C, b1⟩
  obtain ⟨x1, x2, x3, x4, hM, hx1, hx2, hx3, hx4⟩ := C.all
  have hsee := run_see (P := Try.prog) Try.underlying65 Try.underlying9 [(nm_inversions, .agg #[.func (.func 24) #[] #[]]), (nm_major, .agg #[.func (.func 25) #[] #[]]), (nm_denert, .agg #[.func (.func 26) #[] #[]]), (nm_crossings, .agg #[.func (.func 27) #[] #[]])] [(nm_descents, .agg #[.func (.func 108) #[] #[.pointer (some ⟨x1, 0, none⟩)]]), (nm_above, .agg #[.func (.func 108) #[] #[.pointer (some ⟨x2, 0, none⟩)]]), (nm_records, .agg #[.func (.func 108) #[] #[.pointer (some ⟨x3, 0, none⟩)]]), (nm_circles, .agg #[.func (.func 109) #[] #[.pointer (some ⟨x4, 0, none⟩)]])] nm_nestings (.agg #[.func (.func 28) #[] #[]]) hM (nm_new _ _ rfl)
  clear hM C
  have hW := ((Below.refl w1.heap.size w1).alloc (Nat.le_refl _) (.cells #[.func (.func 28) #[] #[]] 63))
  go_wp2_with fail
  refine (says_tob (validI_any _ _ _ xs _ ((h.later b1).later hW)) hd).mono ?_
  rintro e w2 ⟨rfl, b2⟩
  have hc2 : w2.cell? ⟨w1.heap.size, 0, none⟩ = some (.func (.func 28) #[] #[]) := (b2.cell (by simp)).trans (by rw [World.cell?_alloc_new]; rfl)
  have b3 : Below w1.heap.size w1 w2 := hW.trans (b2.mono hW.size)
  go_wp2_with fail
  refine (says_to (nestI_any _ _ _ xs _ ((h.later b1).later b3)) (onVi_yes Hv.out)).mono ?_
  rintro e w3 ⟨rfl, b4⟩
  go_wp2
  go_ret2
  exact ⟨rfl, b1.trans ((b3.trans (b4.mono b3.size)).mono b1.size)⟩

set_option maxHeartbeats 1000000 in
theorem countN4_any (ao : Option Addr) (n cap : Nat) (xs : List Int) (w : World) (h : Sl w ao n cap xs) (Hv : Hid (¬ Valid xs)) :
    Calls Try.prog 22 #[.string nm_nestings, .slice ao n cap] w (Counted w 0 false) := by
  have hd := decide_eq_false Hv.out
  go_enter Try.func22, Try.ntmps22
  go_wp2_with fail
  refine (counters_any _).mono ?_
  rintro e w1 ⟨b, rfl, C, b1⟩
  obtain ⟨x1, x2, x3, x4, hM, hx1, hx2, hx3, hx4⟩ := C.all
  have hsee := run_see (P := Try.prog) Try.underlying65 Try.underlying9 [(nm_inversions, .agg #[.func (.func 24) #[] #[]]), (nm_major, .agg #[.func (.func 25) #[] #[]]), (nm_denert, .agg #[.func (.func 26) #[] #[]]), (nm_crossings, .agg #[.func (.func 27) #[] #[]])] [(nm_descents, .agg #[.func (.func 108) #[] #[.pointer (some ⟨x1, 0, none⟩)]]), (nm_above, .agg #[.func (.func 108) #[] #[.pointer (some ⟨x2, 0, none⟩)]]), (nm_records, .agg #[.func (.func 108) #[] #[.pointer (some ⟨x3, 0, none⟩)]]), (nm_circles, .agg #[.func (.func 109) #[] #[.pointer (some ⟨x4, 0, none⟩)]])] nm_nestings (.agg #[.func (.func 28) #[] #[]]) hM (nm_new _ _ rfl)
  clear hM C
  have hW := ((Below.refl w1.heap.size w1).alloc (Nat.le_refl _) (.cells #[.func (.func 28) #[] #[]] 63))
  go_wp2_with fail
  refine (says_tob (validI_any _ _ _ xs _ ((h.later b1).later hW)) hd).mono ?_
  rintro e w2 ⟨rfl, b2⟩
  have hc2 : w2.cell? ⟨w1.heap.size, 0, none⟩ = some (.func (.func 28) #[] #[]) := (b2.cell (by simp)).trans (by rw [World.cell?_alloc_new]; rfl)
  have b3 : Below w1.heap.size w1 w2 := hW.trans (b2.mono hW.size)
  go_wp2
  go_ret2
  exact ⟨rfl, b1.trans (b3.mono b1.size)⟩

set_option maxHeartbeats 1000000 in
theorem countY5_any (ao : Option Addr) (n cap : Nat) (xs : List Int) (w : World) (h : Sl w ao n cap xs) (Hv : Hid (Valid xs)) :
    Calls Try.prog 22 #[.string nm_descents, .slice ao n cap] w (Counted w (valN xs 5) true) := by
  have hd := decide_eq_true Hv.out
  go_enter Try.func22, Try.ntmps22
  go_wp2_with fail
  refine (counters_any _).mono ?_
  rintro e w1 ⟨b, rfl, C, b1⟩
  obtain ⟨x1, x2, x3, x4, hM, hx1, hx2, hx3, hx4⟩ := C.all
  have hsee := run_see (P := Try.prog) Try.underlying65 Try.underlying9 [(nm_inversions, .agg #[.func (.func 24) #[] #[]]), (nm_major, .agg #[.func (.func 25) #[] #[]]), (nm_denert, .agg #[.func (.func 26) #[] #[]]), (nm_crossings, .agg #[.func (.func 27) #[] #[]]), (nm_nestings, .agg #[.func (.func 28) #[] #[]])] [(nm_above, .agg #[.func (.func 108) #[] #[.pointer (some ⟨x2, 0, none⟩)]]), (nm_records, .agg #[.func (.func 108) #[] #[.pointer (some ⟨x3, 0, none⟩)]]), (nm_circles, .agg #[.func (.func 109) #[] #[.pointer (some ⟨x4, 0, none⟩)]])] nm_descents (.agg #[.func (.func 108) #[] #[.pointer (some ⟨x1, 0, none⟩)]]) hM (nm_new _ _ rfl)
  clear hM C
  have hW := ((Below.refl w1.heap.size w1).alloc (Nat.le_refl _) (.cells #[.func (.func 108) #[] #[.pointer (some ⟨x1, 0, none⟩)]] 63))
  go_wp2_with fail
  refine (says_tob (validI_any _ _ _ xs _ ((h.later b1).later hW)) hd).mono ?_
  rintro e w2 ⟨rfl, b2⟩
  have hc2 : w2.cell? ⟨w1.heap.size, 0, none⟩ = some (.func (.func 108) #[] #[.pointer (some ⟨x1, 0, none⟩)]) := (b2.cell (by simp)).trans (by rw [World.cell?_alloc_new]; rfl)
  have b3 : Below w1.heap.size w1 w2 := hW.trans (b2.mono hW.size)
  go_wp2_with fail
  refine (says_to (sz5_any x1 _ _ _ xs _ ((h.later b1).later b3) (hx1.kept b3)) (congrArg (fun l => ((List.length l : Nat) : Int)) (onV_yes Hv.out))).mono ?_
  rintro e w3 ⟨rfl, b4⟩
  go_wp2
  go_ret2
  exact ⟨rfl, b1.trans ((b3.trans (b4.mono b3.size)).mono b1.size)⟩

set_option maxHeartbeats 1000000 in
theorem countN5_any (ao : Option Addr) (n cap : Nat) (xs : List Int) (w : World) (h : Sl w ao n cap xs) (Hv : Hid (¬ Valid xs)) :
    Calls Try.prog 22 #[.string nm_descents, .slice ao n cap] w (Counted w 0 false) := by
  have hd := decide_eq_false Hv.out
  go_enter Try.func22, Try.ntmps22
  go_wp2_with fail
  refine (counters_any _).mono ?_
  rintro e w1 ⟨b, rfl, C, b1⟩
  obtain ⟨x1, x2, x3, x4, hM, hx1, hx2, hx3, hx4⟩ := C.all
  have hsee := run_see (P := Try.prog) Try.underlying65 Try.underlying9 [(nm_inversions, .agg #[.func (.func 24) #[] #[]]), (nm_major, .agg #[.func (.func 25) #[] #[]]), (nm_denert, .agg #[.func (.func 26) #[] #[]]), (nm_crossings, .agg #[.func (.func 27) #[] #[]]), (nm_nestings, .agg #[.func (.func 28) #[] #[]])] [(nm_above, .agg #[.func (.func 108) #[] #[.pointer (some ⟨x2, 0, none⟩)]]), (nm_records, .agg #[.func (.func 108) #[] #[.pointer (some ⟨x3, 0, none⟩)]]), (nm_circles, .agg #[.func (.func 109) #[] #[.pointer (some ⟨x4, 0, none⟩)]])] nm_descents (.agg #[.func (.func 108) #[] #[.pointer (some ⟨x1, 0, none⟩)]]) hM (nm_new _ _ rfl)
  clear hM C
  have hW := ((Below.refl w1.heap.size w1).alloc (Nat.le_refl _) (.cells #[.func (.func 108) #[] #[.pointer (some ⟨x1, 0, none⟩)]] 63))
  go_wp2_with fail
  refine (says_tob (validI_any _ _ _ xs _ ((h.later b1).later hW)) hd).mono ?_
  rintro e w2 ⟨rfl, b2⟩
  have hc2 : w2.cell? ⟨w1.heap.size, 0, none⟩ = some (.func (.func 108) #[] #[.pointer (some ⟨x1, 0, none⟩)]) := (b2.cell (by simp)).trans (by rw [World.cell?_alloc_new]; rfl)
  have b3 : Below w1.heap.size w1 w2 := hW.trans (b2.mono hW.size)
  go_wp2
  go_ret2
  exact ⟨rfl, b1.trans (b3.mono b1.size)⟩

set_option maxHeartbeats 1000000 in
theorem countY6_any (ao : Option Addr) (n cap : Nat) (xs : List Int) (w : World) (h : Sl w ao n cap xs) (Hv : Hid (Valid xs)) :
    Calls Try.prog 22 #[.string nm_above, .slice ao n cap] w (Counted w (valN xs 6) true) := by
  have hd := decide_eq_true Hv.out
  go_enter Try.func22, Try.ntmps22
  go_wp2_with fail
  refine (counters_any _).mono ?_
  rintro e w1 ⟨b, rfl, C, b1⟩
  obtain ⟨x1, x2, x3, x4, hM, hx1, hx2, hx3, hx4⟩ := C.all
  have hsee := run_see (P := Try.prog) Try.underlying65 Try.underlying9 [(nm_inversions, .agg #[.func (.func 24) #[] #[]]), (nm_major, .agg #[.func (.func 25) #[] #[]]), (nm_denert, .agg #[.func (.func 26) #[] #[]]), (nm_crossings, .agg #[.func (.func 27) #[] #[]]), (nm_nestings, .agg #[.func (.func 28) #[] #[]]), (nm_descents, .agg #[.func (.func 108) #[] #[.pointer (some ⟨x1, 0, none⟩)]])] [(nm_records, .agg #[.func (.func 108) #[] #[.pointer (some ⟨x3, 0, none⟩)]]), (nm_circles, .agg #[.func (.func 109) #[] #[.pointer (some ⟨x4, 0, none⟩)]])] nm_above (.agg #[.func (.func 108) #[] #[.pointer (some ⟨x2, 0, none⟩)]]) hM (nm_new _ _ rfl)
  clear hM C
  have hW := ((Below.refl w1.heap.size w1).alloc (Nat.le_refl _) (.cells #[.func (.func 108) #[] #[.pointer (some ⟨x2, 0, none⟩)]] 63))
  go_wp2_with fail
  refine (says_tob (validI_any _ _ _ xs _ ((h.later b1).later hW)) hd).mono ?_
  rintro e w2 ⟨rfl, b2⟩
  have hc2 : w2.cell? ⟨w1.heap.size, 0, none⟩ = some (.func (.func 108) #[] #[.pointer (some ⟨x2, 0, none⟩)]) := (b2.cell (by simp)).trans (by rw [World.cell?_alloc_new]; rfl)
  have b3 : Below w1.heap.size w1 w2 := hW.trans (b2.mono hW.size)
  go_wp2_with fail
  refine (says_to (sz6_any x2 _ _ _ xs _ ((h.later b1).later b3) (hx2.kept b3)) (congrArg (fun l => ((List.length l : Nat) : Int)) (onV_yes Hv.out))).mono ?_
  rintro e w3 ⟨rfl, b4⟩
  go_wp2
  go_ret2
  exact ⟨rfl, b1.trans ((b3.trans (b4.mono b3.size)).mono b1.size)⟩

set_option maxHeartbeats 1000000 in
theorem countN6_any (ao : Option Addr) (n cap : Nat) (xs : List Int) (w : World) (h : Sl w ao n cap xs) (Hv : Hid (¬ Valid xs)) :
    Calls Try.prog 22 #[.string nm_above, .slice ao n cap] w (Counted w 0 false) := by
  have hd := decide_eq_false Hv.out
  go_enter Try.func22, Try.ntmps22
  go_wp2_with fail
  refine (counters_any _).mono ?_
  rintro e w1 ⟨b, rfl, C, b1⟩
  obtain ⟨x1, x2, x3, x4, hM, hx1, hx2, hx3, hx4⟩ := C.all
  have hsee := run_see (P := Try.prog) Try.underlying65 Try.underlying9 [(nm_inversions, .agg #[.func (.func 24) #[] #[]]), (nm_major, .agg #[.func (.func 25) #[] #[]]), (nm_denert, .agg #[.func (.func 26) #[] #[]]), (nm_crossings, .agg #[.func (.func 27) #[] #[]]), (nm_nestings, .agg #[.func (.func 28) #[] #[]]), (nm_descents, .agg #[.func (.func 108) #[] #[.pointer (some ⟨x1, 0, none⟩)]])] [(nm_records, .agg #[.func (.func 108) #[] #[.pointer (some ⟨x3, 0, none⟩)]]), (nm_circles, .agg #[.func (.func 109) #[] #[.pointer (some ⟨x4, 0, none⟩)]])] nm_above (.agg #[.func (.func 108) #[] #[.pointer (some ⟨x2, 0, none⟩)]]) hM (nm_new _ _ rfl)
  clear hM C
  have hW := ((Below.refl w1.heap.size w1).alloc (Nat.le_refl _) (.cells #[.func (.func 108) #[] #[.pointer (some ⟨x2, 0, none⟩)]] 63))
  go_wp2_with fail
  refine (says_tob (validI_any _ _ _ xs _ ((h.later b1).later hW)) hd).mono ?_
  rintro e w2 ⟨rfl, b2⟩
  have hc2 : w2.cell? ⟨w1.heap.size, 0, none⟩ = some (.func (.func 108) #[] #[.pointer (some ⟨x2, 0, none⟩)]) := (b2.cell (by simp)).trans (by rw [World.cell?_alloc_new]; rfl)
  have b3 : Below w1.heap.size w1 w2 := hW.trans (b2.mono hW.size)
  go_wp2
  go_ret2
  exact ⟨rfl, b1.trans (b3.mono b1.size)⟩

set_option maxHeartbeats 1000000 in
theorem countY7_any (ao : Option Addr) (n cap : Nat) (xs : List Int) (w : World) (h : Sl w ao n cap xs) (Hv : Hid (Valid xs)) :
    Calls Try.prog 22 #[.string nm_records, .slice ao n cap] w (Counted w (valN xs 7) true) := by
  have hd := decide_eq_true Hv.out
  go_enter Try.func22, Try.ntmps22
  go_wp2_with fail
  refine (counters_any _).mono ?_
  rintro e w1 ⟨b, rfl, C, b1⟩
  obtain ⟨x1, x2, x3, x4, hM, hx1, hx2, hx3, hx4⟩ := C.all
  have hsee := run_see (P := Try.prog) Try.underlying65 Try.underlying9 [(nm_inversions, .agg #[.func (.func 24) #[] #[]]), (nm_major, .agg #[.func (.func 25) #[] #[]]), (nm_denert, .agg #[.func (.func 26) #[] #[]]), (nm_crossings, .agg #[.func (.func 27) #[] #[]]), (nm_nestings, .agg #[.func (.func 28) #[] #[]]), (nm_descents, .agg #[.func (.func 108) #[] #[.pointer (some ⟨x1, 0, none⟩)]]), (nm_above, .agg #[.func (.func 108) #[] #[.pointer (some ⟨x2, 0, none⟩)]])] [(nm_circles, .agg #[.func (.func 109) #[] #[.pointer (some ⟨x4, 0, none⟩)]])] nm_records (.agg #[.func (.func 108) #[] #[.pointer (some ⟨x3, 0, none⟩)]]) hM (nm_new _ _ rfl)
  clear hM C
  have hW := ((Below.refl w1.heap.size w1).alloc (Nat.le_refl _) (.cells #[.func (.func 108) #[] #[.pointer (some ⟨x3, 0, none⟩)]] 63))
  go_wp2_with fail
  refine (says_tob (validI_any _ _ _ xs _ ((h.later b1).later hW)) hd).mono ?_
  rintro e w2 ⟨rfl, b2⟩
  have hc2 : w2.cell? ⟨w1.heap.size, 0, none⟩ = some (.func (.func 108) #[] #[.pointer (some ⟨x3, 0, none⟩)]) := (b2.cell (by simp)).trans (by rw [World.cell?_alloc_new]; rfl)
  have b3 : Below w1.heap.size w1 w2 := hW.trans (b2.mono hW.size)
  go_wp2_with fail
  refine (says_to (sz7_any x3 _ _ _ xs _ ((h.later b1).later b3) (hx3.kept b3)) (congrArg (fun l => ((List.length l : Nat) : Int)) (onV_yes Hv.out))).mono ?_
  rintro e w3 ⟨rfl, b4⟩
  go_wp2
  go_ret2
  exact ⟨rfl, b1.trans ((b3.trans (b4.mono b3.size)).mono b1.size)⟩

set_option maxHeartbeats 1000000 in
theorem countN7_any (ao : Option Addr) (n cap : Nat) (xs : List Int) (w : World) (h : Sl w ao n cap xs) (Hv : Hid (¬ Valid xs)) :
    Calls Try.prog 22 #[.string nm_records, .slice ao n cap] w (Counted w 0 false) := by
  have hd := decide_eq_false Hv.out
  go_enter Try.func22, Try.ntmps22
  go_wp2_with fail
  refine (counters_any _).mono ?_
  rintro e w1 ⟨b, rfl, C, b1⟩
  obtain ⟨x1, x2, x3, x4, hM, hx1, hx2, hx3, hx4⟩ := C.all
  have hsee := run_see (P := Try.prog) Try.underlying65 Try.underlying9 [(nm_inversions, .agg #[.func (.func 24) #[] #[]]), (nm_major, .agg #[.func (.func 25) #[] #[]]), (nm_denert, .agg #[.func (.func 26) #[] #[]]), (nm_crossings, .agg #[.func (.func 27) #[] #[]]), (nm_nestings, .agg #[.func (.func 28) #[] #[]]), (nm_descents, .agg #[.func (.func 108) #[] #[.pointer (some ⟨x1, 0, none⟩)]]), (nm_above, .agg #[.func (.func 108) #[] #[.pointer (some ⟨x2, 0, none⟩)]])] [(nm_circles, .agg #[.func (.func 109) #[] #[.pointer (some ⟨x4, 0, none⟩)]])] nm_records (.agg #[.func (.func 108) #[] #[.pointer (some ⟨x3, 0, none⟩)]]) hM (nm_new _ _ rfl)
  clear hM C
  have hW := ((Below.refl w1.heap.size w1).alloc (Nat.le_refl _) (.cells #[.func (.func 108) #[] #[.pointer (some ⟨x3, 0, none⟩)]] 63))
  go_wp2_with fail
  refine (says_tob (validI_any _ _ _ xs _ ((h.later b1).later hW)) hd).mono ?_
  rintro e w2 ⟨rfl, b2⟩
  have hc2 : w2.cell? ⟨w1.heap.size, 0, none⟩ = some (.func (.func 108) #[] #[.pointer (some ⟨x3, 0, none⟩)]) := (b2.cell (by simp)).trans (by rw [World.cell?_alloc_new]; rfl)
  have b3 : Below w1.heap.size w1 w2 := hW.trans (b2.mono hW.size)
  go_wp2
  go_ret2
  exact ⟨rfl, b1.trans (b3.mono b1.size)⟩

set_option maxHeartbeats 1000000 in
theorem countY8_any (ao : Option Addr) (n cap : Nat) (xs : List Int) (w : World) (h : Sl w ao n cap xs) (Hv : Hid (Valid xs)) :
    Calls Try.prog 22 #[.string nm_circles, .slice ao n cap] w (Counted w (valN xs 8) true) := by
  have hd := decide_eq_true Hv.out
  go_enter Try.func22, Try.ntmps22
  go_wp2_with fail
  refine (counters_any _).mono ?_
  rintro e w1 ⟨b, rfl, C, b1⟩
  obtain ⟨x1, x2, x3, x4, hM, hx1, hx2, hx3, hx4⟩ := C.all
  have hsee := run_see (P := Try.prog) Try.underlying65 Try.underlying9 [(nm_inversions, .agg #[.func (.func 24) #[] #[]]), (nm_major, .agg #[.func (.func 25) #[] #[]]), (nm_denert, .agg #[.func (.func 26) #[] #[]]), (nm_crossings, .agg #[.func (.func 27) #[] #[]]), (nm_nestings, .agg #[.func (.func 28) #[] #[]]), (nm_descents, .agg #[.func (.func 108) #[] #[.pointer (some ⟨x1, 0, none⟩)]]), (nm_above, .agg #[.func (.func 108) #[] #[.pointer (some ⟨x2, 0, none⟩)]]), (nm_records, .agg #[.func (.func 108) #[] #[.pointer (some ⟨x3, 0, none⟩)]])] [] nm_circles (.agg #[.func (.func 109) #[] #[.pointer (some ⟨x4, 0, none⟩)]]) hM (nm_new _ _ rfl)
  clear hM C
  have hW := ((Below.refl w1.heap.size w1).alloc (Nat.le_refl _) (.cells #[.func (.func 109) #[] #[.pointer (some ⟨x4, 0, none⟩)]] 63))
  go_wp2_with fail
  refine (says_tob (validI_any _ _ _ xs _ ((h.later b1).later hW)) hd).mono ?_
  rintro e w2 ⟨rfl, b2⟩
  have hc2 : w2.cell? ⟨w1.heap.size, 0, none⟩ = some (.func (.func 109) #[] #[.pointer (some ⟨x4, 0, none⟩)]) := (b2.cell (by simp)).trans (by rw [World.cell?_alloc_new]; rfl)
  have b3 : Below w1.heap.size w1 w2 := hW.trans (b2.mono hW.size)
  go_wp2_with fail
  refine (says_to (sz8_any x4 _ _ _ xs _ ((h.later b1).later b3) (hx4.kept b3)) (congrArg (fun l => ((List.length l : Nat) : Int)) (onVL_yes Hv.out))).mono ?_
  rintro e w3 ⟨rfl, b4⟩
  go_wp2
  go_ret2
  exact ⟨rfl, b1.trans ((b3.trans (b4.mono b3.size)).mono b1.size)⟩

set_option maxHeartbeats 1000000 in
theorem countN8_any (ao : Option Addr) (n cap : Nat) (xs : List Int) (w : World) (h : Sl w ao n cap xs) (Hv : Hid (¬ Valid xs)) :
    Calls Try.prog 22 #[.string nm_circles, .slice ao n cap] w (Counted w 0 false) := by
  have hd := decide_eq_false Hv.out
  go_enter Try.func22, Try.ntmps22
  go_wp2_with fail
  refine (counters_any _).mono ?_
  rintro e w1 ⟨b, rfl, C, b1⟩
  obtain ⟨x1, x2, x3, x4, hM, hx1, hx2, hx3, hx4⟩ := C.all
  have hsee := run_see (P := Try.prog) Try.underlying65 Try.underlying9 [(nm_inversions, .agg #[.func (.func 24) #[] #[]]), (nm_major, .agg #[.func (.func 25) #[] #[]]), (nm_denert, .agg #[.func (.func 26) #[] #[]]), (nm_crossings, .agg #[.func (.func 27) #[] #[]]), (nm_nestings, .agg #[.func (.func 28) #[] #[]]), (nm_descents, .agg #[.func (.func 108) #[] #[.pointer (some ⟨x1, 0, none⟩)]]), (nm_above, .agg #[.func (.func 108) #[] #[.pointer (some ⟨x2, 0, none⟩)]]), (nm_records, .agg #[.func (.func 108) #[] #[.pointer (some ⟨x3, 0, none⟩)]])] [] nm_circles (.agg #[.func (.func 109) #[] #[.pointer (some ⟨x4, 0, none⟩)]]) hM (nm_new _ _ rfl)
  clear hM C
  have hW := ((Below.refl w1.heap.size w1).alloc (Nat.le_refl _) (.cells #[.func (.func 109) #[] #[.pointer (some ⟨x4, 0, none⟩)]] 63))
  go_wp2_with fail
  refine (says_tob (validI_any _ _ _ xs _ ((h.later b1).later hW)) hd).mono ?_
  rintro e w2 ⟨rfl, b2⟩
  have hc2 : w2.cell? ⟨w1.heap.size, 0, none⟩ = some (.func (.func 109) #[] #[.pointer (some ⟨x4, 0, none⟩)]) := (b2.cell (by simp)).trans (by rw [World.cell?_alloc_new]; rfl)
  have b3 : Below w1.heap.size w1 w2 := hW.trans (b2.mono hW.size)
  go_wp2
  go_ret2
  exact ⟨rfl, b1.trans (b3.mono b1.size)⟩

set_option maxHeartbeats 1000000 in
theorem countZ_any (s : ByteArray) (ao : Option Addr) (n cap : Nat) (xs : List Int) (w : World) (_ : Sl w ao n cap xs) (h9 : ¬ ixOf s < 9) :
    Calls Try.prog 22 #[.string s, .slice ao n cap] w (Counted w 0 false) := by
  go_enter Try.func22, Try.ntmps22
  go_wp2_with fail
  refine (counters_any _).mono ?_
  rintro e w1 ⟨b, rfl, C, b1⟩
  obtain ⟨x1, x2, x3, x4, hM, hx1, hx2, hx3, hx4⟩ := C.all
  have hun := run_unseen (P := Try.prog) Try.underlying65 Try.underlying9 (w := w1) (b := b) (et := 63) (.agg #[.nilFunc]) (by kernel_rfl) s hM (ix_no h9)
  clear hM C
  have hW := ((Below.refl w1.heap.size w1).alloc (Nat.le_refl _) (.cells #[.nilFunc] 63))
  go_wp2
  go_ret2
  exact ⟨rfl, b1.trans (hW.mono b1.size)⟩

theorem countI_any (s : ByteArray) (ao : Option Addr) (n cap : Nat) (xs : List Int) (w : World) (h : Sl w ao n cap xs) :
    Calls Try.prog 22 #[.string s, .slice ao n cap] w (Counted w (cntV s xs) (cntB s xs)) := by
  by_cases h9 : ixOf s < 9
  · obtain ⟨k, hk⟩ : ∃ k, k = ixOf s := ⟨_, rfl⟩
    have hc : k = 0 ∨ k = 1 ∨ k = 2 ∨ k = 3 ∨ k = 4 ∨ k = 5 ∨ k = 6 ∨ k = 7 ∨ k = 8 := by omega
    by_cases hv : Valid xs
    · rw [show cntV s xs = valN xs (ixOf s) from if_pos hv, show cntB s xs = true by simp [cntB, hv, h9], ← hk]
      have Hv := hid hv
      rcases hc with rfl | rfl | rfl | rfl | rfl | rfl | rfl | rfl | rfl
      · rw [ix_inversions hk.symm]; exact countY0_any _ _ _ xs _ h Hv
      · rw [ix_major hk.symm]; exact countY1_any _ _ _ xs _ h Hv
      · rw [ix_denert hk.symm]; exact countY2_any _ _ _ xs _ h Hv
      · rw [ix_crossings hk.symm]; exact countY3_any _ _ _ xs _ h Hv
      · rw [ix_nestings hk.symm]; exact countY4_any _ _ _ xs _ h Hv
      · rw [ix_descents hk.symm]; exact countY5_any _ _ _ xs _ h Hv
      · rw [ix_above hk.symm]; exact countY6_any _ _ _ xs _ h Hv
      · rw [ix_records hk.symm]; exact countY7_any _ _ _ xs _ h Hv
      · rw [ix_circles hk.symm]; exact countY8_any _ _ _ xs _ h Hv
    · rw [show cntV s xs = 0 from if_neg hv, show cntB s xs = false by simp [cntB, hv]]
      have Hv := hid hv
      rcases hc with rfl | rfl | rfl | rfl | rfl | rfl | rfl | rfl | rfl
      · rw [ix_inversions hk.symm]; exact countN0_any _ _ _ xs _ h Hv
      · rw [ix_major hk.symm]; exact countN1_any _ _ _ xs _ h Hv
      · rw [ix_denert hk.symm]; exact countN2_any _ _ _ xs _ h Hv
      · rw [ix_crossings hk.symm]; exact countN3_any _ _ _ xs _ h Hv
      · rw [ix_nestings hk.symm]; exact countN4_any _ _ _ xs _ h Hv
      · rw [ix_descents hk.symm]; exact countN5_any _ _ _ xs _ h Hv
      · rw [ix_above hk.symm]; exact countN6_any _ _ _ xs _ h Hv
      · rw [ix_records hk.symm]; exact countN7_any _ _ _ xs _ h Hv
      · rw [ix_circles hk.symm]; exact countN8_any _ _ _ xs _ h Hv
  · have e1 : cntV s xs = 0 := by
      rw [cntV]
      have h8 : 9 ≤ ixOf s := by omega
      generalize ixOf s = k at h8
      match k, h8 with
      | k + 9, _ => show (if Valid xs then 0 else 0) = 0; split <;> rfl
    have e2 : cntB s xs = false := by rw [cntB]; exact decide_eq_false (fun h => h9 h.2)
    rw [e1, e2]
    exact countZ_any s _ _ _ xs _ h h9

end Go.Proofs.Ytpokoknapapdcaa
