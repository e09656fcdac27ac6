/- The desk of the program, its parts: what answers a number in decimal, tables as texts, and the texts of maps. Conditions: the list's cells can be read and are an order (a signed order for lengths and flags); the library's table of powers of ten holds what its initialiser lays. -/
import Derived.Test.YtaceiebmgnhdgaaGreatDoorSgtZ
import Derived.Test.YtaceiebmgnhdgaaGreatDoorStr
import Derived.Test.YtaceiebmgnhdgaaGreatDoorDkP
import Derived.Test.YtaceiebmgnhdgaaGreatDoorCofI
import Derived.Test.YtaceiebmgnhdgaaGreatDoorFoL
import Derived.Test.YtaceiebmgnhdgaaGreatDoorLin
import Derived.Test.YtaceiebmgnhdgaaGreatDoorSgnC
import Derived.Test.YtaceiebmgnhdgaaGreatDoorFinL
namespace Go.Proofs.YtaceiebmgnhdgaaGreatDoor
open Go.RowKit

/-- Itoa at small numbers. -/
theorem itoaI_any (x : Int) (h : 0 ≤ x ∧ x < 100) (w : World) (hp : Pow w) :
    Calls Tryz.prog 98 #[.int .i64 x] w (Says w (.string (BA (Lib.itoa x)))) := by
  refine (Tryz.strconv_Itoa x (by omega) (by omega) w hp).mono ?_
  rintro e w' ⟨rfl, k, os, rfl⟩
  exact ⟨rfl, grow_below w.heap.size w (Nat.le_refl _) k os⟩

/-- A cell of its own that holds a function of lists. -/
def FnAt (w : World) (b : Nat) (v : Value) : Prop := w.heap[b]? = some (.cells #[v] 34)
theorem FnAt.lt {w : World} {b : Nat} {v : Value} (h : FnAt w b v) : b < w.heap.size := (Array.getElem?_eq_some_iff.1 h).1
theorem FnAt.kept {w w' : World} {b : Nat} {v : Value} (h : FnAt w b v) (hb : Below w.heap.size w w') : FnAt w' b v := (hb.block b h.lt).trans h
theorem FnAt.cell {w : World} {b : Nat} {v : Value} (h : FnAt w b v) : w.cell? ⟨b, 0, none⟩ = some v := by simp [World.cell?, show w.heap[b]? = some (.cells #[v] 34) from h]

set_option maxHeartbeats 1000000 in
theorem dec0_any (b : Nat) (ao : Option Addr) (n cap : Nat) (xs : List Int) (w : World) (h : Sl w ao n cap xs) (Hv : Hid (Valid xs)) (hb : FnAt w b (.func (.func 85) #[] #[])) (hp : Pow w) :
    Calls Tryz.prog 97 #[.slice ao n cap, .pointer (some ⟨b, 0, none⟩)] w (Says w (.string (BA (Lib.itoa (valN xs 0))))) := by
  have hc := hb.cell
  have hbd := valN_bd (k := 0) Hv.out (by decide)
  have c0 : Calls Tryz.prog 85 #[.slice ao n cap] w (Says w (.int .i64 (valN xs 0))) := says_to (invsI_any _ _ _ xs _ h) (onVi_yes Hv.out)
  obtain ⟨x, hx0⟩ : ∃ x, x = valN xs 0 := ⟨_, rfl⟩
  rw [← hx0] at hbd c0 ⊢
  clear hx0
  go_enter Tryz.func97, Tryz.ntmps97
  go_wp2_with fail
  refine c0.mono ?_
  rintro e w1 ⟨rfl, hb1⟩
  have hp1 := hp.later hb1
  go_wp2_with fail
  refine (itoaI_any x hbd _ hp1).mono ?_
  rintro e w2 ⟨rfl, hb2⟩
  go_wp2
  go_ret
  exact ⟨rfl, hb1.trans (hb2.mono hb1.size)⟩

set_option maxHeartbeats 1000000 in
theorem dec1_any (b : Nat) (ao : Option Addr) (n cap : Nat) (xs : List Int) (w : World) (h : Sl w ao n cap xs) (Hv : Hid (Valid xs)) (hb : FnAt w b (.func (.func 86) #[] #[])) (hp : Pow w) :
    Calls Tryz.prog 97 #[.slice ao n cap, .pointer (some ⟨b, 0, none⟩)] w (Says w (.string (BA (Lib.itoa (valN xs 1))))) := by
  have hc := hb.cell
  have hbd := valN_bd (k := 1) Hv.out (by decide)
  have c0 : Calls Tryz.prog 86 #[.slice ao n cap] w (Says w (.int .i64 (valN xs 1))) := says_to (majorI_any _ _ _ xs _ h) (onVi_yes Hv.out)
  obtain ⟨x, hx0⟩ : ∃ x, x = valN xs 1 := ⟨_, rfl⟩
  rw [← hx0] at hbd c0 ⊢
  clear hx0
  go_enter Tryz.func97, Tryz.ntmps97
  go_wp2_with fail
  refine c0.mono ?_
  rintro e w1 ⟨rfl, hb1⟩
  have hp1 := hp.later hb1
  go_wp2_with fail
  refine (itoaI_any x hbd _ hp1).mono ?_
  rintro e w2 ⟨rfl, hb2⟩
  go_wp2
  go_ret
  exact ⟨rfl, hb1.trans (hb2.mono hb1.size)⟩

set_option maxHeartbeats 1000000 in
theorem dec2_any (b : Nat) (ao : Option Addr) (n cap : Nat) (xs : List Int) (w : World) (h : Sl w ao n cap xs) (Hv : Hid (Valid xs)) (hb : FnAt w b (.func (.func 87) #[] #[])) (hp : Pow w) :
    Calls Tryz.prog 97 #[.slice ao n cap, .pointer (some ⟨b, 0, none⟩)] w (Says w (.string (BA (Lib.itoa (valN xs 2))))) := by
  have hc := hb.cell
  have hbd := valN_bd (k := 2) Hv.out (by decide)
  have c0 : Calls Tryz.prog 87 #[.slice ao n cap] w (Says w (.int .i64 (valN xs 2))) := says_to (denI_any _ _ _ xs _ h) (onVi_yes Hv.out)
  obtain ⟨x, hx0⟩ : ∃ x, x = valN xs 2 := ⟨_, rfl⟩
  rw [← hx0] at hbd c0 ⊢
  clear hx0
  go_enter Tryz.func97, Tryz.ntmps97
  go_wp2_with fail
  refine c0.mono ?_
  rintro e w1 ⟨rfl, hb1⟩
  have hp1 := hp.later hb1
  go_wp2_with fail
  refine (itoaI_any x hbd _ hp1).mono ?_
  rintro e w2 ⟨rfl, hb2⟩
  go_wp2
  go_ret
  exact ⟨rfl, hb1.trans (hb2.mono hb1.size)⟩

set_option maxHeartbeats 1000000 in
theorem dec3_any (b : Nat) (ao : Option Addr) (n cap : Nat) (xs : List Int) (w : World) (h : Sl w ao n cap xs) (Hv : Hid (Valid xs)) (hb : FnAt w b (.func (.func 88) #[] #[])) (hp : Pow w) :
    Calls Tryz.prog 97 #[.slice ao n cap, .pointer (some ⟨b, 0, none⟩)] w (Says w (.string (BA (Lib.itoa (valN xs 3))))) := by
  have hc := hb.cell
  have hbd := valN_bd (k := 3) Hv.out (by decide)
  have c0 : Calls Tryz.prog 88 #[.slice ao n cap] w (Says w (.int .i64 (valN xs 3))) := says_to (crossI_any _ _ _ xs _ h) (onVi_yes Hv.out)
  obtain ⟨x, hx0⟩ : ∃ x, x = valN xs 3 := ⟨_, rfl⟩
  rw [← hx0] at hbd c0 ⊢
  clear hx0
  go_enter Tryz.func97, Tryz.ntmps97
  go_wp2_with fail
  refine c0.mono ?_
  rintro e w1 ⟨rfl, hb1⟩
  have hp1 := hp.later hb1
  go_wp2_with fail
  refine (itoaI_any x hbd _ hp1).mono ?_
  rintro e w2 ⟨rfl, hb2⟩
  go_wp2
  go_ret
  exact ⟨rfl, hb1.trans (hb2.mono hb1.size)⟩

set_option maxHeartbeats 1000000 in
theorem dec4_any (b : Nat) (ao : Option Addr) (n cap : Nat) (xs : List Int) (w : World) (h : Sl w ao n cap xs) (Hv : Hid (Valid xs)) (hb : FnAt w b (.func (.func 89) #[] #[])) (hp : Pow w) :
    Calls Tryz.prog 97 #[.slice ao n cap, .pointer (some ⟨b, 0, none⟩)] w (Says w (.string (BA (Lib.itoa (valN xs 4))))) := by
  have hc := hb.cell
  have hbd := valN_bd (k := 4) Hv.out (by decide)
  have c0 : Calls Tryz.prog 89 #[.slice ao n cap] w (Says w (.int .i64 (valN xs 4))) := says_to (nestI_any _ _ _ xs _ h) (onVi_yes Hv.out)
  obtain ⟨x, hx0⟩ : ∃ x, x = valN xs 4 := ⟨_, rfl⟩
  rw [← hx0] at hbd c0 ⊢
  clear hx0
  go_enter Tryz.func97, Tryz.ntmps97
  go_wp2_with fail
  refine c0.mono ?_
  rintro e w1 ⟨rfl, hb1⟩
  have hp1 := hp.later hb1
  go_wp2_with fail
  refine (itoaI_any x hbd _ hp1).mono ?_
  rintro e w2 ⟨rfl, hb2⟩
  go_wp2
  go_ret
  exact ⟨rfl, hb1.trans (hb2.mono hb1.size)⟩

set_option maxHeartbeats 1000000 in
theorem dec5_any (b : Nat) (c : Nat) (ao : Option Addr) (n cap : Nat) (xs : List Int) (w : World) (h : Sl w ao n cap xs) (Hv : Hid (Valid xs)) (hb : FnAt w b (.func (.func 118) #[] #[.pointer (some ⟨c, 0, none⟩)])) (hx : BoxAt w c 91 67) (hp : Pow w) :
    Calls Tryz.prog 97 #[.slice ao n cap, .pointer (some ⟨b, 0, none⟩)] w (Says w (.string (BA (Lib.itoa (valN xs 5))))) := by
  have hc := hb.cell
  have hbd := valN_bd (k := 5) Hv.out (by decide)
  have c0 : Calls Tryz.prog 118 #[.slice ao n cap, .pointer (some ⟨c, 0, none⟩)] w (Says w (.int .i64 (valN xs 5))) := says_to (sz5_any c _ _ _ xs _ h hx) (congrArg (fun l => ((List.length l : Nat) : Int)) (onV_yes Hv.out))
  obtain ⟨x, hx0⟩ : ∃ x, x = valN xs 5 := ⟨_, rfl⟩
  rw [← hx0] at hbd c0 ⊢
  clear hx0
  go_enter Tryz.func97, Tryz.ntmps97
  go_wp2_with fail
  refine c0.mono ?_
  rintro e w1 ⟨rfl, hb1⟩
  have hp1 := hp.later hb1
  go_wp2_with fail
  refine (itoaI_any x hbd _ hp1).mono ?_
  rintro e w2 ⟨rfl, hb2⟩
  go_wp2
  go_ret
  exact ⟨rfl, hb1.trans (hb2.mono hb1.size)⟩

set_option maxHeartbeats 1000000 in
theorem dec6_any (b : Nat) (c : Nat) (ao : Option Addr) (n cap : Nat) (xs : List Int) (w : World) (h : Sl w ao n cap xs) (Hv : Hid (Valid xs)) (hb : FnAt w b (.func (.func 118) #[] #[.pointer (some ⟨c, 0, none⟩)])) (hx : BoxAt w c 92 67) (hp : Pow w) :
    Calls Tryz.prog 97 #[.slice ao n cap, .pointer (some ⟨b, 0, none⟩)] w (Says w (.string (BA (Lib.itoa (valN xs 6))))) := by
  have hc := hb.cell
  have hbd := valN_bd (k := 6) Hv.out (by decide)
  have c0 : Calls Tryz.prog 118 #[.slice ao n cap, .pointer (some ⟨c, 0, none⟩)] w (Says w (.int .i64 (valN xs 6))) := says_to (sz6_any c _ _ _ xs _ h hx) (congrArg (fun l => ((List.length l : Nat) : Int)) (onV_yes Hv.out))
  obtain ⟨x, hx0⟩ : ∃ x, x = valN xs 6 := ⟨_, rfl⟩
  rw [← hx0] at hbd c0 ⊢
  clear hx0
  go_enter Tryz.func97, Tryz.ntmps97
  go_wp2_with fail
  refine c0.mono ?_
  rintro e w1 ⟨rfl, hb1⟩
  have hp1 := hp.later hb1
  go_wp2_with fail
  refine (itoaI_any x hbd _ hp1).mono ?_
  rintro e w2 ⟨rfl, hb2⟩
  go_wp2
  go_ret
  exact ⟨rfl, hb1.trans (hb2.mono hb1.size)⟩

set_option maxHeartbeats 1000000 in
theorem dec7_any (b : Nat) (c : Nat) (ao : Option Addr) (n cap : Nat) (xs : List Int) (w : World) (h : Sl w ao n cap xs) (Hv : Hid (Valid xs)) (hb : FnAt w b (.func (.func 118) #[] #[.pointer (some ⟨c, 0, none⟩)])) (hx : BoxAt w c 93 67) (hp : Pow w) :
    Calls Tryz.prog 97 #[.slice ao n cap, .pointer (some ⟨b, 0, none⟩)] w (Says w (.string (BA (Lib.itoa (valN xs 7))))) := by
  have hc := hb.cell
  have hbd := valN_bd (k := 7) Hv.out (by decide)
  have c0 : Calls Tryz.prog 118 #[.slice ao n cap, .pointer (some ⟨c, 0, none⟩)] w (Says w (.int .i64 (valN xs 7))) := says_to (sz7_any c _ _ _ xs _ h hx) (congrArg (fun l => ((List.length l : Nat) : Int)) (onV_yes Hv.out))
  obtain ⟨x, hx0⟩ : ∃ x, x = valN xs 7 := ⟨_, rfl⟩
  rw [← hx0] at hbd c0 ⊢
  clear hx0
  go_enter Tryz.func97, Tryz.ntmps97
  go_wp2_with fail
  refine c0.mono ?_
  rintro e w1 ⟨rfl, hb1⟩
  have hp1 := hp.later hb1
  go_wp2_with fail
  refine (itoaI_any x hbd _ hp1).mono ?_
  rintro e w2 ⟨rfl, hb2⟩
  go_wp2
  go_ret
  exact ⟨rfl, hb1.trans (hb2.mono hb1.size)⟩

set_option maxHeartbeats 1000000 in
theorem dec8_any (b : Nat) (c : Nat) (ao : Option Addr) (n cap : Nat) (xs : List Int) (w : World) (h : Sl w ao n cap xs) (Hv : Hid (Valid xs)) (hb : FnAt w b (.func (.func 121) #[] #[.pointer (some ⟨c, 0, none⟩)])) (hx : BoxAt w c 95 92) (hp : Pow w) :
    Calls Tryz.prog 97 #[.slice ao n cap, .pointer (some ⟨b, 0, none⟩)] w (Says w (.string (BA (Lib.itoa (valN xs 8))))) := by
  have hc := hb.cell
  have hbd := valN_bd (k := 8) Hv.out (by decide)
  have c0 : Calls Tryz.prog 121 #[.slice ao n cap, .pointer (some ⟨c, 0, none⟩)] w (Says w (.int .i64 (valN xs 8))) := says_to (sz8_any c _ _ _ xs _ h hx) (congrArg (fun l => ((List.length l : Nat) : Int)) (onVL_yes Hv.out))
  obtain ⟨x, hx0⟩ : ∃ x, x = valN xs 8 := ⟨_, rfl⟩
  rw [← hx0] at hbd c0 ⊢
  clear hx0
  go_enter Tryz.func97, Tryz.ntmps97
  go_wp2_with fail
  refine c0.mono ?_
  rintro e w1 ⟨rfl, hb1⟩
  have hp1 := hp.later hb1
  go_wp2_with fail
  refine (itoaI_any x hbd _ hp1).mono ?_
  rintro e w2 ⟨rfl, hb2⟩
  go_wp2
  go_ret
  exact ⟨rfl, hb1.trans (hb2.mono hb1.size)⟩

set_option maxHeartbeats 1000000 in
theorem dec9_any (b : Nat) (ao : Option Addr) (n cap : Nat) (xs : List Int) (w : World) (h : Sl w ao n cap xs) (Hv : Hid (SV xs)) (hb : FnAt w b (.func (.func 75) #[] #[])) (hp : Pow w) :
    Calls Tryz.prog 97 #[.slice ao n cap, .pointer (some ⟨b, 0, none⟩)] w (Says w (.string (BA (Lib.itoa (lenS xs))))) := by
  have hc := hb.cell
  have hbd := (sv_nums Hv.out).1
  have c0 : Calls Tryz.prog 75 #[.slice ao n cap] w (Says w (.int .i64 (lenS xs))) := says_to (lenI_any _ _ _ xs _ h (hid Hv.out.r64)) (onSi_yes Hv.out)
  obtain ⟨x, hx0⟩ : ∃ x, x = lenS xs := ⟨_, rfl⟩
  rw [← hx0] at hbd c0 ⊢
  clear hx0
  go_enter Tryz.func97, Tryz.ntmps97
  go_wp2_with fail
  refine c0.mono ?_
  rintro e w1 ⟨rfl, hb1⟩
  have hp1 := hp.later hb1
  go_wp2_with fail
  refine (itoaI_any x hbd _ hp1).mono ?_
  rintro e w2 ⟨rfl, hb2⟩
  go_wp2
  go_ret
  exact ⟨rfl, hb1.trans (hb2.mono hb1.size)⟩

set_option maxHeartbeats 1000000 in
theorem dec10_any (b : Nat) (ao : Option Addr) (n cap : Nat) (xs : List Int) (w : World) (h : Sl w ao n cap xs) (Hv : Hid (SV xs)) (hb : FnAt w b (.func (.func 76) #[] #[])) (hp : Pow w) :
    Calls Tryz.prog 97 #[.slice ao n cap, .pointer (some ⟨b, 0, none⟩)] w (Says w (.string (BA (Lib.itoa (flagS xs))))) := by
  have hc := hb.cell
  have hbd := (sv_nums Hv.out).2
  have c0 : Calls Tryz.prog 76 #[.slice ao n cap] w (Says w (.int .i64 (flagS xs))) := says_to (flagI_any _ _ _ xs _ h (hid Hv.out.r64)) (onSi_yes Hv.out)
  obtain ⟨x, hx0⟩ : ∃ x, x = flagS xs := ⟨_, rfl⟩
  rw [← hx0] at hbd c0 ⊢
  clear hx0
  go_enter Tryz.func97, Tryz.ntmps97
  go_wp2_with fail
  refine c0.mono ?_
  rintro e w1 ⟨rfl, hb1⟩
  have hp1 := hp.later hb1
  go_wp2_with fail
  refine (itoaI_any x hbd _ hp1).mono ?_
  rintro e w2 ⟨rfl, hb2⟩
  go_wp2
  go_ret
  exact ⟨rfl, hb1.trans (hb2.mono hb1.size)⟩

set_option maxHeartbeats 1000000 in
theorem mapT0_any (ao : Option Addr) (n cap : Nat) (xs : List Int) (w : World) (h : Sl w ao n cap xs) (Hv : Hid (Valid xs)) :
    Calls Tryz.prog 69 #[.slice ao n cap] w (Says w (.string (strOfNums (dgs (foat xs))))) := by
  have c0 := made_to (foatI_any ao n cap xs w h) (onV_yes Hv.out)
  have et : Hid (txt (foat xs) = strOfNums (dgs (foat xs))) := hid (if_pos (foat_valid Hv.out))
  go_enter Tryz.func69, Tryz.ntmps69
  go_wp2_with fail
  refine c0.mono ?_
  rintro e w1 ⟨u1, rfl, ho1, hb1⟩
  obtain ⟨a1, c1, rfl, s1⟩ := ho1.sl
  clear ho1
  obtain ⟨m, hm⟩ : ∃ m, m = (foat xs).length := ⟨_, rfl⟩
  rw [← hm] at s1 ⊢
  clear hm
  go_wp2_with fail
  refine (says_tos (textI_any _ _ _ _ _ s1) et.out).mono ?_
  rintro e w2 ⟨rfl, hb2⟩
  go_wp2
  go_ret
  exact ⟨rfl, hb1.trans (hb2.mono hb1.size)⟩

set_option maxHeartbeats 1000000 in
theorem mapT1_any (ao : Option Addr) (n cap : Nat) (xs : List Int) (w : World) (h : Sl w ao n cap xs) (Hv : Hid (Valid xs)) :
    Calls Tryz.prog 72 #[.slice ao n cap] w (Says w (.string (strOfNums (dgs (toL xs))))) := by
  have c0 := made_to (toLI_any ao n cap xs w h) (onV_yes Hv.out)
  have et : Hid (txt (toL xs) = strOfNums (dgs (toL xs))) := hid (if_pos ((lb_facts Hv.out).1))
  go_enter Tryz.func72, Tryz.ntmps72
  go_wp2_with fail
  refine c0.mono ?_
  rintro e w1 ⟨u1, rfl, ho1, hb1⟩
  obtain ⟨a1, c1, rfl, s1⟩ := ho1.sl
  clear ho1
  obtain ⟨m, hm⟩ : ∃ m, m = (toL xs).length := ⟨_, rfl⟩
  rw [← hm] at s1 ⊢
  clear hm
  go_wp2_with fail
  refine (says_tos (textI_any _ _ _ _ _ s1) et.out).mono ?_
  rintro e w2 ⟨rfl, hb2⟩
  go_wp2
  go_ret
  exact ⟨rfl, hb1.trans (hb2.mono hb1.size)⟩

/-- The first k numbers as texts. -/
def itL (ts : List Int) (k : Nat) : List ByteArray := (ts.take k).map fun x => BA (Lib.itoa x)
theorem itL_len {ts : List Int} {k : Nat} (h : k ≤ ts.length) : (itL ts k).length = k := by rw [itL, List.length_map, List.length_take]; omega
theorem itL_succ {ts : List Int} {k : Nat} (h : k < ts.length) : itL ts k ++ [BA (Lib.itoa (el ts k))] = itL ts (k + 1) := by
  rw [itL, itL, List.take_add_one, List.getElem?_eq_getElem h, el_lt h, List.map_append]; rfl
theorem itL_join (ts : List Int) : Lib.join ((itL ts ts.length).map (·.data.toList)) [44] = lsL ts := by
  rw [itL, List.take_length, lsL, List.map_map]
  congr 1

set_option maxHeartbeats 2000000 in
theorem tabT_any (ao : Option Addr) (n cap : Nat) (xs : List Int) (w : World) (h : Sl w ao n cap xs) (Hv : Hid (Valid xs)) (hp : Pow w) :
    Calls Tryz.prog 68 #[.slice ao n cap] w (Says w (.string (BA (lsL (table xs))))) := by
  have hlen := h.len
  have h7 : n ≤ 7 := by have := Hv.out.len; omega
  have Hb := hid (table_100 Hv.out)
  have htl : (table xs).length = n := by rw [table_len, hlen]
  obtain ⟨ts, hts⟩ : ∃ ts, ts = table xs := ⟨_, rfl⟩
  have hbl := (Below.refl w.heap.size w).alloc (Nat.le_refl _) (.cells #[] 9)
  have c0 := fun w h => made_to (tableI_any ao n cap xs w h) (onV_yes Hv.out)
  rw [← hts] at Hb htl c0 ⊢
  have Htl := hid htl
  have hpl : 3 < w.heap.size := hp.lt
  clear hts htl hlen
  go_enter Tryz.func68, Tryz.ntmps68
  go_wp2_with fail
  refine (c0 _ (h.later hbl)).mono ?_
  rintro e w1 ⟨u1, rfl, ho1, hb1⟩
  obtain ⟨a1, c1, rfl, s1⟩ := ho1.sl
  rw [Htl.out] at s1 ⊢
  rw [Htl.out] at ho1
  have hb01 := hbl.trans (hb1.mono hbl.size)
  have own0 : OwnT w1 w.heap.size (.slice (some ⟨w.heap.size, 0, none⟩) 0 0) [] := (ownT_lit w).below (Nat.le_refl _) hb1
  have ho1' : Own w1 w.heap.size (.slice a1 n c1) ts := ho1.mono hbl.size
  have hap : Apart (.slice (some ⟨w.heap.size, 0, none⟩) 0 0) (.slice a1 n c1) := by
    refine Or.inr fun e => ?_
    have := (ho1.blocks w.heap.size e.symm).1
    rw [World.size_alloc] at this
    exact absurd this (Nat.not_succ_le_self _)
  clear ho1 hb1 hbl
  go_wp2
  go_loopw [10, 3] (fun i v wr => ∃ (k : Nat) (ao' : Option Addr) (cap' : Nat), k ≤ n ∧ i = .int .i64 k ∧ v = .slice ao' k cap' ∧ Below w.heap.size w wr ∧ OwnT wr w.heap.size (.slice ao' k cap') (itL ts k) ∧ Own wr w.heap.size (.slice a1 n c1) ts ∧ Apart (.slice ao' k cap') (.slice a1 n c1))
    (fun i _ _ => n - (intOf i).toNat)
  case atStart => exact ⟨0, _, _, Nat.zero_le _, rfl, rfl, hb01, own0, ho1', hap⟩
  case round =>
    obtain ⟨k, ao', cap', hk, rfl, rfl, hbr, ho, hot, hap⟩ := hrel
    have hsz := hbr.size
    have hpr := hp.below hbr hpl
    by_cases hlt : k < n
    · have hki : (k : Int) < n := by omega
      have hst := hot.read
      have hcap := hst.le
      have hcap2 := hst.max
      unfold maxLen at hcap2
      have hkc : k ≤ c1 := by omega
      obtain ⟨b, off, rfl, hblt, hc⟩ := hst.row (by omega)
      have hcell := hc k hlt
      have hkx : k < ts.length := by rw [Htl.out]; exact hlt
      have hbd := Hb.out k hkx
      have Het : Hid (itL ts k ++ [BA (Lib.itoa (el ts k))] = itL ts (k + 1)) := hid (itL_succ hkx)
      obtain ⟨x, hx⟩ : ∃ x, x = el ts k := ⟨_, rfl⟩
      rw [← hx] at hcell hbd Het
      clear hx hc
      go_wp2_with fail
      refine (itoaI_any x hbd _ hpr).mono ?_
      rintro e w2 ⟨rfl, hb2⟩
      have ho2 := ho.below (Nat.le_refl _) hb2
      have hot2 := hot.below (Nat.le_refl _) hb2
      have hbr2 := hbr.trans (hb2.mono hbr.size)
      have hsz2 := hbr2.size
      have hl : (itL ts k).length ≤ 2000000 := by rw [itL_len (by rw [Htl.out]; omega)]; omega
      obtain ⟨sx, hsx⟩ : ∃ sx, sx = BA (Lib.itoa x) := ⟨_, rfl⟩
      rw [← hsx]
      have Hsx := hid hsx
      clear hsx hcell
      go_wp2_with (at_builtin; refine app_str2 _ sx rfl _ _ rfl w.heap.size _ _ rfl ho2 rfl hl hsz2 ?_)
      intro u' w' ho' hg' hk'
      have hb' := below_appT hbr2 ho2 hg'
      have hot' := hot2.kept hg' hap.symm
      have hap' := hap.app hot2 hk'
      rw [Hsx.out, Het.out] at ho'
      have hl' : (itL ts (k + 1)).length = k + 1 := itL_len (by rw [Htl.out]; omega)
      obtain ⟨a', c', rfl, hs'⟩ := ho'.sl
      rw [hl'] at ho' hap' ⊢
      clear hs' hl' ho ho2 hot hot2 hl
      go_wp2
      go_roundw
      case rel => exact ⟨k + 1, _, _, by omega, by go_num, rfl, hb', ho', hot', hap'⟩
      case measure => simp [intOf]; omega
    · obtain rfl : k = n := by omega
      have hll : (itL ts k).length = k := itL_len (by rw [Htl.out]; omega)
      have Hll := hid hll
      have hjn := itL_join ts
      rw [Htl.out] at hjn
      have Hjn := hid hjn
      clear hll hjn
      go_wp2_with fail
      rcases ho.place with ⟨e0, e1⟩ | ⟨g, cp, e0, ho1⟩
      · simp only [Value.slice.injEq] at e0
        obtain ⟨rfl, rfl, rfl⟩ := e0
        have Hn : Hid (ts = []) := hid (List.eq_nil_of_length_eq_zero Htl.out)
        refine (Tryz.strings_Join_none none 0 ⟨#[44]⟩ _).mono ?_
        rintro e w3 ⟨rfl, rfl⟩
        go_wp2
        go_ret
        exact says_str (by rw [Hn.out]; rfl) hbr
      · simp only [Value.slice.injEq] at e0
        obtain ⟨rfl, -, rfl⟩ := e0
        have hj := Tryz.strings_Join g 0 cap' (itL ts k) ⟨#[44]⟩ wr (fun j x hj => by
            have hjl : j < (itL ts k).length := (List.getElem?_eq_some_iff.1 hj).1
            have := ho1.cell hjl
            rw [Nat.zero_add, this, elt_lt hjl]
            rw [List.getElem?_eq_getElem hjl] at hj
            rw [Option.some.inj hj]) ho1.lt.2 (Nat.le_trans (Nat.le_of_eq Hll.out) (by omega)) ho1.sl.le (by
            show (Lib.join _ [44]).length ≤ _
            rw [Hjn.out]
            have h1 := lsP_eq ts ts.length (Nat.le_refl _)
            rw [List.take_length] at h1
            rw [← h1]
            have h2 := lsP_len ts Hb.out ts.length (Nat.le_refl _)
            rw [Htl.out] at h2
            rw [Htl.out]
            omega)
        rw [Hll.out] at hj
        obtain ⟨J, hJ⟩ : ∃ J : ByteArray, J = ⟨(Lib.join ((itL ts k).map (·.data.toList)) (⟨#[44]⟩ : ByteArray).data.toList).toArray⟩ := ⟨_, rfl⟩
        rw [← hJ] at hj
        have HJ : Hid (J = BA (lsL ts)) := hid (by rw [hJ, ← Hjn.out]; rfl)
        clear hJ
        refine hj.mono ?_
        rintro e w3 ⟨rfl, hb3⟩
        have hb03 := hbr.trans (hb3.mono hbr.size)
        go_wp2
        go_ret
        exact says_str HJ.out hb03

end Go.Proofs.YtaceiebmgnhdgaaGreatDoor
