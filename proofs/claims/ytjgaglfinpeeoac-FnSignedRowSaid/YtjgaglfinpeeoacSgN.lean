/- The names of what is counted in signed orders, the numbers, and the counters. Condition: the list's cells can be read. -/
import Derived.Test.YtjgaglfinpeeoacBnd
import Derived.Test.YtjgaglfinpeeoacSgnD
import Derived.Test.YtjgaglfinpeeoacAsh
import Derived.Laws.StructEq
import Derived.Laws.Alloc2
import Derived.Laws.Rows
import Derived.Laws.EntriesVeiled
namespace Go.Proofs.Ytjgaglfinpeeoac
open Go.RowKit

def gm_length : ByteArray := ⟨#[108, 101, 110, 103, 116, 104]⟩
def gm_flag : ByteArray := ⟨#[102, 108, 97, 103]⟩
def gm_falls : ByteArray := ⟨#[102, 97, 108, 108, 115]⟩
def gm_negatives : ByteArray := ⟨#[110, 101, 103, 97, 116, 105, 118, 101, 115]⟩
def gmL : List (List UInt8) := [gm_length.data.toList, gm_flag.data.toList, gm_falls.data.toList, gm_negatives.data.toList]
/-- A name's place among them; 4 for other names. -/
def ixG (s : ByteArray) : Nat := gmL.idxOf s.data.toList
theorem bytes_of_list {s t : ByteArray} (h : s.data.toList = t.data.toList) : s = t := by
  cases s; cases t; congr; exact Array.toList_inj.1 h

theorem ixg_get {s : ByteArray} {k : Nat} (h : ixG s = k) (hk : k < gmL.length) : gmL[k] = s.data.toList := by
  subst h
  exact List.getElem_idxOf hk

theorem ixg_length {s : ByteArray} (h : ixG s = 0) : s = gm_length := bytes_of_list (ixg_get h (by decide)).symm
theorem eqg_length (s : ByteArray) : (s == ⟨#[108, 101, 110, 103, 116, 104]⟩) = decide (ixG s = 0) := by
  by_cases h : ixG s = 0
  · rw [decide_eq_true h, MapKept.bytes_beq]; exact ixg_length h
  · rw [decide_eq_false h, Bool.eq_false_iff]
    intro e
    exact h (by rw [(MapKept.bytes_beq _ _).1 e]; decide)
theorem eqlg_length (s : ByteArray) : (s.toList == [108, 101, 110, 103, 116, 104]) = decide (ixG s = 0) := by
  have h := eqg_length s
  rw [beq_toListBytes, show ByteArray.toList ⟨#[108, 101, 110, 103, 116, 104]⟩ = [108, 101, 110, 103, 116, 104] by kernel_rfl] at h
  exact h

theorem ixg_flag {s : ByteArray} (h : ixG s = 1) : s = gm_flag := bytes_of_list (ixg_get h (by decide)).symm
theorem eqg_flag (s : ByteArray) : (s == ⟨#[102, 108, 97, 103]⟩) = decide (ixG s = 1) := by
  by_cases h : ixG s = 1
  · rw [decide_eq_true h, MapKept.bytes_beq]; exact ixg_flag h
  · rw [decide_eq_false h, Bool.eq_false_iff]
    intro e
    exact h (by rw [(MapKept.bytes_beq _ _).1 e]; decide)
theorem eqlg_flag (s : ByteArray) : (s.toList == [102, 108, 97, 103]) = decide (ixG s = 1) := by
  have h := eqg_flag s
  rw [beq_toListBytes, show ByteArray.toList ⟨#[102, 108, 97, 103]⟩ = [102, 108, 97, 103] by kernel_rfl] at h
  exact h

theorem ixg_falls {s : ByteArray} (h : ixG s = 2) : s = gm_falls := bytes_of_list (ixg_get h (by decide)).symm
theorem eqg_falls (s : ByteArray) : (s == ⟨#[102, 97, 108, 108, 115]⟩) = decide (ixG s = 2) := by
  by_cases h : ixG s = 2
  · rw [decide_eq_true h, MapKept.bytes_beq]; exact ixg_falls h
  · rw [decide_eq_false h, Bool.eq_false_iff]
    intro e
    exact h (by rw [(MapKept.bytes_beq _ _).1 e]; decide)
theorem eqlg_falls (s : ByteArray) : (s.toList == [102, 97, 108, 108, 115]) = decide (ixG s = 2) := by
  have h := eqg_falls s
  rw [beq_toListBytes, show ByteArray.toList ⟨#[102, 97, 108, 108, 115]⟩ = [102, 97, 108, 108, 115] by kernel_rfl] at h
  exact h

theorem ixg_negatives {s : ByteArray} (h : ixG s = 3) : s = gm_negatives := bytes_of_list (ixg_get h (by decide)).symm
theorem eqg_negatives (s : ByteArray) : (s == ⟨#[110, 101, 103, 97, 116, 105, 118, 101, 115]⟩) = decide (ixG s = 3) := by
  by_cases h : ixG s = 3
  · rw [decide_eq_true h, MapKept.bytes_beq]; exact ixg_negatives h
  · rw [decide_eq_false h, Bool.eq_false_iff]
    intro e
    exact h (by rw [(MapKept.bytes_beq _ _).1 e]; decide)
theorem eqlg_negatives (s : ByteArray) : (s.toList == [110, 101, 103, 97, 116, 105, 118, 101, 115]) = decide (ixG s = 3) := by
  have h := eqg_negatives s
  rw [beq_toListBytes, show ByteArray.toList ⟨#[110, 101, 103, 97, 116, 105, 118, 101, 115]⟩ = [110, 101, 103, 97, 116, 105, 118, 101, 115] by kernel_rfl] at h
  exact h

/-- What is counted, by its place. -/
def valG (xs : List Int) : Nat → Int
  | 0 => lenS xs
  | 1 => flagS xs
  | 2 => fallS xs
  | 3 => ngN xs
  | _ => 0
def numG (k n : Nat) : List Int := (allG n).map fun xs => valG xs k
theorem numG_len (k n : Nat) : (numG k n).length = facN n * 2 ^ n := by simp [numG, allG_len]
theorem take_numG {k n j : Nat} (h : j < (allG n).length) : (numG k n).take (j + 1) = (numG k n).take j ++ [valG (ell (allG n) j) k] := by
  rw [List.take_succ_eq_append_getElem (by rw [numG_len, ← allG_len]; exact h)]
  congr 1
  simp only [numG, List.getElem_map]
  rw [ell_lt h]
theorem el_numG {k n j : Nat} (h : j < (allG n).length) : el (numG k n) j = valG (ell (allG n) j) k := by
  rw [el_lt (by rw [numG_len, ← allG_len]; exact h), ell_lt h]
  simp [numG]
theorem numG_bd_all : (List.range 4).all (fun k => (List.range 4).all fun n => (numG k n).all fun x => decide (0 ≤ x ∧ x ≤ 100)) = true := by decide +kernel
theorem numG_bd {k n : Nat} (hk : k < 4) (hn : n ≤ 3) : ∀ j, 0 ≤ el (numG k n) j ∧ el (numG k n) j ≤ 100 := by
  intro j
  by_cases hj : j < (numG k n).length
  · have h1 := List.all_eq_true.1 numG_bd_all k (by simpa using hk)
    have h2 := List.all_eq_true.1 h1 n (by simp; omega)
    have h3 := List.all_eq_true.1 h2 _ (el_mem hj)
    simpa using h3
  · rw [el_over (by omega)]; omega
theorem allG_sv_all : ∀ n : Nat, n < 4 → (allG n).all (fun xs => decide (SV xs)) = true := by decide +kernel
theorem allG_sv {n k : Nat} (hn : n ≤ 3) (hk : k < (allG n).length) : SV (ell (allG n) k) := by
  have h := List.all_eq_true.1 (allG_sv_all n (by omega)) _ (by rw [ell_lt hk]; exact List.getElem_mem hk : ell (allG n) k ∈ allG n)
  simpa using h
theorem sv_nil : SV [] := by decide
def Countg (w : World) (v : Int) (b : Bool) (e : Ending) (w' : World) : Prop := e = .returned (.tuple #[.int .i64 v, .bool b]) ∧ Below w.heap.size w w'

set_option maxHeartbeats 2000000 in
theorem countG_any (s : ByteArray) (ao : Option Addr) (n cap : Nat) (xs : List Int) (w : World) (h : Sl w ao n cap xs) (hv : Hid (SV xs)) :
    Calls Try.prog 48 #[.string s, .slice ao n cap] w (Countg w (valG xs (ixG s)) (decide (ixG s < 4))) := by
  obtain ⟨k, hk⟩ : ∃ k, k = ixG s := ⟨_, rfl⟩
  have e0 := eqlg_length s
  have e1 := eqlg_flag s
  have e2 := eqlg_falls s
  have e3 := eqlg_negatives s
  rw [← hk] at e0 e1 e2 e3 ⊢
  clear hk
  have hc : k = 0 ∨ k = 1 ∨ k = 2 ∨ k = 3 ∨ 4 ≤ k := by omega
  rcases hc with rfl | rfl | rfl | rfl | h4
  · replace e0 : (s.toList == [108, 101, 110, 103, 116, 104]) = true := e0.trans (decide_eq_true rfl)
    replace e1 : (s.toList == [102, 108, 97, 103]) = false := e1.trans (decide_eq_false (by omega))
    replace e2 : (s.toList == [102, 97, 108, 108, 115]) = false := e2.trans (decide_eq_false (by omega))
    replace e3 : (s.toList == [110, 101, 103, 97, 116, 105, 118, 101, 115]) = false := e3.trans (decide_eq_false (by omega))
    go_enter Try.func48, Try.ntmps48
    go_wp2_with fail
    refine (lenS0_any _ _ _ xs _ h hv).mono ?_
    rintro e w' ⟨rfl, bl⟩
    go_wp2
    go_ret2
    exact ⟨rfl, bl⟩
  · replace e0 : (s.toList == [108, 101, 110, 103, 116, 104]) = false := e0.trans (decide_eq_false (by omega))
    replace e1 : (s.toList == [102, 108, 97, 103]) = true := e1.trans (decide_eq_true rfl)
    replace e2 : (s.toList == [102, 97, 108, 108, 115]) = false := e2.trans (decide_eq_false (by omega))
    replace e3 : (s.toList == [110, 101, 103, 97, 116, 105, 118, 101, 115]) = false := e3.trans (decide_eq_false (by omega))
    go_enter Try.func48, Try.ntmps48
    go_wp2_with fail
    refine (flagS0_any _ _ _ xs _ h hv).mono ?_
    rintro e w' ⟨rfl, bl⟩
    go_wp2
    go_ret2
    exact ⟨rfl, bl⟩
  · replace e0 : (s.toList == [108, 101, 110, 103, 116, 104]) = false := e0.trans (decide_eq_false (by omega))
    replace e1 : (s.toList == [102, 108, 97, 103]) = false := e1.trans (decide_eq_false (by omega))
    replace e2 : (s.toList == [102, 97, 108, 108, 115]) = true := e2.trans (decide_eq_true rfl)
    replace e3 : (s.toList == [110, 101, 103, 97, 116, 105, 118, 101, 115]) = false := e3.trans (decide_eq_false (by omega))
    go_enter Try.func48, Try.ntmps48
    go_wp2_with fail
    refine (fallS0_any _ _ _ xs _ h hv).mono ?_
    rintro e w' ⟨rfl, bl⟩
    go_wp2
    go_ret2
    exact ⟨rfl, bl⟩
  · replace e0 : (s.toList == [108, 101, 110, 103, 116, 104]) = false := e0.trans (decide_eq_false (by omega))
    replace e1 : (s.toList == [102, 108, 97, 103]) = false := e1.trans (decide_eq_false (by omega))
    replace e2 : (s.toList == [102, 97, 108, 108, 115]) = false := e2.trans (decide_eq_false (by omega))
    replace e3 : (s.toList == [110, 101, 103, 97, 116, 105, 118, 101, 115]) = true := e3.trans (decide_eq_true rfl)
    go_enter Try.func48, Try.ntmps48
    go_wp2_with fail
    refine (negS0_any _ _ _ xs _ h hv).mono ?_
    rintro e w' ⟨rfl, bl⟩
    go_wp2
    go_ret2
    exact ⟨rfl, bl⟩
  · replace e0 : (s.toList == [108, 101, 110, 103, 116, 104]) = false := e0.trans (decide_eq_false (by omega))
    replace e1 : (s.toList == [102, 108, 97, 103]) = false := e1.trans (decide_eq_false (by omega))
    replace e2 : (s.toList == [102, 97, 108, 108, 115]) = false := e2.trans (decide_eq_false (by omega))
    replace e3 : (s.toList == [110, 101, 103, 97, 116, 105, 118, 101, 115]) = false := e3.trans (decide_eq_false (by omega))
    have hv0 : valG xs k = 0 := by match k, h4 with | k + 4, _ => rfl
    rw [hv0, decide_eq_false (by omega)]
    clear hv0
    go_enter Try.func48, Try.ntmps48
    go_wp2
    go_ret2
    exact ⟨rfl, Below.refl _ _⟩

/-- What the counters hold. -/
def ctrG : List (ByteArray × Value) := [(gm_length, Value.agg #[.func (.func 62) #[] #[]]), (gm_flag, Value.agg #[.func (.func 63) #[] #[]]), (gm_falls, Value.agg #[.func (.func 64) #[] #[]]), (gm_negatives, Value.agg #[.func (.func 65) #[] #[]])]
theorem ixg_no {s : ByteArray} (h : ¬ ixG s < 4) : ∀ p ∈ ctrG, p.1 ≠ s := by
  intro p hp e
  apply h
  rw [← e]
  simp only [ctrG, List.mem_cons, List.not_mem_nil, or_false] at hp
  rcases hp with rfl | rfl | rfl | rfl <;> (dsimp only; decide)
theorem gm_new (s : ByteArray) (L : List (ByteArray × Value)) (h : (L.map (fun p => p.1.data.toList)).all (fun x => !(x == s.data.toList)) = true) : ∀ p ∈ L, p.1 ≠ s := by
  intro p hp e
  rw [List.all_eq_true] at h
  have := h p.1.data.toList (List.mem_map_of_mem (f := fun p : ByteArray × Value => p.1.data.toList) hp)
  rw [e] at this
  simp at this

set_option maxRecDepth 20000 in
set_option maxHeartbeats 4000000 in
theorem ctrG_any (w : World) :
    Calls Try.prog 46 #[] w fun e w' => ∃ b, e = .returned (.map (some b)) ∧ MapAt w' b ctrG ∧ Below w.heap.size w w' := by
  go_enter Try.func46, Try.ntmps46
  have h0 := MapAt.made w
  have hmk := run_makeMap (P := Try.prog) 60 w
  have g0 : Below w.heap.size w (w.alloc (.map #[] 0)) := (Below.refl _ _).alloc (Nat.le_refl _) _
  go_wp2_with (first
    | (refine put_law _ rfl _ _ _ 60 _ _ rfl Try.underlying60 Try.underlying9 _ _ h0 gm_length (Value.agg #[.func (.func 62) #[] #[]]) rfl rfl rfl (gm_new _ _ rfl) ?_; intro w1 h1 q1; have g1 := g0.grown q1 g0.size (by rintro _ ⟨⟩; exact Nat.le_refl _))
    | (refine put_law _ rfl _ _ _ 60 _ _ rfl Try.underlying60 Try.underlying9 _ _ h1 gm_flag (Value.agg #[.func (.func 63) #[] #[]]) rfl rfl rfl (gm_new _ _ rfl) ?_; intro w2 h2 q2; have g2 := g1.grown q2 g1.size (by rintro _ ⟨⟩; exact Nat.le_refl _))
    | (refine put_law _ rfl _ _ _ 60 _ _ rfl Try.underlying60 Try.underlying9 _ _ h2 gm_falls (Value.agg #[.func (.func 64) #[] #[]]) rfl rfl rfl (gm_new _ _ rfl) ?_; intro w3 h3 q3; have g3 := g2.grown q3 g2.size (by rintro _ ⟨⟩; exact Nat.le_refl _))
    | (refine put_law _ rfl _ _ _ 60 _ _ rfl Try.underlying60 Try.underlying9 _ _ h3 gm_negatives (Value.agg #[.func (.func 65) #[] #[]]) rfl rfl rfl (gm_new _ _ rfl) ?_; intro w4 h4 q4; have g4 := g3.grown q4 g3.size (by rintro _ ⟨⟩; exact Nat.le_refl _))
    )
  go_ret
  exact ⟨_, rfl, h4, g4⟩

end Go.Proofs.Ytjgaglfinpeeoac
