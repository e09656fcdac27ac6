/- What the desk answers: by the word's place and the text behind it; bounds of what is answered. No condition. -/
import Derived.Test.YtaceiebmgnhdgaaGreatDoorMirY
import Derived.Test.YtaceiebmgnhdgaaGreatDoorCof
import Derived.Test.YtaceiebmgnhdgaaGreatDoorText
import Derived.Test.YtaceiebmgnhdgaaGreatDoorParse
import Derived.Test.YtaceiebmgnhdgaaGreatDoorBnd
import Derived.Test.YtaceiebmgnhdgaaGreatDoorMirL
namespace Go.Proofs.YtaceiebmgnhdgaaGreatDoor
open Go.RowKit

/-- The other words. -/
def wM : List (List UInt8) := [[116, 97, 98, 108, 101], [102, 111, 97, 116, 97], [108, 105, 110, 101], [108, 101, 110, 103, 116, 104], [102, 108, 97, 103]]
def wIx (s : ByteArray) : Nat := wM.idxOf s.data.toList
def bWrong : ByteArray := ⟨#[119, 114, 111, 110, 103]⟩
def bWhat : ByteArray := ⟨#[119, 104, 97, 116]⟩
/-- The answer to a word with a text behind it. -/
def ansKM (k m : Nat) (xs : List Int) : ByteArray :=
  if k < 9 then (if Valid xs then BA (Lib.itoa (valN xs k)) else bWrong)
  else if m = 0 then (if Valid xs then BA (lsL (table xs)) else bWrong)
  else if m = 1 then (if Valid xs then strOfNums (dgs (foat xs)) else bWrong)
  else if m = 2 then (if Valid xs then strOfNums (dgs (toL xs)) else bWrong)
  else if m = 3 then (if okX xs = true then BA (Lib.itoa (lenS (outX xs))) else bWrong)
  else if m = 4 then (if okX xs = true then BA (Lib.itoa (flagS (outX xs))) else bWrong)
  else bWhat
/-- The answer to a line. -/
def ansP (L : List ByteArray) : ByteArray := match L with
  | [a, t] => ansKM (ixOf a) (wIx a) (prs t)
  | _ => bWhat
def ansL (s : ByteArray) : ByteArray := ansP ((sp s.data.toList).map BA)
/-- All answers, each with a newline behind it. -/
def dskL (ss : List ByteArray) : List UInt8 := ss.flatMap fun s => (ansL s).data.toList ++ [10]
def dsk (ss : List ByteArray) : ByteArray := if ss.length ≤ 20 then BA (dskL ss) else ⟨#[]⟩

theorem wix_get {s : ByteArray} {k : Nat} (h : wIx s = k) (hk : k < wM.length) : wM[k] = s.data.toList := by
  subst h
  exact List.getElem_idxOf hk
theorem wix_km {s : ByteArray} (h : ixOf s < 9) : wIx s = 5 := by
  have h1 := ix_get (s := s) rfl (show ixOf s < nmL.length from h)
  rw [wIx, ← h1]
  have : ∀ j : Fin 9, wM.idxOf (nmL[j]'(j.2)) = 5 := by decide
  exact this ⟨ixOf s, h⟩
theorem wix_le (s : ByteArray) : wIx s ≤ 5 := List.idxOf_le_length
theorem eql_w (s : ByteArray) (c : ByteArray) (l : List UInt8) (j : Nat) (hj : j < 5) (hc : c.data.toList = l) (hl : c.toList = l) (hw : wM[j]? = some l) (hi : wM.idxOf l = j) : (s.toList == l) = decide (wIx s = j) := by
  rw [← hl, ← beq_toListBytes]
  by_cases h : wIx s = j
  · rw [decide_eq_true h, MapKept.bytes_beq]
    refine bytes_of_list ?_
    have h1 := wix_get h (show j < wM.length from hj)
    rw [hc, ← h1]
    rw [List.getElem?_eq_getElem (show j < wM.length from hj)] at hw
    exact Option.some.inj hw
  · rw [decide_eq_false h, Bool.eq_false_iff]
    intro e
    refine h ?_
    rw [(MapKept.bytes_beq _ _).1 e, wIx, hc, hi]
theorem eql_table (s : ByteArray) : (s.toList == [116, 97, 98, 108, 101]) = decide (wIx s = 0) := eql_w s ⟨#[116, 97, 98, 108, 101]⟩ _ 0 (by decide) rfl (by kernel_rfl) rfl (by decide)
theorem eql_foata (s : ByteArray) : (s.toList == [102, 111, 97, 116, 97]) = decide (wIx s = 1) := eql_w s ⟨#[102, 111, 97, 116, 97]⟩ _ 1 (by decide) rfl (by kernel_rfl) rfl (by decide)
theorem eql_line (s : ByteArray) : (s.toList == [108, 105, 110, 101]) = decide (wIx s = 2) := eql_w s ⟨#[108, 105, 110, 101]⟩ _ 2 (by decide) rfl (by kernel_rfl) rfl (by decide)
theorem eql_length (s : ByteArray) : (s.toList == [108, 101, 110, 103, 116, 104]) = decide (wIx s = 3) := eql_w s ⟨#[108, 101, 110, 103, 116, 104]⟩ _ 3 (by decide) rfl (by kernel_rfl) rfl (by decide)
theorem eql_flag (s : ByteArray) : (s.toList == [102, 108, 97, 103]) = decide (wIx s = 4) := eql_w s ⟨#[102, 108, 97, 103]⟩ _ 4 (by decide) rfl (by kernel_rfl) rfl (by decide)

theorem valN_bd {xs : List Int} (h : Valid xs) {k : Nat} (hk : k < 9) : 0 ≤ valN xs k ∧ valN xs k < 100 := by
  have h7 := h.len
  have hn : (xs.length * xs.length : Nat) ≤ 49 := Nat.mul_le_mul h7 h7
  have hnI : ((xs.length : Int) * xs.length) ≤ 49 := by exact_mod_cast hn
  have hp : ∀ f, 0 ≤ pairs f xs ∧ pairs f xs ≤ 49 := fun f => by have := prP_bd f xs xs.length; unfold pairs; omega
  have hd := desc_len xs
  rcases (show k = 0 ∨ k = 1 ∨ k = 2 ∨ k = 3 ∨ k = 4 ∨ k = 5 ∨ k = 6 ∨ k = 7 ∨ k = 8 by omega) with rfl | rfl | rfl | rfl | rfl | rfl | rfl | rfl | rfl
  · have := sumL_bd (xs := table xs) (M := 7) (L := 7) (fun j hj => by have := table_bd xs j hj; omega) (by rw [table_len]; exact h7)
    show 0 ≤ sumL (table xs) ∧ sumL (table xs) < 100
    omega
  · have h1 := sumL_bd (xs := desc xs) (M := 7) (L := 7) (fun j hj => by
      have : 0 ≤ el (desc xs) j ∧ el (desc xs) j < (xs.length - 1 : Nat) := dsP_mem xs _ _ (el_mem hj)
      omega) (by omega)
    show 0 ≤ major xs ∧ major xs < 100
    unfold major
    omega
  · have h1 := hp denF
    have h2 := duP_bd xs xs.length
    show 0 ≤ den xs ∧ den xs < 100
    unfold den
    omega
  · have := hp crossF
    exact ⟨this.1, by show pairs crossF xs < 100; omega⟩
  · have := hp nestF
    exact ⟨this.1, by show pairs nestF xs < 100; omega⟩
  · show 0 ≤ ((desc xs).length : Int) ∧ ((desc xs).length : Int) < 100
    omega
  · have := above_len xs
    show 0 ≤ ((above xs).length : Int) ∧ ((above xs).length : Int) < 100
    omega
  · have := records_len xs
    show 0 ≤ ((records xs).length : Int) ∧ ((records xs).length : Int) < 100
    omega
  · have := ciP_len xs xs.length
    show 0 ≤ ((circles xs).length : Int) ∧ ((circles xs).length : Int) < 100
    unfold circles
    omega
theorem sv_nums {xs : List Int} (h : SV xs) : (0 ≤ lenS xs ∧ lenS xs < 100) ∧ (0 ≤ flagS xs ∧ flagS xs < 100) := by
  have h5 := h.len
  have h1 := sumL_bd (xs := table xs) (M := 5) (L := 5) (fun j hj => by have := table_bd xs j hj; omega) (by rw [table_len]; exact h5)
  have h2 := ngS_bd h xs.length (Nat.le_refl _)
  have hd := desc_len xs
  have h3 := sumL_bd (xs := desc xs) (M := 4) (L := 4) (fun j hj => by
    have : 0 ≤ el (desc xs) j ∧ el (desc xs) j < (xs.length - 1 : Nat) := dsP_mem xs _ _ (el_mem hj)
    omega) (by omega)
  have h4 : 0 ≤ ngN xs ∧ ngN xs ≤ xs.length := cntP_bd _ _
  unfold lenS flagS major
  omega
theorem table_100 {xs : List Int} (h : Valid xs) : ∀ j, j < (table xs).length → 0 ≤ el (table xs) j ∧ el (table xs) j < 100 := fun j hj => by
  have := table_bd xs j hj
  have := h.len
  omega
theorem valid_9 {xs : List Int} (h : Valid xs) {n : Nat} (hn : xs.length = n) : ∀ j, j < n → 0 ≤ el xs j ∧ el xs j ≤ 9 := fun j hj => by
  have h1 := h.lo j (by omega)
  have h2 := h.hi j (by omega)
  have := h.len
  omega
theorem valid_nil : Valid ([] : List Int) := by decide
theorem okX_sv {vs : List Int} (h : okX vs = true) : SV (outX vs) := (txt_read h).2

end Go.Proofs.YtaceiebmgnhdgaaGreatDoor
