/- The numbers of a name for all orders, and how often each number stands in a list: words. No condition. -/
import Derived.Test.YtjgaglfinpeeoacCofI
import Derived.Test.YtjgaglfinpeeoacAllo
import Derived.Test.YtjgaglfinpeeoacMirRow
namespace Go.Proofs.Ytjgaglfinpeeoac
open Go.RowKit

/-- The numbers of the name k of all orders of m values. -/
def numK (k m : Nat) : List Int := (allK m).map fun xs => valN xs k
theorem numK_len (k m : Nat) : (numK k m).length = facN m := by simp [numK, allK_len]
theorem take_numK {k m j : Nat} (h : j < facN m) : (numK k m).take (j + 1) = (numK k m).take j ++ [valN (ordK m j) k] := by
  rw [List.take_succ_eq_append_getElem (by rw [numK_len]; exact h)]
  congr 1
  simp [numK, allK]
theorem chg_app {lo hi : Nat} {a b c : World} {row : Option Nat} (h : Chg lo hi a b) (g : b.grownBy c row) (hr : ∀ k, row = some k → (lo ≤ k ∧ k < hi) ∨ a.heap.size ≤ k) : Chg lo hi a c :=
  ⟨g.os.trans h.os, g.tape.trans h.tape, g.output.trans h.output, Nat.le_trans h.size g.size, fun i hi' hr' => (g.block i (Nat.lt_of_lt_of_le hi' h.size) (fun e => by have := hr i e.symm; omega)).trans (h.block i hi' hr')⟩
theorem ownL_read {w : World} {B C : Nat} {ao : Option Addr} {n cap : Nat} {yss : List (List Int)} (h : OwnL w B C (.slice ao n cap) yss) : SlL w ao n cap yss := by
  obtain ⟨a, c, e, hs⟩ := h.sl
  simp only [Value.slice.injEq] at e
  obtain ⟨rfl, rfl, rfl⟩ := e
  exact hs
theorem BoxAt.keepc {w w' : World} {b g T lo hi : Nat} (h : BoxAt w b g T) (c : Chg lo hi w w') (hb : b < lo) : BoxAt w' b g T := (c.block b (Array.getElem?_eq_some_iff.1 h).1 (Or.inl hb)).trans h
theorem ell_allK {m j : Nat} (h : j < facN m) : ell (allK m) j = ordK m j := by rw [ell_lt (by rw [allK_len]; exact h)]; simp [allK]

/-- How often each number below L stands in a list. -/
def cntL (L : Nat) (l : List Int) : List Int := (List.range L).map fun v : Nat => ((l.count (v : Int) : Nat) : Int)
theorem cntL_len (L : Nat) (l : List Int) : (cntL L l).length = L := by simp [cntL]
theorem el_cntL {L : Nat} {l : List Int} {v : Nat} (h : v < L) : el (cntL L l) v = ((l.count (v : Int) : Nat) : Int) := by
  rw [el_lt (by rw [cntL_len]; exact h)]; simp [cntL]
theorem cntL_nil (L : Nat) : cntL L [] = List.replicate L 0 := by
  refine List.ext_getElem (by simp [cntL]) fun j h1 h2 => ?_
  simp [cntL]
theorem cntL_bump {L : Nat} {l : List Int} {v : Nat} (_ : v < L) : (cntL L l).set v (((l.count (v : Int) : Nat) : Int) + 1) = cntL L (l ++ [(v : Int)]) := by
  refine List.ext_getElem (by simp [cntL]) fun j h1 h2 => ?_
  rw [List.getElem_set]
  split
  · rename_i e
    subst e
    simp [cntL, List.count_append]
  · rename_i e
    have : ¬ ((v : Int) = (j : Int)) := by omega
    simp [cntL, List.count_append, List.count_cons, this]
theorem cntL_grow {L : Nat} {l : List Int} (h : ∀ x ∈ l, x < (L : Int)) : cntL L l ++ [0] = cntL (L + 1) l := by
  have : l.count (L : Int) = 0 := List.count_eq_zero.2 (fun hm => by have := h _ hm; omega)
  simp [cntL, List.range_succ, this]
/-- One more than the greatest of the first k numbers. -/
def mxK (l : List Int) : Nat → Nat
  | 0 => 0
  | k + 1 => max (mxK l k) ((el l k).toNat + 1)
theorem mxK_le {l : List Int} (h : ∀ j, 0 ≤ el l j ∧ el l j ≤ 100) : ∀ k, mxK l k ≤ 101 := by
  intro k
  induction k with
  | zero => simp [mxK]
  | succ k ih => have := h k; rw [mxK]; omega
theorem mxK_gt {l : List Int} : ∀ k j, j < k → (el l j).toNat < mxK l k := by
  intro k
  induction k with
  | zero => intro j hj; omega
  | succ k ih =>
    intro j hj
    rw [mxK]
    by_cases e : j = k
    · subst e; omega
    · have := ih j (by omega); omega
theorem mxK_mem {l : List Int} (h : ∀ j, 0 ≤ el l j ∧ el l j ≤ 100) (k : Nat) : ∀ x ∈ l.take k, x < ((mxK l k : Nat) : Int) := by
  intro x hx
  obtain ⟨j, hj, e⟩ := List.mem_iff_getElem.1 hx
  rw [List.length_take] at hj
  rw [List.getElem_take] at e
  have h1 := mxK_gt (l := l) k j (by omega)
  have h2 := h j
  rw [el_lt (by omega), e] at h1 h2
  omega
/-- The greatest of the first k + 1 numbers. -/
def mxJ (zs : List Int) : Nat → Int
  | 0 => el zs 0
  | k + 1 => if mxJ zs k < el zs (k + 1) then el zs (k + 1) else mxJ zs k
theorem mxJ_mxK {l : List Int} (h : ∀ j, 0 ≤ el l j ∧ el l j ≤ 100) : ∀ k, mxJ l k + 1 = ((mxK l (k + 1) : Nat) : Int) := by
  intro k
  induction k with
  | zero => have := h 0; simp only [mxJ, mxK]; omega
  | succ k ih => have := h (k + 1); rw [mxJ, mxK]; split <;> omega
/-- How often each number stands in a list, up to the greatest one. -/
def tal (l : List Int) : List Int := cntL (mxK l l.length) l
theorem tal_len (l : List Int) : (tal l).length = mxK l l.length := cntL_len _ _
theorem numK_bd_all : (List.range 9).all (fun k => (List.range 6).all fun m => (numK k m).all fun x => decide (0 ≤ x ∧ x ≤ 100)) = true := by decide +kernel
theorem numK_bd {k m : Nat} (h9 : k < 9) (hm : m ≤ 5) : ∀ j, 0 ≤ el (numK k m) j ∧ el (numK k m) j ≤ 100 := by
  intro j
  have h := List.all_eq_true.1 (List.all_eq_true.1 numK_bd_all k (List.mem_range.2 h9)) m (List.mem_range.2 (by omega))
  by_cases hj : j < (numK k m).length
  · exact of_decide_eq_true (List.all_eq_true.1 h _ (el_mem hj))
  · have : el (numK k m) j = 0 := by simp [el, List.getD, List.getElem?_eq_none (Nat.not_lt.1 hj)]
    omega

end Go.Proofs.Ytjgaglfinpeeoac
