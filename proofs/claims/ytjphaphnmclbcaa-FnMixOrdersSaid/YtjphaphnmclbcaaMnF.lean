/- What the kernel reckons of the rows of all contents: products with the rows of orders, both ends, sums. No condition. -/
import Derived.Test.YtjphaphnmclbcaaMnP
import Derived.Test.YtjphaphnmclbcaaFmN
namespace Go.Proofs.Ytjphaphnmclbcaa
open Go Go.RowKit

/-- A product of rows, as MultiplyRows answers. -/
def mulR (r y : List Int) : List Int := onCo r y (mul r y)
/-- The row of a content times the rows of orders of its first numbers. -/
def qrow (c : List Int) : Nat → List Int
  | 0 => mnL c
  | k + 1 => mulR (qrow c k) (prw (el c k).toNat)
def okN (a : List Nat) : Bool := decide (0 < a.length) && decide (a.length ≤ 30) && a.all (fun x => decide (x ≤ 1000000))
theorem co_toI {a : List Nat} (h : okN a = true) : Co (toI a) := by
  simp only [okN, Bool.and_eq_true, decide_eq_true_eq, List.all_eq_true] at h
  refine ⟨by rw [toI_len]; exact h.1.1, by rw [toI_len]; exact h.1.2, fun j hj => ?_⟩
  rw [toI_len] at hj
  rw [el_toI, List.getD_eq_getElem?_getD, List.getElem?_eq_getElem hj]
  have := h.2 _ (List.getElem_mem hj)
  simp only [Option.getD_some]
  omega
theorem mulR_toI {a b : List Nat} (ha : okN a = true) (hb : okN b = true) : mulR (toI a) (toI b) = toI (fmN a b) := by
  have h1 := (co_toI ha).pos
  have h2 := (co_toI hb).pos
  rw [toI_len] at h1 h2
  rw [mulR, onCo_yes ⟨co_toI ha, co_toI hb⟩, mul_toI h1 h2]
def cm (l0 l1 l2 l3 : Nat) : List Nat := fmN (fmN (fmN (fmN [1] (bt l0 l0)) (bt (l0 + l1) l1)) (bt (l0 + l1 + l2) l2)) (bt (l0 + l1 + l2 + l3) l3)
theorem binL_bt {n k : Nat} (hn : n ≤ 7) (hk : k ≤ n) : binL (n : Int) k = toI (bt n k) := by
  rw [binL, if_pos (by omega)]
  exact (bt_at hn hk).1
theorem mnL_cm {l0 l1 l2 l3 : Nat} (hv : VC [(l0 : Int), l1, l2, l3]) (h : l0 + l1 + l2 + l3 ≤ 7) : mnL [(l0 : Int), l1, l2, l3] = toI (cm l0 l1 l2 l3) := by
  have b0 := bt_at (n := l0) (k := l0) (by omega) (by omega)
  have b1 := bt_at (n := l0 + l1) (k := l1) (by omega) (by omega)
  have b2 := bt_at (n := l0 + l1 + l2) (k := l2) (by omega) (by omega)
  have b3 := bt_at (n := l0 + l1 + l2 + l3) (k := l3) (by omega) (by omega)
  have p1 : 0 < ([1] : List Nat).length := by decide
  have p2 := fmN_pos p1 b0.2
  have p3 := fmN_pos p2 b1.2
  have p4 := fmN_pos p3 b2.2
  rw [mnL, if_pos hv]
  show mul (mul (mul (mul [1] (binL l0 l0)) (binL ((l0 : Int) + l1) l1)) (binL ((l0 : Int) + l1 + l2) l2)) (binL ((l0 : Int) + l1 + l2 + l3) l3) = _
  have e1 : (l0 : Int) + l1 = ((l0 + l1 : Nat) : Int) := by omega
  have e2 : (l0 : Int) + l1 + l2 = ((l0 + l1 + l2 : Nat) : Int) := by omega
  have e3 : (l0 : Int) + l1 + l2 + l3 = ((l0 + l1 + l2 + l3 : Nat) : Int) := by omega
  rw [e3, e2, e1, binL_bt (by omega) (by omega), binL_bt (by omega) (by omega), binL_bt (by omega) (by omega), binL_bt (by omega) (by omega),
    show ([1] : List Int) = toI [1] from rfl, mul_toI p1 b0.2, mul_toI p2 b1.2, mul_toI p3 b2.2, mul_toI p4 b3.2]
  rfl
def chkN (l0 l1 l2 l3 : Nat) : Bool :=
  okN (cm l0 l1 l2 l3) && okN (pt l0) && okN (pt l1) && okN (pt l2) && okN (pt l3) && okN (fmN (cm l0 l1 l2 l3) (pt l0)) && okN (fmN (fmN (cm l0 l1 l2 l3) (pt l0)) (pt l1)) && okN (fmN (fmN (fmN (cm l0 l1 l2 l3) (pt l0)) (pt l1)) (pt l2))
  && decide (fmN (fmN (fmN (fmN (cm l0 l1 l2 l3) (pt l0)) (pt l1)) (pt l2)) (pt l3) = pt (l0 + l1 + l2 + l3)) && decide ((cm l0 l1 l2 l3).reverse = cm l0 l1 l2 l3) && decide (cm l3 l2 l1 l0 = cm l0 l1 l2 l3)
  && (cm l0 l1 l2 l3).all (fun x => decide (x ≤ 10000)) && decide (((cm l0 l1 l2 l3).foldr (· + ·) 0 : Nat) = cwP [(l0 : Int), l1, l2, l3] 4) && decide (cwP [(l3 : Int), l2, l1, l0] 4 = cwP [(l0 : Int), l1, l2, l3] 4)
theorem chkN_all : ((List.range 8).all fun a => (List.range (8 - a)).all fun b => (List.range (8 - a - b)).all fun c => (List.range (8 - a - b - c)).all fun d => chkN a b c d) = true := by decide +kernel
theorem sumTo_toI (x : Nat) (l : List Nat) : ∀ k, sumTo (toI (x :: l)) (k + 1) = x + sumTo (toI l) k
  | 0 => by simp [sumTo, toI, el]
  | k + 1 => by
    rw [sumTo, sumTo_toI x l k, sumTo, show el (toI (x :: l)) (k + 1) = el (toI l) k by simp [el, toI]]
    omega
theorem sum_toI : ∀ l : List Nat, sumL (toI l) = (l.foldr (· + ·) 0 : Nat)
  | [] => rfl
  | x :: l => by
    have h := sum_toI l
    rw [sumL, toI_len] at h
    rw [sumL, toI_len, List.length_cons, sumTo_toI, h, List.foldr_cons, Int.natCast_add]
structure MnF (c : List Int) : Prop where
  quot : qrow c 4 = prw (sumL c).toNat
  ends : turn (mnL c) = mnL c
  other : mnL (turn c) = mnL c
  len : (mnL c).length ≤ 30
  small : ∀ j, 0 ≤ el (mnL c) j ∧ el (mnL c) j ≤ 10000
  count : sumL (mnL c) = cwP c 4
  turned : cwP (turn c) 4 = cwP c 4
  vt : VC (turn c)
  pos : 0 < (mnL c).length
theorem mnF {c : List Int} (h : VC c) : MnF c := by
  obtain ⟨l0, l1, l2, l3, rfl, h7, hs⟩ := h.nat
  have h1 := List.all_eq_true.1 (List.all_eq_true.1 (List.all_eq_true.1 (List.all_eq_true.1 chkN_all l0 (List.mem_range.2 (by omega))) l1 (List.mem_range.2 (by omega))) l2 (List.mem_range.2 (by omega))) l3 (List.mem_range.2 (by omega))
  simp only [chkN, Bool.and_eq_true, decide_eq_true_eq, List.all_eq_true] at h1
  obtain ⟨⟨⟨⟨⟨⟨⟨⟨⟨⟨⟨⟨⟨c0, p0⟩, p1⟩, p2⟩, p3⟩, c1⟩, c2⟩, c3⟩, hq⟩, hr⟩, ho⟩, hb⟩, hc⟩, ht⟩ := h1
  have ht2 : turn [(l0 : Int), l1, l2, l3] = [(l3 : Int), l2, l1, l0] := by rw [turn_rev]; rfl
  have hvt : VC [(l3 : Int), l2, l1, l0] := by
    refine ⟨rfl, fun j hj => ?_, ?_⟩
    · match j, hj with
      | 0, _ => simp [el]
      | 1, _ => simp [el]
      | 2, _ => simp [el]
      | 3, _ => simp [el]
    · simp [sumL, sumTo, el]
      omega
  have e := mnL_cm h h7
  have q1 : qrow [(l0 : Int), l1, l2, l3] 1 = toI (fmN (cm l0 l1 l2 l3) (pt l0)) := by
    show mulR (mnL _) (prw ((l0 : Int)).toNat) = _
    rw [e, Int.toNat_natCast, (pt_at (by omega)).1, mulR_toI c0 p0]
  have q2 : qrow [(l0 : Int), l1, l2, l3] 2 = toI (fmN (fmN (cm l0 l1 l2 l3) (pt l0)) (pt l1)) := by
    show mulR (qrow _ 1) (prw ((l1 : Int)).toNat) = _
    rw [q1, Int.toNat_natCast, (pt_at (by omega)).1, mulR_toI c1 p1]
  have q3 : qrow [(l0 : Int), l1, l2, l3] 3 = toI (fmN (fmN (fmN (cm l0 l1 l2 l3) (pt l0)) (pt l1)) (pt l2)) := by
    show mulR (qrow _ 2) (prw ((l2 : Int)).toNat) = _
    rw [q2, Int.toNat_natCast, (pt_at (by omega)).1, mulR_toI c2 p2]
  have q4 : qrow [(l0 : Int), l1, l2, l3] 4 = toI (pt (l0 + l1 + l2 + l3)) := by
    show mulR (qrow _ 3) (prw ((l3 : Int)).toNat) = _
    rw [q3, Int.toNat_natCast, (pt_at (by omega)).1, mulR_toI c3 p3, hq]
  have hco := co_toI c0
  refine ⟨?_, ?_, ?_, ?_, ?_, ?_, ?_, ?_, ?_⟩
  · rw [q4, hs, Int.toNat_natCast, (pt_at h7).1]
  · rw [e, turn_toI, hr]
  · rw [ht2, mnL_cm hvt (by omega), ho, e]
  · rw [e]; exact hco.len
  · intro j
    rw [e, el_toI]
    by_cases hj : j < (cm l0 l1 l2 l3).length
    · rw [List.getD_eq_getElem?_getD, List.getElem?_eq_getElem hj]
      have := hb _ (List.getElem_mem hj)
      simp only [Option.getD_some]
      omega
    · rw [List.getD_eq_getElem?_getD, List.getElem?_eq_none (by omega)]
      simp
  · rw [e, sum_toI, hc]
  · rw [ht2, ht]
  · rw [ht2]; exact hvt
  · rw [e]; exact hco.pos

end Go.Proofs.Ytjphaphnmclbcaa
