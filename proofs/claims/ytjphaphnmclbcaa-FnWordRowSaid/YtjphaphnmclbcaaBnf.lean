/- Texts of this claim put into one: Mirror, Ops, App2, OwnL, Tk, GrK, CtK, Fin, ValidI, Ord1I, Valid, Ord1S, MirRow, RowM. -/
import Derived.Test.YtjphaphnmclbcaaBne
import Derived.Test.YtjphaphnmclbcaaChecked
import Derived.Laws.AppendOwn
import Derived.Test.YtjphaphnmclbcaaBnd
import Derived.KernelRfl
import Derived.StillTailTactics
/- The lists and numbers that the functions give, as plain functions of lists. No condition. -/
namespace Go.Proofs.Ytjphaphnmclbcaa

/-- What a function of orders gives: a list for an order, nil for other numbers. -/
def onV (xs ys : List Int) : List Int := if Valid xs then ys else []
theorem onV_yes {xs ys : List Int} (h : Valid xs) : onV xs ys = ys := if_pos h
theorem onV_no {xs ys : List Int} (h : ¬ Valid xs) : onV xs ys = [] := if_neg h

/-! The lists that the functions make. -/
def rise (n : Nat) : List Int := (List.range n).map fun (k : Nat) => (k : Int)
theorem map_range_succ (g : Nat → Int) (k : Nat) : (List.range (k + 1)).map g = (List.range k).map g ++ [g k] := by simp [List.range_succ]
theorem rise_len (n : Nat) : (rise n).length = n := by simp [rise]
theorem rise_succ (n : Nat) : rise (n + 1) = rise n ++ [(n : Int)] := by simp [rise, List.range_succ]
def inv (xs : List Int) : List Int := iter (fun (a : List Int) k => a.set (el xs k).toNat (k : Int)) (List.replicate xs.length 0) xs.length
def turn (xs : List Int) : List Int := (List.range xs.length).map fun k => el xs (xs.length - 1 - k)
def turnI (xs : List Int) : List Int := iter (fun a k => a.set (xs.length - 1 - k) (el xs k)) (List.replicate xs.length 0) xs.length
def opp (xs : List Int) : List Int := (List.range xs.length).map fun k => (xs.length : Int) - 1 - el xs k

theorem inv_len (xs : List Int) (k : Nat) : (iter (fun (a : List Int) k => a.set (el xs k).toNat (k : Int)) (List.replicate xs.length 0) k).length = xs.length :=
  (iter_len (fun _ _ => List.length_set) _ k).trans List.length_replicate
theorem turnI_len (xs : List Int) (k : Nat) : (iter (fun a k => a.set (xs.length - 1 - k) (el xs k)) (List.replicate xs.length 0) k).length = xs.length :=
  (iter_len (fun _ _ => List.length_set) _ k).trans List.length_replicate

theorem turnI_eq (xs : List Int) : turnI xs = turn xs := by
  have key : ∀ k, k ≤ xs.length → ∀ j, j < xs.length → xs.length - 1 - j < k → el (iter (fun a k => a.set (xs.length - 1 - k) (el xs k)) (List.replicate xs.length 0) k) j = el xs (xs.length - 1 - j) := by
    intro k
    induction k with
    | zero => intro _ j _ hj; omega
    | succ k ih =>
      intro hk j hj hjk
      rw [iter]
      by_cases e : xs.length - 1 - k = j
      · subst e
        rw [el_set_same (by rw [turnI_len]; exact hj)]
        congr 1; omega
      · rw [el_set_ne e, ih (by omega) j hj (by omega)]
  refine ext_el (by rw [turnI, turnI_len, turn, map_range_len]) (fun j hj => ?_)
  rw [turnI, turnI_len] at hj
  rw [turnI, key _ (Nat.le_refl _) j hj (by omega), turn, el_map hj]

/-- How many of the first k numbers have the property. -/
def cntP (p : Nat → Bool) : Nat → Int
  | 0 => 0
  | k + 1 => if p k then cntP p k + 1 else cntP p k
theorem cntP_bd (p : Nat → Bool) (k : Nat) : 0 ≤ cntP p k ∧ cntP p k ≤ k := by
  induction k with
  | zero => exact ⟨Int.le_refl _, Int.le_refl _⟩
  | succ k ih => rw [cntP]; split <;> omega
theorem cntP_yes {p : Nat → Bool} {k : Nat} (h : p k = true) : cntP p (k + 1) = cntP p k + 1 := by rw [cntP, if_pos h]
theorem cntP_no {p : Nat → Bool} {k : Nat} (h : p k = false) : cntP p (k + 1) = cntP p k := by rw [cntP, h]; simp

/-- How many lesser numbers stand behind place i, among the first t behind it. -/
def lbP (xs : List Int) (i t : Nat) : Int := cntP (fun j => decide (el xs (i + 1 + j) < el xs i)) t
def lb (xs : List Int) (i : Nat) : Int := lbP xs i (xs.length - 1 - i)
theorem lbP_bd (xs : List Int) (i t : Nat) : 0 ≤ lbP xs i t ∧ lbP xs i t ≤ t := cntP_bd _ _
theorem lbP_zero (xs : List Int) (i : Nat) : lbP xs i 0 = 0 := rfl
theorem lbP_yes {xs : List Int} {i t : Nat} (h : el xs (i + 1 + t) < el xs i) : lbP xs i (t + 1) = lbP xs i t + 1 := cntP_yes (by simpa using h)
theorem lbP_no {xs : List Int} {i t : Nat} (h : el xs i ≤ el xs (i + 1 + t)) : lbP xs i (t + 1) = lbP xs i t := cntP_no (by simpa using h)
def table (xs : List Int) : List Int := (List.range xs.length).map (lb xs)
theorem table_len (xs : List Int) : (table xs).length = xs.length := map_range_len _
theorem el_table {xs : List Int} {j : Nat} (h : j < xs.length) : el (table xs) j = lb xs j := el_map h
theorem lb_bd (xs : List Int) (i : Nat) : 0 ≤ lb xs i ∧ lb xs i ≤ xs.length := by
  have := lbP_bd xs i (xs.length - 1 - i)
  unfold lb
  omega
theorem table_bd (xs : List Int) : ∀ j, j < (table xs).length → 0 ≤ el (table xs) j ∧ el (table xs) j ≤ xs.length := fun j hj => by
  rw [table_len] at hj
  rw [el_table hj]
  exact lb_bd xs j

/-- The sum of the first k numbers. -/
def sumTo (xs : List Int) : Nat → Int
  | 0 => 0
  | k + 1 => sumTo xs k + el xs k
def sumL (xs : List Int) : Int := sumTo xs xs.length
theorem sumTo_bd {xs : List Int} {M : Nat} (h : ∀ j, j < xs.length → 0 ≤ el xs j ∧ el xs j ≤ M) : ∀ k, k ≤ xs.length → 0 ≤ sumTo xs k ∧ sumTo xs k ≤ k * M := by
  intro k
  induction k with
  | zero => intro _; simp [sumTo]
  | succ k ih =>
    intro hk
    have h1 := ih (by omega)
    have h2 := h k (by omega)
    rw [sumTo]
    have e : ((k + 1 : Nat) : Int) * M = k * M + M := by rw [Int.natCast_add, Int.add_mul]; simp
    omega
/-- What a function of orders answers: a number for an order, another one for other numbers. -/
def onVi (xs : List Int) (v d : Int) : Int := if Valid xs then v else d
theorem onVi_yes {xs : List Int} {v d : Int} (h : Valid xs) : onVi xs v d = v := if_pos h
theorem onVi_no {xs : List Int} {v d : Int} (h : ¬ Valid xs) : onVi xs v d = d := if_neg h

/-- The places among the first k behind which a lesser number stands. -/
def dsP (xs : List Int) : Nat → List Int
  | 0 => []
  | k + 1 => if el xs (k + 1) < el xs k then dsP xs k ++ [(k : Int)] else dsP xs k
def desc (xs : List Int) : List Int := dsP xs (xs.length - 1)
theorem dsP_yes {xs : List Int} {k : Nat} (h : el xs (k + 1) < el xs k) : dsP xs (k + 1) = dsP xs k ++ [(k : Int)] := by rw [dsP, if_pos h]
theorem dsP_no {xs : List Int} {k : Nat} (h : el xs k ≤ el xs (k + 1)) : dsP xs (k + 1) = dsP xs k := by rw [dsP, if_neg (by omega)]
theorem dsP_len (xs : List Int) (k : Nat) : (dsP xs k).length ≤ k := by
  induction k with
  | zero => simp [dsP]
  | succ k ih =>
    rw [dsP]
    split
    · rw [List.length_append, List.length_singleton]; omega
    · omega
theorem dsP_mem (xs : List Int) (k : Nat) : ∀ x ∈ dsP xs k, 0 ≤ x ∧ x < k := by
  induction k with
  | zero => intro x hx; simp [dsP] at hx
  | succ k ih =>
    intro x hx
    rw [dsP] at hx
    split at hx
    · rw [List.mem_append, List.mem_singleton] at hx
      rcases hx with hx | hx
      · have := ih x hx; omega
      · omega
    · have := ih x hx; omega
theorem el_mem {xs : List Int} {j : Nat} (h : j < xs.length) : el xs j ∈ xs := by rw [el_lt h]; exact List.getElem_mem h
theorem desc_len (xs : List Int) : (desc xs).length ≤ xs.length - 1 := dsP_len _ _
theorem desc_small {xs : List Int} (h : xs.length ≤ 1000) : ∀ j, j < (desc xs).length → 0 ≤ el (desc xs) j ∧ el (desc xs) j ≤ (1000 : Nat) := fun j hj => by
  have : 0 ≤ el (desc xs) j ∧ el (desc xs) j < (xs.length - 1 : Nat) := dsP_mem xs _ _ (el_mem hj)
  omega
def major (xs : List Int) : Int := sumL (desc xs) + (desc xs).length
theorem sumL_bd {xs : List Int} {M L : Nat} (h : ∀ j, j < xs.length → 0 ≤ el xs j ∧ el xs j ≤ M) (hl : xs.length ≤ L) : 0 ≤ sumL xs ∧ sumL xs ≤ L * M := by
  have h1 := sumTo_bd h xs.length (Nat.le_refl _)
  refine ⟨h1.1, Int.le_trans h1.2 (Int.mul_le_mul_of_nonneg_right (by omega) (by omega))⟩
def sgn (xs : List Int) : Int := 1 - 2 * (sumL (table xs) % 2)

/-- One list moved up by a, and another one moved up by b behind it. -/
def up (xs : List Int) (a : Int) : List Int := (List.range xs.length).map fun j => el xs j + a
def join (xs : List Int) (a : Int) (ys : List Int) (b : Int) : List Int := up xs a ++ up ys b
theorem up_len (xs : List Int) (a : Int) : (up xs a).length = xs.length := map_range_len _
theorem up_zero (xs : List Int) : up xs 0 = xs := ext_el (up_len xs 0) (fun j hj => by rw [up_len] at hj; rw [up, el_map hj]; omega)
theorem up_app (xs : List Int) (g : Nat → Int) (k : Nat) : xs ++ (List.range (k + 1)).map g = (xs ++ (List.range k).map g) ++ [g k] := by rw [map_range_succ, List.append_assoc]
/-- Two orders that may be put behind each other. -/
def Two (xs ys : List Int) : Prop := Valid xs ∧ Valid ys ∧ xs.length + ys.length ≤ 7
instance (xs ys : List Int) : Decidable (Two xs ys) := inferInstanceAs (Decidable (_ ∧ _ ∧ _))
def onT (xs ys zs : List Int) : List Int := if Two xs ys then zs else []
theorem onT_yes {xs ys zs : List Int} (h : Two xs ys) : onT xs ys zs = zs := if_pos h
theorem onT_no {xs ys zs : List Int} (h : ¬ Two xs ys) : onT xs ys zs = [] := if_neg h

/-- Two orders of one length. -/
def Mat (xs ys : List Int) : Prop := Valid xs ∧ Valid ys ∧ xs.length = ys.length
instance (xs ys : List Int) : Decidable (Mat xs ys) := inferInstanceAs (Decidable (_ ∧ _ ∧ _))
def onM (xs ys zs : List Int) : List Int := if Mat xs ys then zs else []
theorem onM_yes {xs ys zs : List Int} (h : Mat xs ys) : onM xs ys zs = zs := if_pos h
theorem onM_no {xs ys zs : List Int} (h : ¬ Mat xs ys) : onM xs ys zs = [] := if_neg h
def comp (xs ys : List Int) : List Int := (List.range ys.length).map fun k => el xs (el ys k).toNat

/-- The numbers are the table of an order. -/
structure VT (ts : List Int) : Prop where
  len : ts.length ≤ 7
  lo : ∀ j, j < ts.length → 0 ≤ el ts j
  hi : ∀ j, j < ts.length → el ts j ≤ (ts.length : Int) - 1 - j
theorem vt_iff (ts : List Int) : VT ts ↔ (ts.length ≤ 7 ∧ (∀ j, j < ts.length → 0 ≤ el ts j) ∧ ∀ j, j < ts.length → el ts j ≤ (ts.length : Int) - 1 - j) :=
  ⟨fun h => ⟨h.len, h.lo, h.hi⟩, fun h => ⟨h.1, h.2.1, h.2.2⟩⟩
instance (ts : List Int) : Decidable (VT ts) := decidable_of_iff _ (vt_iff ts).symm

end Go.Proofs.Ytjphaphnmclbcaa

/- The walk's laws for the lists of numbers that the functions make: make, append of one number, and lists that a step builds. No condition. -/
namespace Go.Proofs.Ytjphaphnmclbcaa
open Go.RowKit

theorem infoI : (Try.prog.info? 3).map (fun i => (i.zero, i.size, i.bytes)) = some (some (.int .i64 0), 1, 8) := by kernel_rfl

/-- make([]int, n). -/
theorem make_ints (w : World) {ops : Array Oper} {rest : List Oper} {o : Oper} {a : Act} {Q : Exit → Act → World → Prop}
    (hg : o.guard = none) (l c : Operand) (hop : o.op = Op.makeSlice 23 l c) (L C : Int) (n : Nat) (hl : a.eval l = .int .i64 L) (hc : a.eval c = .int .i64 C) (hL : L = (n : Int)) (hC : C = (n : Int)) (hn : n ≤ 2000000)
    (hK : ∀ w', OwS w' w.heap.size w.heap.size n n (List.replicate n 0) → Below w.heap.size w w' → wpList Try.prog ops Q rest (a.put o.dst (.slice (some ⟨w.heap.size, 0, none⟩) n n)) w') :
    wpList Try.prog ops Q (o :: rest) a w := by
  obtain ⟨i0, hi, hz0, hz1, hz2⟩ := info_parts infoI
  refine wpList_make_full w hg l c 23 hop w.heap.size 3 i0 (.int .i64 0) 1 Try.underlying23 hi hz0 hz1 _ _ _ _ n hl hc hL hC (by rw [hz2]; omega) (by unfold maxLen; omega) (Nat.le_refl _) ?_
  intro w' hown hgrow
  refine hK w' ?_ ((Below.refl _ _).grown hgrow (Nat.le_refl _) (fun k hk => by simp at hk))
  unfold OwS
  have e : (madeCells (Value.cells (.int .i64 0)) (n * 1)).toList = (List.replicate n (0 : Int)).map (Value.int .i64) := by
    rw [Nat.mul_one, show Value.cells (.int .i64 0) = #[Value.int .i64 0] from rfl, toList_madeCells_one, List.map_replicate]
  rw [← e]; exact hown

/-- append(out, v), out the call's own. -/
theorem app_int (w : World) (v : Int) {ops : Array Oper} {rest : List Oper} {o : Oper} {a : Act} {Q : Exit → Act → World → Prop}
    (hg : o.guard = none) (s x : Operand) (hop : o.op = Op.call { callee := Callee.builtin Builtin.append, args := #[s, x], argTypes := #[23, 23] })
    (B : Nat) (u : Value) (ys : List Int) (hs : a.eval s = u) (hown : Own w B u ys) (hx : a.eval x = .slice (some ⟨w.heap.size, 0, none⟩) 1 1) (hlen : ys.length ≤ 2000000) (hB : B ≤ w.heap.size)
    (hK : ∀ u' w', Own w' B u' (ys ++ [v]) → w.grownBy w' u.ownBlock → wpList Try.prog ops Q rest (a.put o.dst u') w') :
    wpList Try.prog ops Q (o :: rest) a (w.alloc (.cells #[.int .i64 v] 3)) := by
  obtain ⟨i0, hi, hz0, hz1, hz2⟩ := info_parts infoI
  refine wpList_append_own _ hg s x 23 hop B 3 i0 (.int .i64 0) 1 8 Try.underlying23 hi hz0 hz1 hz2 rfl (by decide) u ys.length _ hs (World.ownsRow.alloc hown _) ⟨w.heap.size, 0, none⟩ 1 1 [.int .i64 v] hx rfl ?_ ?_ ?_ ?_ ?_ ?_
  · intro j t hj
    match j, hj with
    | 0, hj => simp at hj; subst hj; simp [Addr.add]
  · intro t ht; simp at ht; subst ht; rfl
  · unfold maxLen; omega
  · omega
  · simp; omega
  · intro v' w' hown' hgrow _
    refine hK v' w' ?_ (grown_trans (World.grownBy_alloc w _ _) hgrow)
    unfold Own
    rw [List.length_append, List.map_append]
    exact hown'

/-- append(out, p...), out the call's own, p whatever list of numbers. -/
theorem app_list (w : World) {ops : Array Oper} {rest : List Oper} {o : Oper} {a : Act} {Q : Exit → Act → World → Prop}
    (hg : o.guard = none) (s x : Operand) (hop : o.op = Op.call { callee := Callee.builtin Builtin.append, args := #[s, x], argTypes := #[23, 23] })
    (B : Nat) (u : Value) (ys : List Int) (hs : a.eval s = u) (hown : Own w B u ys) (ao : Option Addr) (n cap : Nat) (xs : List Int) (hx : a.eval x = .slice ao n cap) (hsl : Sl w ao n cap xs) (hnil : ao = none → cap = 0)
    (hlen : ys.length + n ≤ 2000000) (hB : B ≤ w.heap.size)
    (hK : ∀ u' w', Own w' B u' (ys ++ xs) → w.grownBy w' u.ownBlock → wpList Try.prog ops Q rest (a.put o.dst u') w') :
    wpList Try.prog ops Q (o :: rest) a w := by
  obtain ⟨i0, hi, hz0, hz1, hz2⟩ := info_parts infoI
  have hl := hsl.len
  cases ao with
  | none =>
    have hn : n = 0 := by
      rcases Nat.eq_zero_or_pos n with h | h
      · exact h
      · obtain ⟨b, off, hb, _⟩ := hsl.row h
        cases hb
    subst hn
    have hc := hnil rfl
    subst hc
    have hxs : xs = [] := List.eq_nil_of_length_eq_zero hl
    subst hxs
    refine wpList_append_own_none hg s x 23 hop B 3 i0 1 Try.underlying23 hi u ys.length _ hs hown hx ?_
    refine hK u w ?_ (World.grownBy.refl _ _)
    rw [List.append_nil]; exact hown
  | some ad =>
    refine wpList_append_own _ hg s x 23 hop B 3 i0 (.int .i64 0) 1 8 Try.underlying23 hi hz0 hz1 hz2 rfl (by decide) u ys.length _ hs hown ad n cap (xs.map (Value.int .i64)) hx (by simp [hl]) ?_ (ints_oneCell _ _) ?_ ?_ ?_ ?_
    · intro j t hj
      have hjn : j < n := by
        have := (List.getElem?_eq_some_iff.1 hj).1
        rw [List.length_map, hl] at this; exact this
      obtain ⟨b, off, hb, _, hc⟩ := hsl.row (by omega)
      obtain rfl := Option.some.inj hb
      rw [Addr.add_lit, hc j hjn]
      rw [List.getElem?_map, List.getElem?_eq_getElem (by omega)] at hj
      rw [el_lt (by omega)]
      exact hj
    · unfold maxLen; omega
    · omega
    · exact hB
    · intro v' w' hown' hgrow _
      refine hK v' w' ?_ hgrow
      unfold Own
      rw [List.length_append, List.map_append, hl]
      exact hown'

/-- make([]int, 0, n). -/
theorem make_cap (w : World) {ops : Array Oper} {rest : List Oper} {o : Oper} {a : Act} {Q : Exit → Act → World → Prop}
    (hg : o.guard = none) (l c : Operand) (hop : o.op = Op.makeSlice 23 l c) (C : Int) (n : Nat) (hl : a.eval l = .int .i64 0) (hc : a.eval c = .int .i64 C) (hC : C = (n : Int)) (hn : n ≤ 2000000)
    (hK : ∀ w', Own w' w.heap.size (.slice (some ⟨w.heap.size, 0, none⟩) 0 n) [] → Below w.heap.size w w' → wpList Try.prog ops Q rest (a.put o.dst (.slice (some ⟨w.heap.size, 0, none⟩) 0 n)) w') :
    wpList Try.prog ops Q (o :: rest) a w := by
  obtain ⟨i0, hi, hz0, hz1, hz2⟩ := info_parts infoI
  refine wpList_make_own w hg l c 23 hop w.heap.size 3 i0 (.int .i64 0) 1 Try.underlying23 hi hz0 hz1 _ _ _ n hl hc hC (by rw [hz2]; omega) (by unfold maxLen; omega) (Nat.le_refl _) ?_
  intro w' hown hgrow
  exact hK w' hown ((Below.refl _ _).grown hgrow (Nat.le_refl _) (fun k hk => by simp at hk))

end Go.Proofs.Ytjphaphnmclbcaa

/- The walk's law of append, with the block of what comes out: the old one, or a new one. No condition. -/
namespace Go.Proofs.Ytjphaphnmclbcaa
open Go.RowKit

theorem app_block {P : Program} (w : World) (base : Nat) (t ty e : TypeId) (i : TypeInfo) (z : Value) (ht : P.underlying t = some (.slice e)) (hi : P.info? e = some i) (hz : i.zero = some z) (h1s : i.size = 1)
    (v : Value) (n : Nat) (xs : List Value) (hown : w.ownsRow base e 1 v n xs) (a : Addr) (c : Nat) (x : Value) (hx : w.cell? a = some x) (hc : x.oneCell' = true) (hl : n ≤ 2000000) (hb : i.bytes ≤ 100)
    {v' : Value} {w' : World} (hr : (Builtin.append_ #[t, t] ty #[v, .slice (some a) 1 c]).run P w = .ok v' w') : v'.ownBlock = v.ownBlock ∨ v'.ownBlock = some w.heap.size := by
  have hnews : ∀ j u, [x][j]? = some u → w.cell? (a.add j) = some u := by
    intro j u hj
    match j, hj with
    | 0, hj => simp at hj; subst hj; simpa [Addr.add] using hx
  have hone : ∀ u ∈ [x], u.oneCell' = true := by intro u hu; simp at hu; subst hu; exact hc
  have hln : [x].length = 1 * i.size := by rw [h1s]; rfl
  have hby : (n + 1) * i.bytes ≤ 140737488355328 := Nat.le_trans (Nat.mul_le_mul (show n + 1 ≤ 2000001 by omega) hb) (by decide)
  rcases hown.2 with ⟨rfl, rfl⟩ | ⟨g, cap, cur, rfl, hbg, hg, hnc, hcm, hcs, htake⟩
  · rw [run_append_nil (P := P) w t ty e i z ht hi hz a 1 c [x] hln hnews (by omega) (by omega) (by omega)] at hr
    simp only [Result.ok.injEq] at hr
    exact Or.inr (by rw [← hr.1]; rfl)
  · by_cases hroom : n + 1 ≤ cap
    · rw [run_append_room (P := P) w t ty e i ht hi g n cap cur hg a 1 c [x] hln hnews hone hroom (by rw [h1s]; simp; omega)] at hr
      simp only [Result.ok.injEq] at hr
      exact Or.inl (by rw [← hr.1]; rfl)
    · rw [run_append_grow (P := P) w t ty e i z ht hi hz ⟨g, 0, none⟩ n cap xs (by rw [h1s]; exact hown.1) (hown.cells (g := g) rfl) a 1 c [x] hln hnews (by omega) (by omega) (growslice_fits (by omega) hby)] at hr
      simp only [Result.ok.injEq] at hr
      exact Or.inr (by rw [← hr.1]; rfl)

/-- What comes out of append: the old block or a new one. -/
def Blk (w : World) (u u' : Value) : Prop := u'.ownBlock = u.ownBlock ∨ u'.ownBlock = some w.heap.size

theorem wp_app2 {P : Program} (w : World) {o : Oper} {a : Act} {K : Act → World → Prop} {Q : Exit → Act → World → Prop} (s x : Operand) (t : TypeId)
    (ho : o.op = .call { callee := .builtin .append, args := #[s, x], argTypes := #[t, t] })
    (base : Nat) (e : TypeId) (i : TypeInfo) (z : Value) (ht : P.underlying t = some (.slice e)) (hi : P.info? e = some i) (hz : i.zero = some z) (h1s : i.size = 1) (hb : i.bytes ≤ 100) (hzs : z.cells.size = 1)
    (v : Value) (n : Nat) (xs : List Value) (hs : a.eval s = v) (hown : w.ownsRow base e 1 v n xs)
    (ad : Addr) (c : Nat) (y : Value) (hx : a.eval x = .slice (some ad) 1 c) (hy : w.cell? ad = some y) (hc : y.oneCell' = true) (hl : n ≤ 2000000) (hbase : base ≤ w.heap.size)
    (h : ∀ v' w', w'.ownsRow base e 1 v' (n + 1) (xs ++ [y]) → w.grownBy w' v.ownBlock → Blk w v v' → K (a.put o.dst v') w') : o.wp P a w K Q := by
  have hnews : ∀ j u, [y][j]? = some u → w.cell? (ad.add j) = some u := by
    intro j u hj
    match j, hj with
    | 0, hj => simp at hj; subst hj; simpa [Addr.add] using hy
  have hone : ∀ u ∈ [y], u.oneCell' = true := by intro u hu; simp at hu; subst hu; exact hc
  have hby : (n + 1) * i.bytes ≤ 140737488355328 := Nat.le_trans (Nat.mul_le_mul (show n + 1 ≤ 2000001 by omega) hb) (by decide)
  obtain ⟨v', w', hr, h2, h3, _⟩ := run_append_own (P := P) w base t o.type e i z 1 i.bytes ht hi hz h1s rfl hzs (by decide) v n xs hown ad 1 c [y] rfl hnews hone (by unfold maxLen; omega) hby hbase
  have hk := app_block w base t o.type e i z ht hi hz h1s v n xs hown ad c y hy hc hl hb hr
  unfold Oper.wp execOp
  simp only [ho, resolve, invoke, builtin, Sem.run_bind, Sem.run_pure, Result.andThen_ok, List.map_toArray, List.map_cons, List.map_nil, hs, hx, hr]
  exact h v' w' h2 h3 hk

/-- append(out, v), out the call's own: with the block. -/
theorem app_int2 (w : World) (v : Int) {ops : Array Oper} {rest : List Oper} {o : Oper} {a : Act} {Q : Exit → Act → World → Prop}
    (hg : o.guard = none) (s x : Operand) (hop : o.op = Op.call { callee := Callee.builtin Builtin.append, args := #[s, x], argTypes := #[23, 23] })
    (B : Nat) (u : Value) (ys : List Int) (hs : a.eval s = u) (hown : Own w B u ys) (hx : a.eval x = .slice (some ⟨w.heap.size, 0, none⟩) 1 1) (hlen : ys.length ≤ 2000000) (hB : B ≤ w.heap.size)
    (hK : ∀ u' w', Own w' B u' (ys ++ [v]) → w.grownBy w' u.ownBlock → (u'.ownBlock = u.ownBlock ∨ u'.ownBlock = some (w.heap.size + 1)) → wpList Try.prog ops Q rest (a.put o.dst u') w') :
    wpList Try.prog ops Q (o :: rest) a (w.alloc (.cells #[.int .i64 v] 3)) := by
  obtain ⟨i0, hi, hz0, hz1, hz2⟩ := info_parts infoI
  refine wpList_plain hg fun _ hK' => wp_app2 (P := Try.prog) _ s x 23 hop B 3 i0 (.int .i64 0) Try.underlying23 hi hz0 hz1 (by rw [hz2]; decide) rfl u ys.length _ hs (World.ownsRow.alloc hown _) ⟨w.heap.size, 0, none⟩ 1 (.int .i64 v) hx ?_ rfl hlen ?_ ?_
  · simp
  · simp; omega
  · intro v' w' hown' hgrow hk
    refine hK' _ _ (hK v' w' ?_ (grown_trans (World.grownBy_alloc w _ _) hgrow) ?_)
    · unfold Own
      rw [List.length_append, List.map_append]
      exact hown'
    · rcases hk with hk | hk
      · exact Or.inl hk
      · exact Or.inr (by rw [hk]; simp)

/-- Two values of the call's own lie apart. -/
def Apart (u d : Value) : Prop := u.ownBlock = none ∨ u.ownBlock ≠ d.ownBlock
theorem Apart.symm {u d : Value} (h : Apart u d) : Apart d u := by
  unfold Apart at *
  cases e : d.ownBlock with
  | none => exact Or.inl rfl
  | some k =>
    refine Or.inr (fun e2 => ?_)
    rcases h with h | h
    · rw [h] at e2; cases e2
    · exact h (by rw [e, e2])
/-- What was appended to stays apart from what was there. -/
theorem Apart.app {w : World} {B : Nat} {u u' d : Value} {ds : List Int} (h : Apart u d) (hd : Own w B d ds) (hk : u'.ownBlock = u.ownBlock ∨ u'.ownBlock = some (w.heap.size + 1)) : Apart u' d := by
  rcases hk with hk | hk
  · unfold Apart at *
    rw [hk]; exact h
  · refine Or.inr (fun e => ?_)
    rw [hk] at e
    have := (hd.blocks _ e.symm).2
    omega

end Go.Proofs.Ytjphaphnmclbcaa

/- Words for lists of lists of numbers: what a call has made, how it fares in later worlds, how it is read, and how a list is appended to it. No condition. -/
namespace Go.Proofs.Ytjphaphnmclbcaa
open Go.RowKit

/-- The list at place j. -/
def ell (yss : List (List Int)) (j : Nat) : List Int := yss.getD j []
theorem ell_lt {yss : List (List Int)} {j : Nat} (h : j < yss.length) : ell yss j = yss[j] := by simp [ell, h]
theorem ell_app_lt {yss : List (List Int)} {ys : List Int} {j : Nat} (h : j < yss.length) : ell (yss ++ [ys]) j = ell yss j := by simp [ell, List.getElem?_append_left h]
theorem ell_app_eq {yss : List (List Int)} {ys : List Int} : ell (yss ++ [ys]) yss.length = ys := by simp [ell]
theorem ext_ell {xss yss : List (List Int)} (h : xss.length = yss.length) (hj : ∀ j, j < xss.length → ell xss j = ell yss j) : xss = yss := by
  apply List.ext_getElem h
  intro j h1 h2
  have := hj j h1
  rwa [ell_lt h1, ell_lt h2] at this

/-- Only blocks from lo on and below hi, and new ones, have changed. -/
structure Chg (lo hi : Nat) (w w' : World) : Prop where
  os : w'.os = w.os
  tape : w'.tape = w.tape
  output : w'.output = w.output
  size : w.heap.size ≤ w'.heap.size
  block : ∀ k, k < w.heap.size → (k < lo ∨ hi ≤ k) → w'.heap[k]? = w.heap[k]?
theorem Chg.of_below {lo hi : Nat} {w w' : World} (h : Below w.heap.size w w') : Chg lo hi w w' := ⟨h.os, h.tape, h.output, h.size, fun k hk _ => h.block k hk⟩
theorem Chg.of_grown {lo hi : Nat} {w w' : World} {row : Option Nat} (h : w.grownBy w' row) (hr : ∀ k, row = some k → lo ≤ k ∧ k < hi) : Chg lo hi w w' :=
  ⟨h.os, h.tape, h.output, h.size, fun k hk hk2 => h.block k hk (fun e => by have := hr k e.symm; omega)⟩
theorem Chg.refl (lo hi : Nat) (w : World) : Chg lo hi w w := ⟨rfl, rfl, rfl, Nat.le_refl _, fun _ _ _ => rfl⟩
theorem Chg.trans {lo hi : Nat} {a b c : World} (h : Chg lo hi a b) (k : Chg lo hi b c) : Chg lo hi a c :=
  ⟨k.os.trans h.os, k.tape.trans h.tape, k.output.trans h.output, Nat.le_trans h.size k.size, fun i hi hr => (k.block i (Nat.lt_of_lt_of_le hi h.size) hr).trans (h.block i hi hr)⟩
theorem Chg.below {B lo hi : Nat} {a w w' : World} (h : Below B a w) (k : Chg lo hi w w') (hB : B ≤ lo) (hw : B ≤ w.heap.size) : Below B a w' :=
  ⟨k.os.trans h.os, k.tape.trans h.tape, k.output.trans h.output, Nat.le_trans h.size k.size, fun i hi => (k.block i (by omega) (Or.inl (by omega))).trans (h.block i hi)⟩

/-- What a call made, in blocks from B on and below C. -/
structure OwnB (w : World) (B C : Nat) (u : Value) (ys : List Int) : Prop where
  own : Own w B u ys
  lt : ∀ k, u.ownBlock = some k → k < C
theorem Own.win {w : World} {B : Nat} {u : Value} {ys : List Int} (h : Own w B u ys) : OwnB w B w.heap.size u ys := ⟨h, fun k hk => (h.blocks k hk).2⟩
theorem OwnB.chg {w w' : World} {B C lo hi : Nat} {u : Value} {ys : List Int} (h : OwnB w B C u ys) (k : Chg lo hi w w') (hd : C ≤ lo ∨ hi ≤ B) : OwnB w' B C u ys := by
  refine ⟨⟨h.own.1, ?_⟩, h.lt⟩
  rcases h.own.2 with h2 | ⟨g, cap, cur, hv, hg, hh, r⟩
  · exact Or.inl h2
  · have hlt := h.lt g (by rw [hv]; rfl)
    exact Or.inr ⟨g, cap, cur, hv, hg, (k.block g (Array.getElem?_eq_some_iff.1 hh).1 (by omega)).trans hh, r⟩

/-- What a call made: a list of lists, all in blocks from B on and below C and not in block q, each apart from all others. -/
structure OwnLx (q : Option Nat) (w : World) (B C : Nat) (u : Value) (yss : List (List Int)) : Prop where
  ge : B ≤ C
  le : C ≤ w.heap.size
  ex : ∃ vs : List Value, w.ownsRow B 23 1 u yss.length vs ∧ (∀ k, u.ownBlock = some k → k < C ∧ q ≠ some k) ∧
    (∀ (j : Nat) (v : Value), vs[j]? = some v → Own w B v (ell yss j) ∧ (∀ k, v.ownBlock = some k → k < C ∧ q ≠ some k) ∧ Apart v u) ∧
    (∀ (i j : Nat) (v v' : Value), i < j → vs[i]? = some v → vs[j]? = some v' → Apart v v')
def OwnL (w : World) (B C : Nat) (u : Value) (yss : List (List Int)) : Prop := OwnLx none w B C u yss

theorem own_chg {w w' : World} {B : Nat} {u : Value} {ys : List Int} (h : Own w B u ys) (hk : ∀ k, u.ownBlock = some k → k < w.heap.size → w'.heap[k]? = w.heap[k]?) : Own w' B u ys := by
  refine ⟨h.1, ?_⟩
  rcases h.2 with h2 | ⟨g, cap, cur, hv, hg, hh, r⟩
  · exact Or.inl h2
  · exact Or.inr ⟨g, cap, cur, hv, hg, (hk g (by rw [hv]; rfl) (Array.getElem?_eq_some_iff.1 hh).1).trans hh, r⟩

theorem OwnLx.kept {q : Option Nat} {w w' : World} {B C : Nat} {u : Value} {yss : List (List Int)} (h : OwnLx q w B C u yss) (hs : w.heap.size ≤ w'.heap.size) (hk : ∀ k, B ≤ k → k < C → q ≠ some k → w'.heap[k]? = w.heap[k]?) : OwnLx q w' B C u yss := by
  obtain ⟨vs, h1, h2, h3, h4⟩ := h.ex
  refine ⟨h.ge, Nat.le_trans h.le hs, vs, ⟨h1.1, ?_⟩, h2, fun j v hj => ?_, h4⟩
  · rcases h1.2 with h5 | ⟨g, cap, cur, hv, hg, hh, r⟩
    · exact Or.inl h5
    · have hlt := h2 g (by rw [hv]; rfl)
      exact Or.inr ⟨g, cap, cur, hv, hg, (hk g hg hlt.1 hlt.2).trans hh, r⟩
  · obtain ⟨a, b, c⟩ := h3 j v hj
    exact ⟨own_chg a (fun k e _ => hk k (a.blocks k e).1 (b k e).1 (b k e).2), b, c⟩
theorem OwnLx.chg {q : Option Nat} {w w' : World} {B C lo hi : Nat} {u : Value} {yss : List (List Int)} (h : OwnLx q w B C u yss) (k : Chg lo hi w w') (hd : C ≤ lo ∨ hi ≤ B) : OwnLx q w' B C u yss :=
  h.kept k.size (fun j h1 h2 _ => k.block j (Nat.lt_of_lt_of_le h2 h.le) (by omega))
theorem OwnL.chg {w w' : World} {B C lo hi : Nat} {u : Value} {yss : List (List Int)} (h : OwnL w B C u yss) (k : Chg lo hi w w') (hd : C ≤ lo ∨ hi ≤ B) : OwnL w' B C u yss := OwnLx.chg h k hd
theorem OwnLx.later {q : Option Nat} {w w' : World} {B C : Nat} {u : Value} {yss : List (List Int)} (h : OwnLx q w B C u yss) (k : Below w.heap.size w w') : OwnLx q w' B C u yss :=
  h.chg (Chg.of_below (lo := C) (hi := C) k) (Or.inl (Nat.le_refl _))
theorem OwnL.later {w w' : World} {B C : Nat} {u : Value} {yss : List (List Int)} (h : OwnL w B C u yss) (k : Below w.heap.size w w') : OwnL w' B C u yss := OwnLx.later h k
/-- A store into the block that is left out. -/
theorem OwnLx.set {g : Nat} {w : World} {B C : Nat} {u : Value} {yss : List (List Int)} (h : OwnLx (some g) w B C u yss) (j : Nat) (v : Value) : OwnLx (some g) (w.setCell ⟨g, j, none⟩ v) B C u yss :=
  h.kept (by simp [World.setCell]) (fun k _ _ hk => Below.heap_setCell _ _ _ _ (fun e => hk (congrArg some e.symm)))
theorem OwnLx.mono {q : Option Nat} {w : World} {B B' C : Nat} {u : Value} {yss : List (List Int)} (h : OwnLx q w B C u yss) (hB : B' ≤ B) : OwnLx q w B' C u yss := by
  obtain ⟨vs, h1, h2, h3, h4⟩ := h.ex
  refine ⟨Nat.le_trans hB h.ge, h.le, vs, ⟨h1.1, ?_⟩, h2, fun j v hj => ?_, h4⟩
  · rcases h1.2 with h5 | ⟨g, cap, cur, hv, hg, r⟩
    · exact Or.inl h5
    · exact Or.inr ⟨g, cap, cur, hv, Nat.le_trans hB hg, r⟩
  · obtain ⟨a, b, c⟩ := h3 j v hj
    exact ⟨a.mono hB, b, c⟩
theorem OwnL.mono {w : World} {B B' C : Nat} {u : Value} {yss : List (List Int)} (h : OwnL w B C u yss) (hB : B' ≤ B) : OwnL w B' C u yss := OwnLx.mono h hB
theorem OwnLx.any {q : Option Nat} {w : World} {B C : Nat} {u : Value} {yss : List (List Int)} (h : OwnLx q w B C u yss) : OwnL w B C u yss := by
  obtain ⟨vs, h1, h2, h3, h4⟩ := h.ex
  exact ⟨h.ge, h.le, vs, h1, fun k hk => ⟨(h2 k hk).1, fun e => by cases e⟩, fun j v hj => ⟨(h3 j v hj).1, fun k hk => ⟨((h3 j v hj).2.1 k hk).1, fun e => by cases e⟩, (h3 j v hj).2.2⟩, h4⟩
theorem OwnLx.now {q : Option Nat} {w : World} {B C : Nat} {u : Value} {yss : List (List Int)} (h : OwnLx q w B C u yss) : OwnLx q w B w.heap.size u yss := by
  obtain ⟨vs, h1, h2, h3, h4⟩ := h.ex
  have := h.le
  exact ⟨Nat.le_trans h.ge h.le, Nat.le_refl _, vs, h1, fun k hk => ⟨by have := (h2 k hk).1; omega, (h2 k hk).2⟩, fun j v hj => ⟨(h3 j v hj).1, fun k hk => ⟨by have := ((h3 j v hj).2.1 k hk).1; omega, ((h3 j v hj).2.1 k hk).2⟩, (h3 j v hj).2.2⟩, h4⟩
theorem OwnL.now {w : World} {B C : Nat} {u : Value} {yss : List (List Int)} (h : OwnL w B C u yss) : OwnL w B w.heap.size u yss := OwnLx.now h
theorem OwnL.drewN {w : World} {B C : Nat} {u : Value} {yss : List (List Int)} (h : OwnL w B C u yss) (m : Nat) : OwnL (w.drewN m) B C u yss := h.later (drewN_below (Below.refl _ _) m)

/-- The slice value with address ao, length n and capacity cap reads as the lists yss. -/
structure SlL (w : World) (ao : Option Addr) (n cap : Nat) (yss : List (List Int)) : Prop where
  len : yss.length = n
  le : n ≤ cap
  max : cap ≤ maxLen
  row : 0 < n → ∃ b off, ao = some ⟨b, off, none⟩ ∧ b < w.heap.size ∧ ∀ j, j < n → ∃ ai ci, w.cell? ⟨b, off + j, none⟩ = some (.slice ai (ell yss j).length ci) ∧ Sl w ai (ell yss j).length ci (ell yss j)
theorem SlL.later {w w' : World} {ao : Option Addr} {n cap : Nat} {yss : List (List Int)} (h : SlL w ao n cap yss) (hb : Below w.heap.size w w') : SlL w' ao n cap yss := by
  refine ⟨h.len, h.le, h.max, fun hn => ?_⟩
  obtain ⟨b, off, rfl, hlt, hc⟩ := h.row hn
  refine ⟨b, off, rfl, Nat.lt_of_lt_of_le hlt hb.size, fun j hj => ?_⟩
  obtain ⟨ai, ci, h1, h2⟩ := hc j hj
  exact ⟨ai, ci, (hb.cell hlt).trans h1, h2.later hb⟩
theorem SlL.big {w : World} {ao : Option Addr} {n cap : Nat} {yss : List (List Int)} (h : SlL w ao n cap yss) : n ≤ 9223372036854775807 := by
  have := h.le
  have := h.max
  unfold maxLen at this
  omega
theorem SlL.nil {w : World} : SlL w none 0 0 [] := ⟨rfl, Nat.le_refl _, Nat.zero_le _, fun h => by omega⟩
theorem own_one' (w : World) (x : Int) (B : Nat) (hB : B ≤ w.heap.size) : Own (w.alloc (.cells #[.int .i64 x] 3)) B (.slice (some ⟨w.heap.size, 0, none⟩) 1 1) [x] :=
  World.ownsRow_lit w #[.int .i64 x] 1 hB (by decide) rfl
theorem OwnL.sl {w : World} {B C : Nat} {u : Value} {yss : List (List Int)} (h : OwnL w B C u yss) : ∃ ao cap, u = .slice ao yss.length cap ∧ SlL w ao yss.length cap yss := by
  obtain ⟨vs, h1, h2, h3, h4⟩ := h.ex
  have h0 := h1
  rcases h1.2 with ⟨rfl, h5⟩ | ⟨g, cap, cur, rfl, hB, hg, h5, h6, h7, h8⟩
  · have : yss = [] := List.eq_nil_of_length_eq_zero h5
    subst this
    exact ⟨none, 0, rfl, SlL.nil⟩
  · refine ⟨_, cap, rfl, rfl, h5, h6, fun hn => ⟨g, 0, rfl, (Array.getElem?_eq_some_iff.1 hg).1, fun j hj => ?_⟩⟩
    have hl : vs.length = yss.length := by rw [h0.1, Nat.mul_one]
    have hv : vs[j]? = some vs[j] := List.getElem?_eq_getElem (by omega)
    have hc := World.ownsRow.cellAt h0 j (by omega)
    obtain ⟨ai, ci, e, hs⟩ := (h3 j _ hv).1.sl
    refine ⟨ai, ci, ?_, hs⟩
    rw [Nat.zero_add, hc, ← e]
    try simp
theorem OwnL.nil {w : World} {B : Nat} (hB : B ≤ w.heap.size) : OwnL w B B (.slice none 0 0) [] :=
  ⟨Nat.le_refl _, hB, [], World.ownsRow_nil _ _ _ _, fun k hk => by simp [Value.ownBlock] at hk, fun j v hj => by simp at hj, fun i j v v' _ hj => by simp at hj⟩
theorem ownLx_lit {w : World} {B : Nat} {q : Option Nat} (hB : B ≤ w.heap.size) (hq : q ≠ some w.heap.size) : OwnLx q (w.alloc (.cells #[] 23)) B (w.heap.size + 1) (.slice (some ⟨w.heap.size, 0, none⟩) 0 0) [] :=
  ⟨by omega, by simp, [], World.ownsRow_lit w #[] 0 hB (Nat.zero_le _) rfl, fun k hk => by
    simp [Value.ownBlock] at hk
    subst hk
    exact ⟨by omega, hq⟩, fun j v hj => by simp at hj, fun i j v v' _ hj => by simp at hj⟩
theorem ownL_lit {w : World} {B : Nat} (hB : B ≤ w.heap.size) : OwnL (w.alloc (.cells #[] 23)) B (w.heap.size + 1) (.slice (some ⟨w.heap.size, 0, none⟩) 0 0) [] := ownLx_lit hB (fun e => by cases e)

theorem Own.oneCell {w : World} {B : Nat} {u : Value} {ys : List Int} (h : Own w B u ys) : u.oneCell' = true := by
  rcases h.place with ⟨rfl, _⟩ | ⟨g, cap, rfl, _⟩
  · rfl
  · rfl

theorem infoL : (Try.prog.info? 23).map (fun i => (i.zero, i.size, i.bytes)) = some (some (.slice none 0 0), 1, 24) := by kernel_rfl

/-- append(out, list), out the call's own, the list newer than it. -/
theorem app_lstx (q : Option Nat) (D : Nat) (w : World) (v : Value) (ys : List Int) {ops : Array Oper} {rest : List Oper} {o : Oper} {a : Act} {Q : Exit → Act → World → Prop}
    (hg : o.guard = none) (s x : Operand) (hop : o.op = Op.call { callee := Callee.builtin Builtin.append, args := #[s, x], argTypes := #[38, 38] })
    (B C : Nat) (u : Value) (yss : List (List Int)) (h0 : OwnLx q w B C u yss) (hC : C ≤ D) (hws : D ≤ w.heap.size) (hq : ∀ k, q = some k → k < D) (hv : Own w D v ys) (hs : a.eval s = u) (hx : a.eval x = .slice (some ⟨w.heap.size, 0, none⟩) 1 1) (hlen : yss.length ≤ 2000000)
    (hK : ∀ u' w', OwnLx q w' B w'.heap.size u' (yss ++ [ys]) → Below B w w' → w.grownBy w' u.ownBlock → wpList Try.prog ops Q rest (a.put o.dst u') w') :
    wpList Try.prog ops Q (o :: rest) a (w.alloc (.cells #[v] 23)) := by
  obtain ⟨i0, hi, hz0, hz1, hz2⟩ := info_parts infoL
  obtain ⟨vs, h1, h2, h3, h4⟩ := h0.ex
  have hBC := h0.ge
  have hone := hv.oneCell
  have hvb := hv.blocks
  refine wpList_plain hg fun _ hK' => wp_app2 (P := Try.prog) _ s x 38 hop B 23 i0 (.slice none 0 0) Try.underlying38 hi hz0 hz1 (by rw [hz2]; decide) rfl u yss.length vs hs (World.ownsRow.alloc h1 _) ⟨w.heap.size, 0, none⟩ 1 v hx ?_ hone hlen ?_ ?_
  · simp
  · simp; omega
  · intro u' w' hown' hgrow hk
    have hgr : w.grownBy w' u.ownBlock := grown_trans (World.grownBy_alloc w _ _) hgrow
    have hsz : w.heap.size + 1 ≤ w'.heap.size := by have := hgrow.size; simpa using this
    have hblk : u'.ownBlock = u.ownBlock ∨ u'.ownBlock = some (w.heap.size + 1) := by
      rcases hk with hk | hk
      · exact Or.inl hk
      · exact Or.inr (by rw [hk]; simp)
    have hub : ∀ k, u.ownBlock = some k → B ≤ k := fun k hk => (World.ownsRow.lt h1 k hk).1
    have hvl : vs.length = yss.length := by rw [h1.1, Nat.mul_one]
    have hvu : Apart v u := by
      unfold Apart
      cases e : v.ownBlock with
      | none => exact Or.inl rfl
      | some k => exact Or.inr (fun e2 => by have a1 := (h2 k e2.symm).1; have a2 := (hvb k e).1; omega)
    have hmv : ∀ t, (∀ k, t.ownBlock = some k → k < w.heap.size) → Apart t u → Apart t u' := by
      intro t ht hap
      unfold Apart at *
      rcases hblk with e | e
      · rw [e]; exact hap
      · rw [e]
        cases e2 : t.ownBlock with
        | none => exact Or.inl rfl
        | some k => exact Or.inr (fun e3 => by have := ht k e2; have := Option.some.inj e3; omega)
    have hqn : ∀ k, D ≤ k → q ≠ some k := fun k hk e => by have := hq k e; omega
    refine hK' _ _ (hK u' w' ⟨by omega, Nat.le_refl _, vs ++ [v], ?_, ?_, ?_, ?_⟩ ?_ hgr)
    · rw [List.length_append]; exact hown'
    · intro k hk
      refine ⟨(World.ownsRow.lt hown' k hk).2, ?_⟩
      rcases hblk with e | e
      · rw [e] at hk; exact (h2 k hk).2
      · rw [e] at hk; obtain rfl := Option.some.inj hk; exact hqn _ (by omega)
    · intro j t hj
      by_cases hjl : j < vs.length
      · rw [List.getElem?_append_left hjl] at hj
        obtain ⟨p, q', r⟩ := h3 j t hj
        rw [ell_app_lt (by omega)]
        exact ⟨p.kept hgr r, fun k hk => ⟨by have := (q' k hk).1; omega, (q' k hk).2⟩, hmv t (fun k hk => by have := (q' k hk).1; omega) r⟩
      · have hj2 : j = yss.length := by
          have := (List.getElem?_eq_some_iff.1 hj).1
          rw [List.length_append, List.length_singleton] at this
          omega
        subst hj2
        rw [List.getElem?_append_right (by omega), hvl, Nat.sub_self] at hj
        simp at hj
        subst hj
        rw [ell_app_eq]
        exact ⟨(hv.kept hgr hvu).mono (by omega), fun k hk => ⟨by have := (hvb k hk).2; omega, hqn k (hvb k hk).1⟩, hmv v (fun k hk => (hvb k hk).2) hvu⟩
    · intro i j t t' hij hti htj
      have hil : i < vs.length := by
        have := (List.getElem?_eq_some_iff.1 htj).1
        rw [List.length_append, List.length_singleton] at this
        omega
      rw [List.getElem?_append_left hil] at hti
      by_cases hjl : j < vs.length
      · rw [List.getElem?_append_left hjl] at htj
        exact h4 i j t t' hij hti htj
      · have hj2 : j = vs.length := by
          have := (List.getElem?_eq_some_iff.1 htj).1
          rw [List.length_append, List.length_singleton] at this
          omega
        subst hj2
        rw [List.getElem?_append_right (Nat.le_refl _), Nat.sub_self] at htj
        simp at htj
        subst htj
        unfold Apart
        cases e : t.ownBlock with
        | none => exact Or.inl rfl
        | some k => exact Or.inr (fun e2 => by have a1 := ((h3 i t hti).2.1 k e).1; have a2 := (hvb k e2.symm).1; omega)
    · exact below_of_grown hgr (by omega) (fun k hk => hub k hk)

theorem app_lst (w0 w : World) (v : Value) (ys : List Int) {ops : Array Oper} {rest : List Oper} {o : Oper} {a : Act} {Q : Exit → Act → World → Prop}
    (hg : o.guard = none) (s x : Operand) (hop : o.op = Op.call { callee := Callee.builtin Builtin.append, args := #[s, x], argTypes := #[38, 38] })
    (B C : Nat) (u : Value) (yss : List (List Int)) (h0 : OwnL w0 B C u yss) (hb : Below w0.heap.size w0 w) (hv : Own w w0.heap.size v ys) (hs : a.eval s = u) (hx : a.eval x = .slice (some ⟨w.heap.size, 0, none⟩) 1 1) (hlen : yss.length ≤ 2000000)
    (hK : ∀ u' w', OwnL w' B w'.heap.size u' (yss ++ [ys]) → Below B w w' → wpList Try.prog ops Q rest (a.put o.dst u') w') :
    wpList Try.prog ops Q (o :: rest) a (w.alloc (.cells #[v] 23)) :=
  app_lstx none w0.heap.size w v ys hg s x hop B C u yss (OwnLx.later h0 hb) (OwnLx.le h0) hb.size (fun k e => by cases e) hv hs hx hlen (fun u' w' h1 h2 _ => hK u' w' h1 h2)

/-- A call made a list of lists, and turned nothing that was there. -/
def MadeL (w : World) (yss : List (List Int)) (e : Ending) (w' : World) : Prop := ∃ u, e = .returned u ∧ OwnL w' w.heap.size w'.heap.size u yss ∧ Below w.heap.size w w'
theorem madeL_to {P : Program} {f : FuncId} {a : Array Value} {w : World} {v v' : List (List Int)} (h : Calls P f a w (MadeL w v)) (e : v = v') : Calls P f a w (MadeL w v') := e ▸ h
/-- A list for an order, nil for other numbers. -/
def onVL (xs : List Int) (yss : List (List Int)) : List (List Int) := if Valid xs then yss else []
theorem onVL_yes {xs : List Int} {yss : List (List Int)} (h : Valid xs) : onVL xs yss = yss := if_pos h
theorem onVL_no {xs : List Int} {yss : List (List Int)} (h : ¬ Valid xs) : onVL xs yss = [] := if_neg h

end Go.Proofs.Ytjphaphnmclbcaa

/- What was proved alone, as contracts of the walk beside leavers. No condition. -/
namespace Go.Proofs.Ytjphaphnmclbcaa
open Go Go.Conc Go.RowKit

theorem Only.below {w w' : World} (h : Only w w') : Below w.heap.size w { w' with tape := w.tape } := ⟨h.os, rfl, h.output, h.size, h.keep⟩
theorem Only.refl (w : World) : Only w w := ⟨rfl, rfl, Nat.le_refl _, fun _ _ => rfl⟩
theorem Only.trans {a b c : World} (h : Only a b) (k : Only b c) : Only a c := ⟨k.os.trans h.os, k.output.trans h.output, Nat.le_trans h.size k.size, fun i hi => (k.keep i (Nat.lt_of_lt_of_le hi h.size)).trans (h.keep i hi)⟩
theorem Only.of_re {w w₁ w' : World} (hr : Re w w₁) (h : Below w₁.heap.size w₁ w') : Only w w' := by
  obtain ⟨τ, d, rfl⟩ := hr
  exact ⟨h.os, h.output, h.size, h.block⟩
theorem Only.re {w w₁ : World} (hr : Re w w₁) : Only w w₁ := by
  obtain ⟨τ, d, rfl⟩ := hr
  exact ⟨rfl, rfl, Nat.le_refl _, fun _ _ => rfl⟩

theorem Only.frame {W w' : World} (h : Only W w') (may : MemPlace → Prop) : W.keptBut w' may := by
  refine ⟨h.os, h.output, fun i hi => ?_⟩
  rw [h.keep i hi]
  split <;> simp_all

theorem Sl.tape {w : World} {τ : Tape} {ao : Option Addr} {n cap : Nat} {xs : List Int} (h : Sl { w with tape := τ } ao n cap xs) : Sl w ao n cap xs := ⟨h.len, h.le, h.max, h.row⟩
theorem Sl.only {w w' : World} {ao : Option Addr} {n cap : Nat} {xs : List Int} (h : Sl w ao n cap xs) (o : Only w w') : Sl w' ao n cap xs := Sl.tape (τ := w.tape) (h.later o.below)
theorem SlL.only {w w' : World} {ao : Option Addr} {n cap : Nat} {xs : List (List Int)} (h : SlL w ao n cap xs) (o : Only w w') : SlL w' ao n cap xs := by
  have h' := h.later o.below
  refine ⟨h'.len, h'.le, h'.max, fun hn => ?_⟩
  obtain ⟨b, off, e1, e2, e3⟩ := h'.row hn
  exact ⟨b, off, e1, e2, fun j hj => by obtain ⟨ai, ci, k1, k2⟩ := e3 j hj; exact ⟨ai, ci, k1, Sl.tape k2⟩⟩
theorem Own.only {w w' : World} {B : Nat} {u : Value} {ys : List Int} (h : Own w B u ys) (o : Only w w') : Own w' B u ys := own_chg h fun k hk _ => o.keep k (h.blocks k hk).2
theorem OwnL.only {w w' : World} {B C : Nat} {u : Value} {yss : List (List Int)} (h : OwnL w B C u yss) (o : Only w w') : OwnL w' B C u yss := by
  have h' := OwnL.later h o.below
  exact ⟨h'.ge, h'.le, h'.ex⟩

section
variable {Stop : Goroutine → World → Prop} {f : FuncId} {args : Array Value} {w : World}

theorem saysC {v : Value} (hf : Fp f = true) (h : ∀ w₁, Only w w₁ → Calls Try.prog f args w₁ (Says w₁ v)) : CallsC Try.prog (TF Try.prog Stop) f args w M00 (fun r w' M' => M' = M00 ∧ r = v ∧ Only w w') :=
  callsC_lone (R := fun r w' => r = v ∧ Only w w') plain_prog hf fun w₁ hr => (h w₁ (Only.re hr)).mono (by rintro e w' ⟨rfl, hb⟩; exact ⟨v, rfl, rfl, Only.of_re hr hb⟩)
theorem madeC {ys : List Int} (hf : Fp f = true) (h : ∀ w₁, Only w w₁ → Calls Try.prog f args w₁ (Made w₁ ys)) : CallsC Try.prog (TF Try.prog Stop) f args w M00 (fun r w' M' => M' = M00 ∧ Own w' w.heap.size r ys ∧ Only w w') :=
  callsC_lone (R := fun r w' => Own w' w.heap.size r ys ∧ Only w w') plain_prog hf fun w₁ hr => (h w₁ (Only.re hr)).mono (by rintro e w' ⟨u, rfl, ho, hb⟩; exact ⟨u, rfl, by rw [re_heap hr] at ho; exact ho, Only.of_re hr hb⟩)
theorem made2C {ys : List Int} {b : Bool} (hf : Fp f = true) (h : ∀ w₁, Only w w₁ → Calls Try.prog f args w₁ (Made2 w₁ ys b)) : CallsC Try.prog (TF Try.prog Stop) f args w M00 (fun r w' M' => M' = M00 ∧ ∃ u, r = .tuple #[u, .bool b] ∧ Own w' w.heap.size u ys ∧ Only w w') :=
  callsC_lone (R := fun r w' => ∃ u, r = .tuple #[u, .bool b] ∧ Own w' w.heap.size u ys ∧ Only w w') plain_prog hf fun w₁ hr => (h w₁ (Only.re hr)).mono (by rintro e w' ⟨u, rfl, ho, hb⟩; exact ⟨_, rfl, u, rfl, by rw [re_heap hr] at ho; exact ho, Only.of_re hr hb⟩)
theorem madeLC {yss : List (List Int)} (hf : Fp f = true) (h : ∀ w₁, Only w w₁ → Calls Try.prog f args w₁ (MadeL w₁ yss)) : CallsC Try.prog (TF Try.prog Stop) f args w M00 (fun r w' M' => M' = M00 ∧ OwnL w' w.heap.size w'.heap.size r yss ∧ Only w w') :=
  callsC_lone (R := fun r w' => OwnL w' w.heap.size w'.heap.size r yss ∧ Only w w') plain_prog hf fun w₁ hr => (h w₁ (Only.re hr)).mono (by rintro e w' ⟨u, rfl, ho, hb⟩; exact ⟨u, rfl, by rw [re_heap hr] at ho; exact ho, Only.of_re hr hb⟩)
end

end Go.Proofs.Ytjphaphnmclbcaa

/- slices.Grow of nothing, for one of the two goroutines under way. No condition. -/
namespace Go.Proofs.Ytjphaphnmclbcaa
open Go Go.Conc Go.RowKit

/-- What is made in company: the value u owns the numbers ys, in blocks of one's own that are new. -/
structure MadeC (Sh : Nat → Prop) {ι : Type} (w : World) (M : Gh ι) (ys : List Int) (u : Value) (w' : World) (M' : Gh ι) : Prop where
  fwd : Fwd Sh w M w' M'
  own : Own w' w.heap.size u ys
  mine : ∀ k, u.ownBlock = some k → M'.2 k
  there : There Sh w' M'

set_option linter.unusedSimpArgs false in
set_option maxHeartbeats 2000000 in
theorem growC {main : Bool} {Sh : Nat → Prop} {ι : Type} {C : Gh ι → Goroutine → World → Prop} (hS : Fam Try.prog main Sh C) (n : Nat) (h0 : 0 < n) (hn : n ≤ 2000) (w : World) (M : Gh ι) (hM : There Sh w M) :
    CallsC Try.prog C 112 #[.slice none 0 0, .int .i64 n] w M (MadeC Sh w M []) := by
  have h1 : ¬ (n : Int) < 0 := by omega
  have h2 : 0 < (n : Int) := by omega
  refine callsC_of_wpC hS Try.func112 rfl ?_
  simp only [Try.ntmps112, List.size_toArray, List.length_cons, List.length_nil, Nat.reduceAdd, Nat.reduceSub, Array.replicate_succ,
     Array.replicate_zero, List.push_toArray, List.append_toArray, List.nil_append, List.cons_append]
  refine wpC_seq hS ?_
  refine wpC_region hS ?_
  simp only [List.size_toArray, List.length_cons, List.length_nil, Nat.reduceAdd, Nat.zero_add, List.range, List.range.loop]
  repeat first
    | refine opsC_moveA hS rfl rfl (.inl rfl) ?_
    | refine opsC_moveA hS rfl rfl (.inr rfl) ?_
    | refine opsC_binA hS rfl rfl rfl rfl rfl rfl ?_
    | refine opsC_lenA hS rfl rfl rfl (by kernel_rfl) rfl ?_
    | (refine opsC_plain hS rfl rfl fun _ K hK => ?_; go_simp; refine hK _ (by simp [go_sem, events_cap_slice, events_slice_hi, *]) ?_; clear hK K; try walk_nrm)
  refine opsC_nil hS ?_
  show WpC _ _ _ _ _ _ _
  refine wpC_seq hS ?_
  refine wpC_seq hS ?_
  refine wpC_region hS ?_
  simp only [List.size_toArray, List.length_cons, List.length_nil, Nat.reduceAdd, Nat.zero_add, List.range, List.range.loop]
  repeat first
    | refine opsC_moveA hS rfl rfl (.inl rfl) ?_
    | refine opsC_moveA hS rfl rfl (.inr rfl) ?_
    | refine opsC_binA hS rfl rfl rfl rfl rfl rfl ?_
    | refine opsC_lenA hS rfl rfl rfl (by kernel_rfl) rfl ?_
    | (refine opsC_plain hS rfl rfl fun _ K hK => ?_; go_simp; refine hK _ (by simp [go_sem, events_cap_slice, events_slice_hi, *]) ?_; clear hK K; try walk_nrm)
  refine opsC_nil hS ?_
  show WpC _ _ _ _ _ _ _
  refine wpC_cond hS rfl ?_
  simp only [h1, decide_false, Bool.false_eq_true, if_false]
  refine wpC_skip hS ?_
  show WpC _ _ _ _ _ _ _
  refine wpC_seq hS ?_
  refine wpC_seq hS ?_
  refine wpC_region hS ?_
  simp only [List.size_toArray, List.length_cons, List.length_nil, Nat.reduceAdd, Nat.zero_add, List.range, List.range.loop]
  repeat (refine opsC_plain hS rfl rfl fun _ K hK => ?_; go_simp; refine hK _ (by simp [go_sem, events_cap_slice, events_slice_hi, *]) ?_; clear hK K; try walk_nrm)
  refine opsC_nil hS ?_
  show WpC _ _ _ _ _ _ _
  have ew : IntKind.i64.wrap ((n : Int) - IntKind.i64.wrap 0) = n := by
    have : IntKind.i64.wrap 0 = 0 := by decide
    rw [this, Int.sub_zero, IntKind.wrap_i64]; omega
  simp only [ew]
  refine wpC_seq hS ?_
  refine wpC_region hS ?_
  simp only [List.size_toArray, List.length_cons, List.length_nil, Nat.reduceAdd, Nat.zero_add, List.range, List.range.loop]
  repeat first
    | refine opsC_moveA hS rfl rfl (.inl rfl) ?_
    | refine opsC_moveA hS rfl rfl (.inr rfl) ?_
    | refine opsC_binA hS rfl rfl rfl rfl rfl rfl ?_
    | refine opsC_lenA hS rfl rfl rfl (by kernel_rfl) rfl ?_
    | (refine opsC_plain hS rfl rfl fun _ K hK => ?_; go_simp; refine hK _ (by simp [go_sem, events_cap_slice, events_slice_hi, *]) ?_; clear hK K; try walk_nrm)
  refine opsC_nil hS ?_
  show WpC _ _ _ _ _ _ _
  refine wpC_cond hS rfl ?_
  simp only [h2, decide_true, if_true]
  refine wpC_region hS ?_
  simp only [List.size_toArray, List.length_cons, List.length_nil, Nat.reduceAdd, Nat.zero_add, List.range, List.range.loop]
  repeat first
    | refine opsC_moveA hS rfl rfl (.inl rfl) ?_
    | refine opsC_moveA hS rfl rfl (.inr rfl) ?_
    | refine opsC_binA hS rfl rfl rfl rfl rfl rfl ?_
    | refine opsC_lenA hS rfl rfl rfl (by kernel_rfl) rfl ?_
    | (refine opsC_plain hS rfl rfl fun _ K hK => ?_; go_simp; refine hK _ (by simp [go_sem, events_cap_slice, events_slice_hi, *]) ?_; clear hK K; try walk_nrm)
  obtain ⟨i0, hi, hz0, hz1, hz2⟩ := info_parts infoI
  refine opsC_appzeros hS rfl rfl _ _ 23 3 rfl 3 i0 (.int .i64 0) .i64 .i64 Try.underlying23 Try.underlying3 hi hz0 hz1 (by rw [hz2]; decide) n h0 (by omega) rfl rfl ?_
  intro w₁ c w' h₁ hc hc63 hw'
  have hg : w₁.grownBy w' none := by rw [hw']; exact grownBy_drew (World.grownBy_alloc _ _ _)
  have hsz : w₁.heap.size < w'.heap.size := by rw [hw', World.size_alloc]; exact Nat.lt_succ_self _
  have hf : Fwd Sh w M w' ((M.1, grow M.2 w₁ w') : Gh ι) := (Fwd.refl Sh w M).grown h₁ hg (fun k hk => by cases hk) hM
  have ho : Own w' w.heap.size (.slice (some ⟨w₁.heap.size, 0, none⟩) 0 c) [] := by
    refine ⟨rfl, Or.inr ⟨w₁.heap.size, c, _, rfl, h₁.size, by rw [hw']; exact heap_alloc_new w₁.drew _, Nat.zero_le _, by unfold maxLen; omega, ?_, rfl⟩⟩
    simp [Builtin.zeroCells, Value.cells]
    omega
  have hm : grow M.2 w₁ w' w₁.heap.size := .inr ⟨Nat.le_refl _, hsz⟩
  clear hw' hg
  repeat first
    | refine opsC_moveA hS rfl rfl (.inl rfl) ?_
    | refine opsC_moveA hS rfl rfl (.inr rfl) ?_
    | refine opsC_binA hS rfl rfl rfl rfl rfl rfl ?_
    | refine opsC_lenA hS rfl rfl rfl (by kernel_rfl) rfl ?_
    | (refine opsC_plain hS rfl rfl fun _ K hK => ?_; go_simp; refine hK _ (by simp [go_sem, events_cap_slice, events_slice_hi, *]) ?_; clear hK K; try walk_nrm)
  refine opsC_nil hS ?_
  show WpC _ _ _ _ _ _ _
  refine wpC_seq hS ?_
  refine wpC_region hS ?_
  simp only [List.size_toArray, List.length_cons, List.length_nil, Nat.reduceAdd, Nat.zero_add, List.range, List.range.loop]
  repeat first
    | refine opsC_moveA hS rfl rfl (.inl rfl) ?_
    | refine opsC_moveA hS rfl rfl (.inr rfl) ?_
    | refine opsC_binA hS rfl rfl rfl rfl rfl rfl ?_
    | refine opsC_lenA hS rfl rfl rfl (by kernel_rfl) rfl ?_
    | (refine opsC_plain hS rfl rfl fun _ K hK => ?_; go_simp; refine hK _ (by simp [go_sem, events_cap_slice, events_slice_hi, *]) ?_; clear hK K; try walk_nrm)
  refine opsC_nil hS ?_
  show WpC _ _ _ _ _ _ _
  refine wpC_ret hS ⟨rfl, _, resultsC_tmp rfl _, ?_⟩
  exact ⟨hf, ho, fun k hk => by cases hk; exact hm, hM.grown h₁ (Nat.le_of_lt hsz)⟩

end Go.Proofs.Ytjphaphnmclbcaa

/- slices.Concat of two lists, for one of the two goroutines under way. No condition. -/
namespace Go.Proofs.Ytjphaphnmclbcaa
open Go Go.Conc Go.RowKit

/-- A list of one's own or shared that can be read. -/
structure SlC (Sh : Nat → Prop) {ι : Type} (w : World) (M : Gh ι) (ad : Addr) (n : Nat) (xs : List Int) : Prop where
  len : xs.length = n
  at_ : Sh ad.block ∨ M.2 ad.block
  cell : ∀ j u, (xs.map (Value.int .i64))[j]? = some u → w.cell? (ad.add j) = some u
theorem SlC.fwd {Sh : Nat → Prop} {ι : Type} {w w' : World} {M M' : Gh ι} {ad : Addr} {n : Nat} {xs : List Int} (h : SlC Sh w M ad n xs) (hf : Fwd Sh w M w' M') : SlC Sh w' M' ad n xs :=
  ⟨h.len, h.at_.imp id (hf.up _), fun j u hj => (cell_eq (by rw [addBlock]; exact hf.rl.keep _ h.at_)).trans (h.cell j u hj)⟩
theorem SlC.rely {Sh : Nat → Prop} {ι : Type} {w w₁ : World} {M : Gh ι} {ad : Addr} {n : Nat} {xs : List Int} (h : SlC Sh w M ad n xs) (hr : Rl Sh M.2 w w₁) : SlC Sh w₁ M ad n xs :=
  ⟨h.len, h.at_, fun j u hj => (cell_eq (by rw [addBlock]; exact hr.keep _ h.at_)).trans (h.cell j u hj)⟩

theorem Fwd.cell {Sh : Nat → Prop} {ι : Type} {w w' : World} {M M' : Gh ι} (hf : Fwd Sh w M w' M') {ad : Addr} (h : Sh ad.block ∨ M.2 ad.block) : w'.cell? ad = w.cell? ad := cell_eq (hf.rl.keep _ h)

/-- append(out, list...), out made in company. -/
theorem opsC_app_made {main : Bool} {Sh : Nat → Prop} {ι : Type} {C : Gh ι → Goroutine → World → Prop} {fn : FuncId} {Q : Exit → Act → World → Gh ι → Prop} {a : Act} {w w0 : World} {M M0 : Gh ι} (hS : Fam Try.prog main Sh C)
    {ops : Array Oper} {i : Nat} {rest : List Nat} {o : Oper} (ho : ops[i]? = some o) (hw : Region.wanted o (yielded ops a.tmps) = true) (s x : Operand)
    (hop : o.op = .call { callee := .builtin .append, args := #[s, x], argTypes := #[23, 23] }) (hM0 : There Sh w0 M0) {ys zs : List Int} {u : Value} (m : MadeC Sh w0 M0 ys u w M) (hs : a.eval s = u) {A : Addr} {n c : Nat} (hx : a.eval x = .slice (some A) n c)
    (hl : SlC Sh w M A n zs) (hlen : ys.length + n ≤ 2000000) (h : ∀ u' w' M', MadeC Sh w0 M0 (ys ++ zs) u' w' M' → OpsC C fn ops rest Q (a.put o.dst u') w' M') : OpsC C fn ops (i :: rest) Q a w M := by
  obtain ⟨i0, hi, hz0, hz1, hz2⟩ := info_parts infoI
  refine opsC_append hS ho hw s x 23 hop w0.heap.size 3 i0 (.int .i64 0) Try.underlying23 hi hz0 hz1 (by rw [hz2]; decide) rfl u ys.length (ys.map (Value.int .i64)) hs m.own m.mine A n c (zs.map (Value.int .i64)) hx hl.at_
    (by rw [List.length_map]; exact hl.len) hl.cell (by intro v hv; obtain ⟨_, _, rfl⟩ := List.mem_map.1 hv; rfl) hlen m.fwd.rl.size ?_
  intro w₁ u' w' h₁ hown hk hg hm
  refine h u' w' _ ⟨m.fwd.grown h₁ hg (fun k hk => (World.ownsRow.lt m.own k hk).1) hM0, ?_, hm, m.there.grown h₁ hg.size⟩
  unfold Own
  rw [List.length_append, List.map_append, hl.len]
  exact hown

set_option linter.unusedSimpArgs false in
set_option maxHeartbeats 4000000 in
theorem concatC {main : Bool} {Sh : Nat → Prop} {ι : Type} {C : Gh ι → Goroutine → World → Prop} (hS : Fam Try.prog main Sh C) (w : World) (M : Gh ι) (hM : There Sh w M) (g : Nat) (hg : M.2 g) (A1 A2 : Addr) (n1 n2 c1 c2 : Nat) (xs ys : List Int)
    (hc1 : w.cell? ⟨g, 0, none⟩ = some (.slice (some A1) n1 c1)) (hc2 : w.cell? ⟨g, 1, none⟩ = some (.slice (some A2) n2 c2)) (h1 : SlC Sh w M A1 n1 xs) (h2 : SlC Sh w M A2 n2 ys) (hn1 : n1 ≤ 100) (hn2 : 0 < n2) (hn3 : n2 ≤ 100) :
    CallsC Try.prog C 111 #[.slice (some ⟨g, 0, none⟩) 2 2] w M (MadeC Sh w M (xs ++ ys)) := by
  refine callsC_of_wpC hS Try.func111 rfl ?_
  simp only [Try.ntmps111, List.size_toArray, List.length_cons, List.length_nil, Nat.reduceAdd, Nat.reduceSub, Array.replicate_succ,
     Array.replicate_zero, List.push_toArray, List.append_toArray, List.nil_append, List.cons_append]
  refine wpC_seq hS ?_
  refine wpC_region hS ?_
  simp only [List.size_toArray, List.length_cons, List.length_nil, Nat.reduceAdd, Nat.zero_add, List.range, List.range.loop]
  repeat first
    | refine opsC_moveA hS rfl rfl (.inl rfl) ?_
    | refine opsC_moveA hS rfl rfl (.inr rfl) ?_
    | refine opsC_binA hS rfl rfl rfl rfl rfl rfl ?_
    | refine opsC_lenA hS rfl rfl rfl (by kernel_rfl) rfl ?_
    | (refine opsC_plain hS rfl rfl fun _ K hK => ?_; go_simp; refine hK _ (by simp [go_sem, events_cap_slice, events_slice_hi, *]) ?_; clear hK K; try walk_nrm)
  refine opsC_nil hS ?_
  show WpC _ _ _ _ _ _ _
  refine wpC_seq hS ?_
  refine wpC_region hS ?_
  simp only [List.size_toArray, List.length_cons, List.length_nil, Nat.reduceAdd, Nat.zero_add, List.range, List.range.loop]
  repeat first
    | refine opsC_moveA hS rfl rfl (.inl rfl) ?_
    | refine opsC_moveA hS rfl rfl (.inr rfl) ?_
    | refine opsC_binA hS rfl rfl rfl rfl rfl rfl ?_
    | refine opsC_lenA hS rfl rfl rfl (by kernel_rfl) rfl ?_
    | (refine opsC_plain hS rfl rfl fun _ K hK => ?_; go_simp; refine hK _ (by simp [go_sem, events_cap_slice, events_slice_hi, *]) ?_; clear hK K; try walk_nrm)
  refine opsC_nil hS ?_
  show WpC _ _ _ _ _ _ _
  refine wpC_seq hS ?_
  refine wpC_seq hS ?_
  refine wpC_region hS ?_
  simp only [List.size_toArray, List.length_cons, List.length_nil, Nat.reduceAdd, Nat.zero_add, List.range, List.range.loop]
  repeat first
    | refine opsC_moveA hS rfl rfl (.inl rfl) ?_
    | refine opsC_moveA hS rfl rfl (.inr rfl) ?_
    | refine opsC_binA hS rfl rfl rfl rfl rfl rfl ?_
    | refine opsC_lenA hS rfl rfl rfl (by kernel_rfl) rfl ?_
    | (refine opsC_plain hS rfl rfl fun _ K hK => ?_; go_simp; refine hK _ (by simp [go_sem, events_cap_slice, events_slice_hi, *]) ?_; clear hK K; try walk_nrm)
  refine opsC_nil hS ?_
  show WpC _ _ _ _ _ _ _
  refine wpC_block hS ?_
  refine wpC_loop_of hS ?_
  have e1 : IntKind.i64.wrap (0 + (n1 : Int)) = n1 := by rw [IntKind.wrap_i64]; omega
  have e2 : IntKind.i64.wrap ((n1 : Int) + n2) = ((n1 + n2 : Nat) : Int) := by rw [IntKind.wrap_i64]; omega
  have w1 : IntKind.i64.wrap (0 + 1) = 1 := by decide
  have w3 : IntKind.i64.wrap 1 = 1 := by decide
  have w4 : IntKind.i64.wrap 2 = 2 := by decide
  have w2 : IntKind.i64.wrap (1 + 1) = 2 := by decide
  have l1 : ¬ ((n1 : Int) < 0) := by omega
  have l2 : ¬ (((n1 + n2 : Nat) : Int) < 0) := by omega
  refine loopC_round hS ?_
  refine wpC_seq hS ?_
  refine wpC_region hS ?_
  simp only [List.size_toArray, List.length_cons, List.length_nil, Nat.reduceAdd, Nat.zero_add, List.range, List.range.loop]
  repeat first
    | refine opsC_moveA hS rfl rfl (.inl rfl) ?_
    | refine opsC_moveA hS rfl rfl (.inr rfl) ?_
    | refine opsC_binA hS rfl rfl rfl rfl rfl rfl ?_
    | refine opsC_lenA hS rfl rfl rfl (by kernel_rfl) rfl ?_
    | (refine opsC_plain hS rfl rfl fun _ K hK => ?_; go_simp; refine hK _ (by simp [go_sem, events_cap_slice, events_slice_hi, *]) ?_; clear hK K; try walk_nrm)
  refine opsC_nil hS ?_
  show WpC _ _ _ _ _ _ _
  refine wpC_seq hS ?_
  refine wpC_cond (t := true) hS (by first | rfl | simp [*]) ?_
  simp only [if_true, if_false, Bool.false_eq_true]
  refine wpC_skip hS ?_
  show WpC _ _ _ _ _ _ _
  refine wpC_seq hS ?_
  refine wpC_block hS ?_
  refine wpC_seq hS ?_
  refine wpC_region hS ?_
  simp only [List.size_toArray, List.length_cons, List.length_nil, Nat.reduceAdd, Nat.zero_add, List.range, List.range.loop]
  (refine opsC_plain hS rfl rfl fun _ K hK => ?_; go_simp; refine hK _ (by simp [go_sem, events_cap_slice, events_slice_hi, *]) ?_; clear hK K; try walk_nrm)
  refine opsC_load hS rfl rfl rfl (by kernel_rfl) rfl (.inr hg) (hc1) ?_
  repeat first
    | refine opsC_moveA hS rfl rfl (.inl rfl) ?_
    | refine opsC_moveA hS rfl rfl (.inr rfl) ?_
    | refine opsC_binA hS rfl rfl rfl rfl rfl rfl ?_
    | refine opsC_lenA hS rfl rfl rfl (by kernel_rfl) rfl ?_
    | (refine opsC_plain hS rfl rfl fun _ K hK => ?_; go_simp; refine hK _ (by simp [go_sem, events_cap_slice, events_slice_hi, *]) ?_; clear hK K; try walk_nrm)
  refine opsC_nil hS ?_
  show WpC _ _ _ _ _ _ _
  refine wpC_seq hS ?_
  refine wpC_region hS ?_
  simp only [List.size_toArray, List.length_cons, List.length_nil, Nat.reduceAdd, Nat.zero_add, List.range, List.range.loop]
  repeat first
    | refine opsC_moveA hS rfl rfl (.inl rfl) ?_
    | refine opsC_moveA hS rfl rfl (.inr rfl) ?_
    | refine opsC_binA hS rfl rfl rfl rfl rfl rfl ?_
    | refine opsC_lenA hS rfl rfl rfl (by kernel_rfl) rfl ?_
    | (refine opsC_plain hS rfl rfl fun _ K hK => ?_; go_simp; refine hK _ (by simp [go_sem, events_cap_slice, events_slice_hi, *]) ?_; clear hK K; try walk_nrm)
  refine opsC_nil hS ?_
  show WpC _ _ _ _ _ _ _
  try simp only [e1]
  refine wpC_seq hS ?_
  refine wpC_region hS ?_
  simp only [List.size_toArray, List.length_cons, List.length_nil, Nat.reduceAdd, Nat.zero_add, List.range, List.range.loop]
  repeat first
    | refine opsC_moveA hS rfl rfl (.inl rfl) ?_
    | refine opsC_moveA hS rfl rfl (.inr rfl) ?_
    | refine opsC_binA hS rfl rfl rfl rfl rfl rfl ?_
    | refine opsC_lenA hS rfl rfl rfl (by kernel_rfl) rfl ?_
    | (refine opsC_plain hS rfl rfl fun _ K hK => ?_; go_simp; refine hK _ (by simp [go_sem, events_cap_slice, events_slice_hi, *]) ?_; clear hK K; try walk_nrm)
  refine opsC_nil hS ?_
  show WpC _ _ _ _ _ _ _
  refine wpC_cond (t := false) hS (by first | rfl | simp [*]) ?_
  simp only [if_true, if_false, Bool.false_eq_true]
  refine wpC_skip hS ?_
  show WpC _ _ _ _ _ _ _
  refine wpC_region hS ?_
  simp only [List.size_toArray, List.length_cons, List.length_nil, Nat.reduceAdd, Nat.zero_add, List.range, List.range.loop]
  repeat first
    | refine opsC_moveA hS rfl rfl (.inl rfl) ?_
    | refine opsC_moveA hS rfl rfl (.inr rfl) ?_
    | refine opsC_binA hS rfl rfl rfl rfl rfl rfl ?_
    | refine opsC_lenA hS rfl rfl rfl (by kernel_rfl) rfl ?_
    | (refine opsC_plain hS rfl rfl fun _ K hK => ?_; go_simp; refine hK _ (by simp [go_sem, events_cap_slice, events_slice_hi, *]) ?_; clear hK K; try walk_nrm)
  refine opsC_nil hS ?_
  show LoopC _ _ _ _ _ _ _
  try simp only [w1, w2, w3, w4]
  refine loopC_round hS ?_
  refine wpC_seq hS ?_
  refine wpC_region hS ?_
  simp only [List.size_toArray, List.length_cons, List.length_nil, Nat.reduceAdd, Nat.zero_add, List.range, List.range.loop]
  repeat first
    | refine opsC_moveA hS rfl rfl (.inl rfl) ?_
    | refine opsC_moveA hS rfl rfl (.inr rfl) ?_
    | refine opsC_binA hS rfl rfl rfl rfl rfl rfl ?_
    | refine opsC_lenA hS rfl rfl rfl (by kernel_rfl) rfl ?_
    | (refine opsC_plain hS rfl rfl fun _ K hK => ?_; go_simp; refine hK _ (by simp [go_sem, events_cap_slice, events_slice_hi, *]) ?_; clear hK K; try walk_nrm)
  refine opsC_nil hS ?_
  show WpC _ _ _ _ _ _ _
  refine wpC_seq hS ?_
  refine wpC_cond (t := true) hS (by first | rfl | simp [*]) ?_
  simp only [if_true, if_false, Bool.false_eq_true]
  refine wpC_skip hS ?_
  show WpC _ _ _ _ _ _ _
  refine wpC_seq hS ?_
  refine wpC_block hS ?_
  refine wpC_seq hS ?_
  refine wpC_region hS ?_
  simp only [List.size_toArray, List.length_cons, List.length_nil, Nat.reduceAdd, Nat.zero_add, List.range, List.range.loop]
  (refine opsC_plain hS rfl rfl fun _ K hK => ?_; go_simp; refine hK _ (by simp [go_sem, events_cap_slice, events_slice_hi, *]) ?_; clear hK K; try walk_nrm)
  refine opsC_load hS rfl rfl rfl (by kernel_rfl) rfl (.inr hg) (hc2) ?_
  repeat first
    | refine opsC_moveA hS rfl rfl (.inl rfl) ?_
    | refine opsC_moveA hS rfl rfl (.inr rfl) ?_
    | refine opsC_binA hS rfl rfl rfl rfl rfl rfl ?_
    | refine opsC_lenA hS rfl rfl rfl (by kernel_rfl) rfl ?_
    | (refine opsC_plain hS rfl rfl fun _ K hK => ?_; go_simp; refine hK _ (by simp [go_sem, events_cap_slice, events_slice_hi, *]) ?_; clear hK K; try walk_nrm)
  refine opsC_nil hS ?_
  show WpC _ _ _ _ _ _ _
  refine wpC_seq hS ?_
  refine wpC_region hS ?_
  simp only [List.size_toArray, List.length_cons, List.length_nil, Nat.reduceAdd, Nat.zero_add, List.range, List.range.loop]
  repeat first
    | refine opsC_moveA hS rfl rfl (.inl rfl) ?_
    | refine opsC_moveA hS rfl rfl (.inr rfl) ?_
    | refine opsC_binA hS rfl rfl rfl rfl rfl rfl ?_
    | refine opsC_lenA hS rfl rfl rfl (by kernel_rfl) rfl ?_
    | (refine opsC_plain hS rfl rfl fun _ K hK => ?_; go_simp; refine hK _ (by simp [go_sem, events_cap_slice, events_slice_hi, *]) ?_; clear hK K; try walk_nrm)
  refine opsC_nil hS ?_
  show WpC _ _ _ _ _ _ _
  try simp only [e2]
  refine wpC_seq hS ?_
  refine wpC_region hS ?_
  simp only [List.size_toArray, List.length_cons, List.length_nil, Nat.reduceAdd, Nat.zero_add, List.range, List.range.loop]
  repeat first
    | refine opsC_moveA hS rfl rfl (.inl rfl) ?_
    | refine opsC_moveA hS rfl rfl (.inr rfl) ?_
    | refine opsC_binA hS rfl rfl rfl rfl rfl rfl ?_
    | refine opsC_lenA hS rfl rfl rfl (by kernel_rfl) rfl ?_
    | (refine opsC_plain hS rfl rfl fun _ K hK => ?_; go_simp; refine hK _ (by simp [go_sem, events_cap_slice, events_slice_hi, *]) ?_; clear hK K; try walk_nrm)
  refine opsC_nil hS ?_
  show WpC _ _ _ _ _ _ _
  refine wpC_cond (t := false) hS (by first | rfl | simp [*]) ?_
  simp only [if_true, if_false, Bool.false_eq_true]
  refine wpC_skip hS ?_
  show WpC _ _ _ _ _ _ _
  refine wpC_region hS ?_
  simp only [List.size_toArray, List.length_cons, List.length_nil, Nat.reduceAdd, Nat.zero_add, List.range, List.range.loop]
  repeat first
    | refine opsC_moveA hS rfl rfl (.inl rfl) ?_
    | refine opsC_moveA hS rfl rfl (.inr rfl) ?_
    | refine opsC_binA hS rfl rfl rfl rfl rfl rfl ?_
    | refine opsC_lenA hS rfl rfl rfl (by kernel_rfl) rfl ?_
    | (refine opsC_plain hS rfl rfl fun _ K hK => ?_; go_simp; refine hK _ (by simp [go_sem, events_cap_slice, events_slice_hi, *]) ?_; clear hK K; try walk_nrm)
  refine opsC_nil hS ?_
  show LoopC _ _ _ _ _ _ _
  try simp only [w1, w2, w3, w4]
  refine loopC_round hS ?_
  refine wpC_seq hS ?_
  refine wpC_region hS ?_
  simp only [List.size_toArray, List.length_cons, List.length_nil, Nat.reduceAdd, Nat.zero_add, List.range, List.range.loop]
  repeat first
    | refine opsC_moveA hS rfl rfl (.inl rfl) ?_
    | refine opsC_moveA hS rfl rfl (.inr rfl) ?_
    | refine opsC_binA hS rfl rfl rfl rfl rfl rfl ?_
    | refine opsC_lenA hS rfl rfl rfl (by kernel_rfl) rfl ?_
    | (refine opsC_plain hS rfl rfl fun _ K hK => ?_; go_simp; refine hK _ (by simp [go_sem, events_cap_slice, events_slice_hi, *]) ?_; clear hK K; try walk_nrm)
  refine opsC_nil hS ?_
  show WpC _ _ _ _ _ _ _
  refine wpC_seq hS ?_
  refine wpC_cond (t := false) hS (by first | rfl | simp [*]) ?_
  simp only [if_true, if_false, Bool.false_eq_true]
  refine wpC_exit hS ?_
  show WpC _ _ _ _ _ _ _
  refine wpC_seq hS ?_
  refine wpC_region hS ?_
  simp only [List.size_toArray, List.length_cons, List.length_nil, Nat.reduceAdd, Nat.zero_add, List.range, List.range.loop]
  (refine opsC_plain hS rfl rfl fun _ K hK => ?_; go_simp; refine hK _ (by simp [go_sem, events_cap_slice, events_slice_hi, *]) ?_; clear hK K; try walk_nrm)
  refine opsC_callF hS rfl rfl rfl Try.func112 (by kernel_rfl) rfl (by simp only [List.map_toArray, List.map_cons, List.map_nil]; rfl) (growC hS (n1 + n2) (by omega) (by omega) w M hM) ?_
  intro u wz M2 m2
  repeat first
    | refine opsC_moveA hS rfl rfl (.inl rfl) ?_
    | refine opsC_moveA hS rfl rfl (.inr rfl) ?_
    | refine opsC_binA hS rfl rfl rfl rfl rfl rfl ?_
    | refine opsC_lenA hS rfl rfl rfl (by kernel_rfl) rfl ?_
    | (refine opsC_plain hS rfl rfl fun _ K hK => ?_; go_simp; refine hK _ (by simp [go_sem, events_cap_slice, events_slice_hi, *]) ?_; clear hK K; try walk_nrm)
  refine opsC_nil hS ?_
  show WpC _ _ _ _ _ _ _
  refine wpC_seq hS ?_
  refine wpC_seq hS ?_
  refine wpC_region hS ?_
  simp only [List.size_toArray, List.length_cons, List.length_nil, Nat.reduceAdd, Nat.zero_add, List.range, List.range.loop]
  repeat first
    | refine opsC_moveA hS rfl rfl (.inl rfl) ?_
    | refine opsC_moveA hS rfl rfl (.inr rfl) ?_
    | refine opsC_binA hS rfl rfl rfl rfl rfl rfl ?_
    | refine opsC_lenA hS rfl rfl rfl (by kernel_rfl) rfl ?_
    | (refine opsC_plain hS rfl rfl fun _ K hK => ?_; go_simp; refine hK _ (by simp [go_sem, events_cap_slice, events_slice_hi, *]) ?_; clear hK K; try walk_nrm)
  refine opsC_nil hS ?_
  show WpC _ _ _ _ _ _ _
  refine wpC_block hS ?_
  refine wpC_loop_of hS ?_
  refine loopC_round hS ?_
  refine wpC_seq hS ?_
  refine wpC_region hS ?_
  simp only [List.size_toArray, List.length_cons, List.length_nil, Nat.reduceAdd, Nat.zero_add, List.range, List.range.loop]
  repeat first
    | refine opsC_moveA hS rfl rfl (.inl rfl) ?_
    | refine opsC_moveA hS rfl rfl (.inr rfl) ?_
    | refine opsC_binA hS rfl rfl rfl rfl rfl rfl ?_
    | refine opsC_lenA hS rfl rfl rfl (by kernel_rfl) rfl ?_
    | (refine opsC_plain hS rfl rfl fun _ K hK => ?_; go_simp; refine hK _ (by simp [go_sem, events_cap_slice, events_slice_hi, *]) ?_; clear hK K; try walk_nrm)
  refine opsC_nil hS ?_
  show WpC _ _ _ _ _ _ _
  refine wpC_seq hS ?_
  refine wpC_cond (t := true) hS (by first | rfl | simp [*]) ?_
  simp only [if_true, if_false, Bool.false_eq_true]
  refine wpC_skip hS ?_
  show WpC _ _ _ _ _ _ _
  refine wpC_seq hS ?_
  refine wpC_block hS ?_
  refine wpC_seq hS ?_
  refine wpC_region hS ?_
  simp only [List.size_toArray, List.length_cons, List.length_nil, Nat.reduceAdd, Nat.zero_add, List.range, List.range.loop]
  (refine opsC_plain hS rfl rfl fun _ K hK => ?_; go_simp; refine hK _ (by simp [go_sem, events_cap_slice, events_slice_hi, *]) ?_; clear hK K; try walk_nrm)
  refine opsC_load hS rfl rfl rfl (by kernel_rfl) rfl (.inr (m2.fwd.up _ hg)) ((m2.fwd.cell (ad := ⟨g, 0, none⟩) (.inr hg)).trans hc1) ?_
  repeat first
    | refine opsC_moveA hS rfl rfl (.inl rfl) ?_
    | refine opsC_moveA hS rfl rfl (.inr rfl) ?_
    | refine opsC_binA hS rfl rfl rfl rfl rfl rfl ?_
    | refine opsC_lenA hS rfl rfl rfl (by kernel_rfl) rfl ?_
    | (refine opsC_plain hS rfl rfl fun _ K hK => ?_; go_simp; refine hK _ (by simp [go_sem, events_cap_slice, events_slice_hi, *]) ?_; clear hK K; try walk_nrm)
  refine opsC_nil hS ?_
  show WpC _ _ _ _ _ _ _
  refine wpC_region hS ?_
  simp only [List.size_toArray, List.length_cons, List.length_nil, Nat.reduceAdd, Nat.zero_add, List.range, List.range.loop]
  (refine opsC_plain hS rfl rfl fun _ K hK => ?_; go_simp; refine hK _ (by simp [go_sem, events_cap_slice, events_slice_hi, *]) ?_; clear hK K; try walk_nrm)
  (refine opsC_plain hS rfl rfl fun _ K hK => ?_; go_simp; refine hK _ (by simp [go_sem, events_cap_slice, events_slice_hi, *]) ?_; clear hK K; try walk_nrm)
  refine opsC_app_made hS rfl rfl _ _ rfl hM m2 rfl rfl (h1.fwd m2.fwd) (by simp; omega) ?_
  intro u3 wa M3 m3
  repeat first
    | refine opsC_moveA hS rfl rfl (.inl rfl) ?_
    | refine opsC_moveA hS rfl rfl (.inr rfl) ?_
    | refine opsC_binA hS rfl rfl rfl rfl rfl rfl ?_
    | refine opsC_lenA hS rfl rfl rfl (by kernel_rfl) rfl ?_
    | (refine opsC_plain hS rfl rfl fun _ K hK => ?_; go_simp; refine hK _ (by simp [go_sem, events_cap_slice, events_slice_hi, *]) ?_; clear hK K; try walk_nrm)
  refine opsC_nil hS ?_
  show WpC _ _ _ _ _ _ _
  refine wpC_region hS ?_
  simp only [List.size_toArray, List.length_cons, List.length_nil, Nat.reduceAdd, Nat.zero_add, List.range, List.range.loop]
  repeat first
    | refine opsC_moveA hS rfl rfl (.inl rfl) ?_
    | refine opsC_moveA hS rfl rfl (.inr rfl) ?_
    | refine opsC_binA hS rfl rfl rfl rfl rfl rfl ?_
    | refine opsC_lenA hS rfl rfl rfl (by kernel_rfl) rfl ?_
    | (refine opsC_plain hS rfl rfl fun _ K hK => ?_; go_simp; refine hK _ (by simp [go_sem, events_cap_slice, events_slice_hi, *]) ?_; clear hK K; try walk_nrm)
  refine opsC_nil hS ?_
  show LoopC _ _ _ _ _ _ _
  try simp only [w1, w2, w3, w4]
  refine loopC_round hS ?_
  refine wpC_seq hS ?_
  refine wpC_region hS ?_
  simp only [List.size_toArray, List.length_cons, List.length_nil, Nat.reduceAdd, Nat.zero_add, List.range, List.range.loop]
  repeat first
    | refine opsC_moveA hS rfl rfl (.inl rfl) ?_
    | refine opsC_moveA hS rfl rfl (.inr rfl) ?_
    | refine opsC_binA hS rfl rfl rfl rfl rfl rfl ?_
    | refine opsC_lenA hS rfl rfl rfl (by kernel_rfl) rfl ?_
    | (refine opsC_plain hS rfl rfl fun _ K hK => ?_; go_simp; refine hK _ (by simp [go_sem, events_cap_slice, events_slice_hi, *]) ?_; clear hK K; try walk_nrm)
  refine opsC_nil hS ?_
  show WpC _ _ _ _ _ _ _
  refine wpC_seq hS ?_
  refine wpC_cond (t := true) hS (by first | rfl | simp [*]) ?_
  simp only [if_true, if_false, Bool.false_eq_true]
  refine wpC_skip hS ?_
  show WpC _ _ _ _ _ _ _
  refine wpC_seq hS ?_
  refine wpC_block hS ?_
  refine wpC_seq hS ?_
  refine wpC_region hS ?_
  simp only [List.size_toArray, List.length_cons, List.length_nil, Nat.reduceAdd, Nat.zero_add, List.range, List.range.loop]
  (refine opsC_plain hS rfl rfl fun _ K hK => ?_; go_simp; refine hK _ (by simp [go_sem, events_cap_slice, events_slice_hi, *]) ?_; clear hK K; try walk_nrm)
  refine opsC_load hS rfl rfl rfl (by kernel_rfl) rfl (.inr (m3.fwd.up _ hg)) ((m3.fwd.cell (ad := ⟨g, 1, none⟩) (.inr hg)).trans hc2) ?_
  repeat first
    | refine opsC_moveA hS rfl rfl (.inl rfl) ?_
    | refine opsC_moveA hS rfl rfl (.inr rfl) ?_
    | refine opsC_binA hS rfl rfl rfl rfl rfl rfl ?_
    | refine opsC_lenA hS rfl rfl rfl (by kernel_rfl) rfl ?_
    | (refine opsC_plain hS rfl rfl fun _ K hK => ?_; go_simp; refine hK _ (by simp [go_sem, events_cap_slice, events_slice_hi, *]) ?_; clear hK K; try walk_nrm)
  refine opsC_nil hS ?_
  show WpC _ _ _ _ _ _ _
  refine wpC_region hS ?_
  simp only [List.size_toArray, List.length_cons, List.length_nil, Nat.reduceAdd, Nat.zero_add, List.range, List.range.loop]
  (refine opsC_plain hS rfl rfl fun _ K hK => ?_; go_simp; refine hK _ (by simp [go_sem, events_cap_slice, events_slice_hi, *]) ?_; clear hK K; try walk_nrm)
  (refine opsC_plain hS rfl rfl fun _ K hK => ?_; go_simp; refine hK _ (by simp [go_sem, events_cap_slice, events_slice_hi, *]) ?_; clear hK K; try walk_nrm)
  refine opsC_app_made hS rfl rfl _ _ rfl hM m3 rfl rfl (h2.fwd m3.fwd) (by simp [h1.len]; omega) ?_
  intro u4 wb M4 m4
  repeat first
    | refine opsC_moveA hS rfl rfl (.inl rfl) ?_
    | refine opsC_moveA hS rfl rfl (.inr rfl) ?_
    | refine opsC_binA hS rfl rfl rfl rfl rfl rfl ?_
    | refine opsC_lenA hS rfl rfl rfl (by kernel_rfl) rfl ?_
    | (refine opsC_plain hS rfl rfl fun _ K hK => ?_; go_simp; refine hK _ (by simp [go_sem, events_cap_slice, events_slice_hi, *]) ?_; clear hK K; try walk_nrm)
  refine opsC_nil hS ?_
  show WpC _ _ _ _ _ _ _
  refine wpC_region hS ?_
  simp only [List.size_toArray, List.length_cons, List.length_nil, Nat.reduceAdd, Nat.zero_add, List.range, List.range.loop]
  repeat first
    | refine opsC_moveA hS rfl rfl (.inl rfl) ?_
    | refine opsC_moveA hS rfl rfl (.inr rfl) ?_
    | refine opsC_binA hS rfl rfl rfl rfl rfl rfl ?_
    | refine opsC_lenA hS rfl rfl rfl (by kernel_rfl) rfl ?_
    | (refine opsC_plain hS rfl rfl fun _ K hK => ?_; go_simp; refine hK _ (by simp [go_sem, events_cap_slice, events_slice_hi, *]) ?_; clear hK K; try walk_nrm)
  refine opsC_nil hS ?_
  show LoopC _ _ _ _ _ _ _
  try simp only [w1, w2, w3, w4]
  refine loopC_round hS ?_
  refine wpC_seq hS ?_
  refine wpC_region hS ?_
  simp only [List.size_toArray, List.length_cons, List.length_nil, Nat.reduceAdd, Nat.zero_add, List.range, List.range.loop]
  repeat first
    | refine opsC_moveA hS rfl rfl (.inl rfl) ?_
    | refine opsC_moveA hS rfl rfl (.inr rfl) ?_
    | refine opsC_binA hS rfl rfl rfl rfl rfl rfl ?_
    | refine opsC_lenA hS rfl rfl rfl (by kernel_rfl) rfl ?_
    | (refine opsC_plain hS rfl rfl fun _ K hK => ?_; go_simp; refine hK _ (by simp [go_sem, events_cap_slice, events_slice_hi, *]) ?_; clear hK K; try walk_nrm)
  refine opsC_nil hS ?_
  show WpC _ _ _ _ _ _ _
  refine wpC_seq hS ?_
  refine wpC_cond (t := false) hS (by first | rfl | simp [*]) ?_
  simp only [if_true, if_false, Bool.false_eq_true]
  refine wpC_exit hS ?_
  show WpC _ _ _ _ _ _ _
  refine wpC_seq hS ?_
  refine wpC_region hS ?_
  simp only [List.size_toArray, List.length_cons, List.length_nil, Nat.reduceAdd, Nat.zero_add, List.range, List.range.loop]
  repeat first
    | refine opsC_moveA hS rfl rfl (.inl rfl) ?_
    | refine opsC_moveA hS rfl rfl (.inr rfl) ?_
    | refine opsC_binA hS rfl rfl rfl rfl rfl rfl ?_
    | refine opsC_lenA hS rfl rfl rfl (by kernel_rfl) rfl ?_
    | (refine opsC_plain hS rfl rfl fun _ K hK => ?_; go_simp; refine hK _ (by simp [go_sem, events_cap_slice, events_slice_hi, *]) ?_; clear hK K; try walk_nrm)
  refine opsC_nil hS ?_
  show WpC _ _ _ _ _ _ _
  refine wpC_ret hS ⟨rfl, _, resultsC_tmp rfl _, ?_⟩
  rw [List.nil_append] at m4
  exact m4

end Go.Proofs.Ytjphaphnmclbcaa

/- What a reckoning over all orders of at most seven values shows. No condition. -/
namespace Go.Proofs.Ytjphaphnmclbcaa

set_option maxRecDepth 100000 in
theorem count_all : (allUpTo 7).all (fun xs => (List.range 7).all fun v => xs.count (v : Int) == if v < xs.length then 1 else 0) = true := by decide +kernel

theorem count_valid {xs : List Int} (hn : xs.length ≤ 7) (hr : ∀ j, j < xs.length → 0 ≤ el xs j ∧ el xs j < xs.length) :
    (∀ v : Nat, v < 7 → xs.count (v : Int) = if v < xs.length then 1 else 0) ↔ Valid xs := by
  constructor
  · intro h
    refine ⟨hn, fun j hj => (hr j hj).1, fun j hj => (hr j hj).2, fun i j hij hj e => ?_⟩
    have h2 := count_two hij hj e
    obtain ⟨v, hv⟩ := Int.eq_ofNat_of_zero_le (hr j hj).1
    have h3 := (hr j hj).2
    rw [hv] at h2 h3
    have := h v (by omega)
    rw [this] at h2
    split at h2 <;> omega
  · intro h v hv
    have := h.all count_all
    rw [List.all_eq_true] at this
    simpa using this v (by simpa using hv)

end Go.Proofs.Ytjphaphnmclbcaa

/- What the program answers when asked whether numbers are an order. No condition but that the list's cells can be read. -/
namespace Go.Proofs.Ytjphaphnmclbcaa
open Go.RowKit

theorem infoP : ∃ i, Try.prog.info? 3 = some i := by
  have h : (Try.prog.info? 3).isSome = true := by kernel_rfl
  exact Option.isSome_iff_exists.1 h
theorem cellsI : Try.prog.cellsOf 3 = 1 := by kernel_rfl

theorem counted {xs fs os : List Int} (hn : xs.length ≤ 7) (hr : ∀ j, j < xs.length → 0 ≤ el xs j ∧ el xs j < xs.length) (hf : fs.length = 7) (ho : os.length = 7)
    (hfc : ∀ v, v < 7 → el fs v = (xs.count (v : Int) : Nat)) (hoc : ∀ v, v < 7 → el os v = if v < xs.length then 1 else 0) : decide (fs = os) = decide (Valid xs) := by
  rw [decide_eq_decide, ← count_valid hn hr]
  constructor
  · intro e v hv
    have h1 := hfc v hv
    have h2 := hoc v hv
    rw [e, h2] at h1
    split at h1 <;> split <;> omega
  · intro h
    refine ext_el (by omega) (fun v hv => ?_)
    rw [hfc v (by omega), hoc v (by omega), h v (by omega)]
    split <;> rfl

theorem zeros : ∀ v, v < 7 → el [0, 0, 0, 0, 0, 0, 0] v = 0 := by decide

set_option maxHeartbeats 1000000 in
theorem validI_any (ao : Option Addr) (n cap : Nat) (xs : List Int) (w : World) (h : Sl w ao n cap xs) :
    Calls Try.prog 59 #[.slice ao n cap] w (Says w (.bool (decide (Valid xs)))) := by
  have hbig := h.big
  have hlen := hid h.len
  by_cases h7 : n ≤ 7
  · go_enter Try.func59, Try.ntmps59
    go_wp2
    go_loopw [12] (fun i wr => ∃ (k : Nat) (fs os : List Int), k ≤ n ∧ i = .int .i64 k ∧ Below w.heap.size w wr ∧ Arr wr w.heap.size 72 fs ∧ Arr wr (w.heap.size + 1) 72 os ∧ fs.length = 7 ∧ os.length = 7 ∧
        Hid (∀ j, j < k → 0 ≤ el xs j ∧ el xs j < n) ∧ Hid (∀ v, v < 7 → el fs v = ((xs.take k).count (v : Int) : Nat)) ∧ Hid (∀ v, v < 7 → el os v = if v < k then 1 else 0))
      (fun i _ => n - (intOf i).toNat)
    case atStart =>
      refine ⟨0, [0, 0, 0, 0, 0, 0, 0], [0, 0, 0, 0, 0, 0, 0], Nat.zero_le _, rfl, by go_grown, ?_, ?_, rfl, rfl, fun j hj => by omega, fun v hv => ?_, fun v hv => ?_⟩
      · exact (Arr.made w _ [0, 0, 0, 0, 0, 0, 0]).alloc _
      · have := Arr.made (w.alloc (.cells ([0, 0, 0, 0, 0, 0, 0].map (Value.int .i64)).toArray 72)) 72 [0, 0, 0, 0, 0, 0, 0]
        rwa [World.size_alloc] at this
      · rw [zeros v hv]; simp
      · rw [zeros v hv]; simp
    case round =>
      obtain ⟨k, fs, os, hk, rfl, hbr, hF, hO, hf7, ho7, hr, hfc, hoc⟩ := hrel
      have Hf7 := hid hf7
      have Ho7 := hid ho7
      by_cases hlt : k < n
      · obtain ⟨b, off, rfl, hblt, hc⟩ := h.row (by omega)
        have hcell := (hbr.cell (p := ⟨b, off + k, none⟩) hblt).trans (hc k hlt)
        clear hc
        by_cases hin : 0 ≤ el xs k ∧ el xs k < n
        · obtain ⟨v, hv⟩ := Int.eq_ofNat_of_zero_le hin.1
          have hvn : v < n := by omega
          rw [hv] at hcell
          have Hv := hid hv
          have hfb : el fs v ≤ 7 ∧ 0 ≤ el fs v := by
            rw [hfc.out v (by omega)]
            have := List.count_le_length (a := (v : Int)) (l := xs.take k)
            rw [List.length_take] at this
            omega
          have hcF := hF.cell (j := v) (by omega)
          have hfF := hF.frozen v
          have hcO := hO.cell (j := k) (by omega)
          have hfO := hO.frozen k
          have hcO' : (wr.setCell ⟨w.heap.size, v, none⟩ (.int .i64 (el fs v + 1))).cell? ⟨w.heap.size + 1, k, none⟩ = some (.int .i64 (el os k)) := (hO.other (by simp) _).cell (by omega)
          clear hf7 ho7 hv hin
          go_wp2
          go_roundw
          case rel =>
            refine ⟨k + 1, fs.set v (el fs v + 1), os.set k 1, by omega, by go_num, ?_, ?_, ?_, by simp [Hf7.out], by simp [Ho7.out], ?_, ?_, ?_⟩
            · exact (hbr.setCell (Nat.le_refl _) _).setCell (Nat.le_succ _) _
            · exact (hF.set v _).other (by simp) _
            · exact (hO.other (by simp) _).set k 1
            · exact upto_step hr.out ⟨by rw [Hv.out]; omega, by rw [Hv.out]; omega⟩
            · intro t ht
              rw [count_take (by rw [hlen.out]; exact hlt), Hv.out]
              have := hfc.out t ht
              by_cases e : v = t
              · subst e
                rw [el_set_same (by rw [Hf7.out]; exact ht), this]; simp
              · rw [el_set_ne e, this, if_neg (by omega)]; simp
            · intro t ht
              have := hoc.out t ht
              by_cases e : k = t
              · subst e
                rw [el_set_same (by rw [Ho7.out]; exact ht), if_pos (by omega)]
              · rw [el_set_ne e, this]
                split <;> split <;> omega
          case measure => simp [intOf]; omega
        · have hno : Hid (¬ Valid xs) := fun v => hin ⟨v.lo k (by rw [hlen.out]; exact hlt), by have := v.hi k (by rw [hlen.out]; exact hlt); rwa [hlen.out] at this⟩
          have Hin := hid hin
          clear hin
          by_cases h0 : el xs k < 0
          · go_wp2
            go_ret
            exact says_false hno.out hbr
          · have h1 : (n : Int) ≤ el xs k := by have := Hin.out; omega
            go_wp2
            go_ret
            exact says_false hno.out hbr
      · obtain rfl : k = n := by omega
        have hsF : (Try.prog.info? 72).map (·.size) = some (fs.map (Value.int .i64)).toArray.size := by
          have : (Try.prog.info? 72).map (·.size) = some 7 := by kernel_rfl
          rw [this]; simp [hf7]
        have hsO : (Try.prog.info? 72).map (·.size) = some (os.map (Value.int .i64)).toArray.size := by rw [hsF]; simp [hf7, ho7]
        obtain ⟨ip, hip⟩ := infoP
        have hE := fun w => run_eql_arr (P := Try.prog) w 72 3 7 fs os Try.underlying72 hip cellsI Try.underlying3 hf7 ho7
        clear hf7 ho7
        go_wp2_with (first
          | (refine wpList_load_row rfl 72 (.tmp 3) rfl w.heap.size rfl 72 _ (0, 0) _ hF Try.underlying72 rfl hsF ?_)
          | (refine wpList_load_row rfl 72 (.tmp 4) rfl (w.heap.size + 1) rfl 72 _ (0, 0) _ hO Try.underlying72 rfl hsO ?_))
        go_ret
        refine says_bool (counted (by rw [hlen.out]; exact h7) (fun j hj => ?_) Hf7.out Ho7.out (fun v hv => ?_) (fun v hv => ?_)) hbr
        · rw [hlen.out] at hj ⊢
          exact hr.out j hj
        · have := hfc.out v hv
          rwa [List.take_of_length_le (Nat.le_of_eq hlen.out)] at this
        · rw [hlen.out]; exact hoc.out v hv
  · go_enter Try.func59, Try.ntmps59
    go_wp2
    go_ret
    exact says_false (fun v => h7 (by have := v.len; rw [hlen.out] at this; exact this)) (Below.refl _ _)
end Go.Proofs.Ytjphaphnmclbcaa

/- The program's functions of one order that make a list: InverseOrder, TurnOrder, OppositeOrder, RisingOrder. Condition: the list's cells can be read. -/
namespace Go.Proofs.Ytjphaphnmclbcaa
open Go.RowKit
end Go.Proofs.Ytjphaphnmclbcaa

/- What the program and its model answer when asked whether numbers are an order: both say so exactly if they are. No condition but that the list's cells can be read. -/
namespace Go.Proofs.Ytjphaphnmclbcaa
open Go.RowKit

set_option maxHeartbeats 1000000 in
theorem validS_any (ao : Option Addr) (n cap : Nat) (xs : List Int) (w : World) (h : Sl w ao n cap xs) :
    Calls Try.prog 64 #[.slice ao n cap] w (Says w (.bool (decide (Valid xs)))) := by
  have hbig := h.big
  have hlen := hid h.len
  go_enter Try.func64, Try.ntmps64
  go_wp2
  go_loopw [3] (fun i wr => ∃ (k : Nat), k ≤ n ∧ i = .int .i64 k ∧ Below w.heap.size w wr ∧ Hid (∀ j, j < k → 0 ≤ el xs j ∧ el xs j < n ∧ ∀ t, t < j → el xs t ≠ el xs j))
    (fun i _ => n - (intOf i).toNat)
  case atStart => exact ⟨0, Nat.zero_le _, rfl, Below.refl _ _, fun j hj => by omega⟩
  case round =>
    obtain ⟨k, hk, rfl, hbr, hm⟩ := hrel
    by_cases hlt : k < n
    · obtain ⟨b, off, rfl, hblt, hc⟩ := h.row (by omega)
      have hcell := (hbr.cell (p := ⟨b, off + k, none⟩) hblt).trans (hc k hlt)
      by_cases hr : 0 ≤ el xs k ∧ el xs k ≤ (n : Int) - 1
      · obtain ⟨hr0, hr1⟩ := hr
        have hcc := hid hc
        clear hc
        go_wp2
        obtain ⟨wo, hwo⟩ : ∃ wo : World, wo = wr := ⟨_, rfl⟩
        subst hwo
        go_loopw [4] (fun i wr => ∃ (j : Nat), j ≤ k ∧ i = .int .i64 j ∧ Below w.heap.size w wr ∧ Hid (∀ t, t < j → el xs t ≠ el xs k))
          (fun i _ => k - (intOf i).toNat)
        case atStart => exact ⟨0, Nat.zero_le _, rfl, hbr, fun j hj => by omega⟩
        case round =>
          obtain ⟨j, hj, rfl, hbr2, hm2⟩ := hrel
          have hcellk := (hbr2.cell (p := ⟨b, off + k, none⟩) hblt).trans (hcc.out k hlt)
          by_cases hjlt : j < k
          · have hcell2 := (hbr2.cell (p := ⟨b, off + j, none⟩) hblt).trans (hcc.out j (by omega))
            have hi1 : (k : Int) < n := by omega
            have hi2 : (j : Int) < n := by omega
            go_wp2
            go_quiet (fail)
            go_wp2
            · have he : (el xs j == el xs k) = true := by assumption
              go_ret
              exact says_false (fun v => v.ne j k hjlt (by rw [hlen.out]; exact hlt) (not_ne he)) (drewN_below hbr2 _)
            · have he : (el xs j == el xs k) = false := by assumption
              go_roundw
              case rel => exact ⟨j + 1, by omega, by go_num, drewN_below hbr2 _, upto_step hm2.out (is_ne he)⟩
              case measure => simp [intOf]; omega
          · obtain rfl : j = k := by omega
            go_wp2
            go_roundw
            case rel => exact ⟨j + 1, by omega, by go_num, hbr2, upto_step hm.out ⟨hr0, by omega, hm2.out⟩⟩
            case measure => simp [intOf]; omega
      · have hno : Hid (¬ Valid xs) := fun v => hr ⟨v.lo k (by rw [hlen.out]; exact hlt), by have := v.hi k (by rw [hlen.out]; exact hlt); rw [hlen.out] at this; omega⟩
        have hnr := hid hr
        clear hc
        by_cases hr0 : 0 ≤ el xs k
        · have hr1 : ¬ el xs k ≤ (n : Int) - 1 := fun e => hnr.out ⟨hr0, e⟩
          clear hr
          go_wp2
          go_ret
          exact says_false hno.out hbr
        · clear hr
          go_wp2
          go_ret
          exact says_false hno.out hbr
    · obtain rfl : k = n := by omega
      go_wp2
      go_ret
      refine says_bool (decide_eq_decide.2 ⟨fun h7 => ⟨by rw [hlen.out]; omega, fun j hj => (hm.out j (by rw [hlen.out] at hj; exact hj)).1, fun j hj => ?_, fun i j hij hj => (hm.out j (by rw [hlen.out] at hj; exact hj)).2.2 i hij⟩, fun v => ?_⟩) hbr
      · rw [hlen.out] at hj ⊢
        exact (hm.out j hj).2.1
      · have := v.len
        rw [hlen.out] at this
        omega
end Go.Proofs.Ytjphaphnmclbcaa

/- The model's functions of one order that make a list: rising, RisingOrder, inverse, InverseOrder, turned, TurnOrder, OppositeOrder. Condition: the list's cells can be read. -/
namespace Go.Proofs.Ytjphaphnmclbcaa
open Go.RowKit

theorem own_lit (w : World) : Own (w.alloc (.cells #[] 3)) w.heap.size (.slice (some ⟨w.heap.size, 0, none⟩) 0 0) [] :=
  World.ownsRow_lit w #[] 0 (Nat.le_refl _) (Nat.zero_le _) rfl

theorem own_lit_at {w : World} {B : Nat} (hB : B ≤ w.heap.size) : Own (w.alloc (.cells #[] 3)) B (.slice (some ⟨w.heap.size, 0, none⟩) 0 0) [] := (own_lit w).mono hB

end Go.Proofs.Ytjphaphnmclbcaa

/- Rows of numbers: products of polynomials, and rows that are made from them. No condition. -/
namespace Go.Proofs.Ytjphaphnmclbcaa

/-- All numbers lie between 0 and M. -/
def Bd (zs : List Int) (M : Int) : Prop := ∀ j, 0 ≤ el zs j ∧ el zs j ≤ M
theorem el_over {zs : List Int} {j : Nat} (h : zs.length ≤ j) : el zs j = 0 := by simp [el, List.getD, h]
theorem Bd.of {zs : List Int} {M : Int} (hM : 0 ≤ M) (h : zs.all (fun x => decide (0 ≤ x) && decide (x ≤ M)) = true) : Bd zs M := fun j => by
  by_cases hj : j < zs.length
  · have := List.all_eq_true.1 h _ (el_mem hj)
    simpa using this
  · rw [el_over (by omega)]; omega
theorem Bd.zero (n : Nat) : Bd (List.replicate n 0) 0 := fun j => by
  have : el (List.replicate n 0) j = 0 := by
    by_cases hj : j < n
    · simp [el, hj]
    · exact el_over (by simp; omega)
  omega
theorem Bd.mono {zs : List Int} {M N : Int} (h : Bd zs M) (hN : M ≤ N) : Bd zs N := fun j => ⟨(h j).1, Int.le_trans (h j).2 hN⟩

/-- One number is added at place j. -/
def addAt (zs : List Int) (j : Nat) (v : Int) : List Int := zs.set j (el zs j + v)
theorem addAt_len (zs : List Int) (j : Nat) (v : Int) : (addAt zs j v).length = zs.length := List.length_set
theorem Bd.add {zs : List Int} {M c v : Int} (h : Bd zs M) (j : Nat) (h0 : 0 ≤ v) (h1 : v ≤ c) : Bd (addAt zs j v) (M + c) := fun i => by
  have hi := h i
  by_cases e : j = i
  · subst e
    by_cases hl : j < zs.length
    · rw [addAt, el_set_same hl]; omega
    · rw [addAt, List.set_eq_of_length_le (by omega)]; omega
  · rw [addAt, el_set_ne e]; omega

/-- The first t products of row i are added; the products of the first i rows. -/
def muR (a b : List Int) (i : Nat) (zs : List Int) : Nat → List Int
  | 0 => zs
  | t + 1 => addAt (muR a b i zs t) (i + t) (el a i * el b t)
def muP (a b : List Int) : Nat → List Int
  | 0 => List.replicate (a.length + b.length - 1) 0
  | i + 1 => muR a b i (muP a b i) b.length
def mul (a b : List Int) : List Int := muP a b a.length
theorem muR_len (a b : List Int) (i : Nat) (zs : List Int) (t : Nat) : (muR a b i zs t).length = zs.length := by
  induction t with
  | zero => rfl
  | succ t ih => rw [muR, addAt_len, ih]
theorem muP_len (a b : List Int) (i : Nat) : (muP a b i).length = a.length + b.length - 1 := by
  induction i with
  | zero => simp [muP]
  | succ i ih => rw [muP, muR_len, ih]
theorem mul_len (a b : List Int) : (mul a b).length = a.length + b.length - 1 := muP_len _ _ _
theorem prod_bd {x y A B : Int} (hx : 0 ≤ x ∧ x ≤ A) (hy : 0 ≤ y ∧ y ≤ B) : 0 ≤ x * y ∧ x * y ≤ A * B :=
  ⟨Int.mul_nonneg hx.1 hy.1, Int.mul_le_mul hx.2 hy.2 hy.1 (by omega)⟩
theorem muR_bd {a b zs : List Int} {M : Int} (ha : Bd a 10000) (hb : Bd b 10) (i : Nat) (h : Bd zs M) : ∀ t, Bd (muR a b i zs t) (M + t * 100000) := by
  intro t
  induction t with
  | zero => simpa [muR] using h
  | succ t ih =>
    have hp := prod_bd (ha i) (hb t)
    have := ih.add (i + t) hp.1 hp.2
    rw [muR]
    refine this.mono ?_
    omega
theorem muP_bd {a b : List Int} (ha : Bd a 10000) (hb : Bd b 10) (h10 : b.length ≤ 10) : ∀ i, Bd (muP a b i) (i * 1000000) := by
  intro i
  induction i with
  | zero => simpa [muP] using Bd.zero _
  | succ i ih =>
    rw [muP]
    refine (muR_bd ha hb i ih b.length).mono ?_
    omega

/-- The product of x, x + 1, .., x + n - 1. -/
def cir : Nat → List Int
  | 0 => [1]
  | n + 1 => mul (cir n) [(n : Int), 1]
theorem cir_fits : ∀ n : Nat, n < 8 → (cir n).all (fun x => decide (0 ≤ x) && decide (x ≤ 10000)) = true ∧ (cir n).length = n + 1 := by decide
theorem cir_bd {n : Nat} (h : n ≤ 7) : Bd (cir n) 10000 := Bd.of (by omega) (cir_fits n (by omega)).1
theorem cir_len {n : Nat} (h : n ≤ 7) : (cir n).length = n + 1 := (cir_fits n (by omega)).2
theorem two_bd {n : Nat} (h : n ≤ 7) : Bd [(n : Int), 1] 10 := Bd.of (by omega) (by simp; omega)

/-- Rows of ones, and their product. -/
def onesL (k : Nat) : List Int := List.replicate k 1
def prw : Nat → List Int
  | 0 => [1]
  | n + 1 => mul (prw n) (onesL (n + 1))
theorem prw_fits : ∀ n : Nat, n < 8 → (prw n).all (fun x => decide (0 ≤ x) && decide (x ≤ 10000)) = true ∧ (prw n).length ≤ 22 ∧ 0 < (prw n).length := by decide
theorem prw_bd {n : Nat} (h : n ≤ 7) : Bd (prw n) 10000 := Bd.of (by omega) (prw_fits n (by omega)).1
theorem onesL_bd (k : Nat) : Bd (onesL k) 10 := Bd.of (by omega) (by simp [onesL])
theorem prw_one : prw 1 = [1] := by decide

/-- How many orders have each number of descents: the first t numbers of a row are given on. -/
def euR (row : List Int) (m : Nat) : Nat → List Int
  | 0 => List.replicate m 0
  | t + 1 => addAt (addAt (euR row m t) t (el row t * ((t : Int) + 1))) (t + 1) (el row t * ((m : Int) - t - 1))
/-- The row of n + 1 values. -/
def eu : Nat → List Int
  | 0 => [1]
  | n + 1 => euR (eu n) (n + 2) (n + 1)
theorem euR_len (row : List Int) (m t : Nat) : (euR row m t).length = m := by
  induction t with
  | zero => simp [euR]
  | succ t ih => rw [euR, addAt_len, addAt_len, ih]
theorem eu_len (n : Nat) : (eu n).length = n + 1 := by
  cases n with
  | zero => rfl
  | succ n => rw [eu, euR_len]
theorem eu_fits : ∀ n : Nat, n < 7 → (eu n).all (fun x => decide (0 ≤ x) && decide (x ≤ 10000)) = true := by decide
theorem eu_bd {n : Nat} (h : n ≤ 6) : Bd (eu n) 10000 := Bd.of (by omega) (eu_fits n (by omega))
theorem euR_bd {row : List Int} {m : Nat} (hr : Bd row 10000) (hm : m ≤ 7) : ∀ t, t < m → Bd (euR row m t) (t * 200000) := by
  intro t
  induction t with
  | zero => intro _; simpa [euR] using Bd.zero _
  | succ t ih =>
    intro ht
    have h1 := prod_bd (hr t) (B := 10) (y := (t : Int) + 1) ⟨by omega, by omega⟩
    have h2 := prod_bd (hr t) (B := 10) (y := (m : Int) - t - 1) ⟨by omega, by omega⟩
    rw [euR]
    refine (((ih (by omega)).add t h1.1 h1.2).add (t + 1) h2.1 h2.2).mono ?_
    omega
/-- The row of n values. -/
def euler (n : Nat) : List Int := eu (n - 1)

end Go.Proofs.Ytjphaphnmclbcaa

/- Products of rows of numbers, and the rows of circles and of descents, in the program and in its model. Conditions: of products: few small numbers, at least one on each side. -/
namespace Go.Proofs.Ytjphaphnmclbcaa
open Go.RowKit

theorem own_list (w : World) (ys : List Int) (B : Nat) (hB : B ≤ w.heap.size) (hl : ys.length ≤ 1000) : Own (w.alloc (.cells (ys.map (Value.int .i64)).toArray 3)) B (.slice (some ⟨w.heap.size, 0, none⟩) ys.length ys.length) ys :=
  World.ownsRow_lit w (ys.map (Value.int .i64)).toArray ys.length hB (by unfold maxLen; omega) (by simp)
theorem own_one (w : World) (x : Int) (B : Nat) (hB : B ≤ w.heap.size) : Own (w.alloc (.cells #[.int .i64 x] 3)) B (.slice (some ⟨w.heap.size, 0, none⟩) 1 1) [x] := own_list w [x] B hB (by simp)
theorem own_two (w : World) (x y : Int) (B : Nat) (hB : B ≤ w.heap.size) : Own (w.alloc (.cells #[.int .i64 x, .int .i64 y] 3)) B (.slice (some ⟨w.heap.size, 0, none⟩) 2 2) [x, y] := own_list w [x, y] B hB (by simp)

set_option maxRecDepth 20000 in
set_option maxHeartbeats 2000000 in
theorem timesI_any (ao : Option Addr) (n cap : Nat) (xs : List Int) (bo : Option Addr) (m cap2 : Nat) (ys : List Int) (w : World) (h : Sl w ao n cap xs) (g : Sl w bo m cap2 ys) (hn : 0 < n) (hm : 0 < m) (hn3 : n ≤ 30) (hm1 : m ≤ 10) (hx : Hid (Bd xs 10000)) (hy : Hid (Bd ys 10)) :
    Calls Try.prog 88 #[.slice ao n cap, .slice bo m cap2] w (Made w (mul xs ys)) := by
  have hlen := hid h.len
  have glen := hid g.len
  obtain ⟨b, off, rfl, hblt, hc⟩ := h.row hn
  obtain ⟨b2, off2, rfl, hblt2, hc2⟩ := g.row hm
  have hcc := hid hc
  have hcc2 := hid hc2
  clear hc hc2
  have hbig := h.big
  have hbig2 := g.big
  obtain ⟨s, hs⟩ : ∃ s, s = n + m - 1 := ⟨_, rfl⟩
  have Hs := hid hs
  have hz1 : ((n : Int) == 0) = false := by simp; omega
  have hz2 : ((m : Int) == 0) = false := by simp; omega
  clear hs
  go_enter Try.func88, Try.ntmps88
  go_wp2_with (at_make; refine make_ints _ rfl _ _ rfl _ _ s rfl rfl (by have := Hs.out; omega) (by have := Hs.out; omega) (by have := Hs.out; omega) ?_)
  intro w2 ho2 hb2
  go_wp2
  go_loopw [19] (fun i wr => ∃ (k : Nat) (zs : List Int), k ≤ n ∧ i = .int .i64 k ∧ Below w.heap.size w wr ∧ OwS wr w.heap.size w.heap.size s s zs ∧ Hid (zs = muP xs ys k))
    (fun i _ => n - (intOf i).toNat)
  case atStart => exact ⟨0, _, Nat.zero_le _, rfl, hb2, ho2, hid (by rw [muP, hlen.out, glen.out, ← Hs.out])⟩
  case round =>
    obtain ⟨k, zs, hk, rfl, hbr, hr, hz⟩ := hrel
    by_cases hlt : k < n
    · have hcell := (hbr.cell (p := ⟨b, off + k, none⟩) hblt).trans (hcc.out k hlt)
      have hi1 : (k : Int) < n := by omega
      go_wp2
      obtain ⟨wo, hwo⟩ : ∃ wo : World, wo = wr := ⟨_, rfl⟩
      subst hwo
      go_loopw [26] (fun j wr => ∃ (t : Nat) (zs : List Int), t ≤ m ∧ j = .int .i64 t ∧ Below w.heap.size w wr ∧ OwS wr w.heap.size w.heap.size s s zs ∧ Hid (zs = muR xs ys k (muP xs ys k) t))
        (fun j _ => m - (intOf j).toNat)
      case atStart => exact ⟨0, zs, Nat.zero_le _, rfl, hbr, hr, hz⟩
      case round =>
        obtain ⟨t, zs, ht, rfl, hbr, hr, hz⟩ := hrel
        by_cases htl : t < m
        · have hcell := (hbr.cell (p := ⟨b, off + k, none⟩) hblt).trans (hcc.out k hlt)
          have hcell2 := (hbr.cell (p := ⟨b2, off2 + t, none⟩) hblt2).trans (hcc2.out t htl)
          have hp := prod_bd (hx.out k) (hy.out t)
          have hbz := muR_bd hx.out hy.out k (muP_bd hx.out hy.out (by rw [glen.out]; omega) k) t (k + t)
          rw [← hz.out] at hbz
          have hz1 := hbz.1
          have hz2 : el zs (k + t) ≤ 100000000 := by have := hbz.2; omega
          have hp1 := hp.1
          have hp2 : el xs k * el ys t ≤ 100000 := hp.2
          obtain ⟨pr, hpr⟩ : ∃ pr, pr = el xs k * el ys t := ⟨_, rfl⟩
          rw [← hpr] at hp1 hp2
          have hw : wrap64 (el xs k * el ys t) = pr := by rw [← hpr]; exact IntWalk.wrap64_in _ ⟨by omega, by omega⟩
          have hi2 : (t : Int) < m := by omega
          have hi3 : (k : Int) + t < s := by have := Hs.out; omega
          have hkt : k + t < s := by have := Hs.out; omega
          have hzl := hid hr.len
          have hfr := hr.frozen (k + t)
          have hcur := hr.cell hkt
          have Hpr := hid hpr
          clear hbz hp hpr
          go_wp2
          go_roundw
          case rel =>
            refine ⟨t + 1, _, by omega, by go_num, hbr.setCell (Nat.le_refl _) _, hr.set (k + t) (el zs (k + t) + pr), ?_⟩
            show zs.set (k + t) _ = addAt _ (k + t) _
            rw [addAt, ← hz.out, ← Hpr.out]
          case measure => simp [intOf]; omega
        · obtain rfl : t = m := by omega
          go_wp2
          go_roundw
          case rel => exact ⟨k + 1, zs, by omega, by go_num, hbr, hr, by rw [muP, glen.out]; exact hz.out⟩
          case measure => simp [intOf]; omega
    · obtain rfl : k = n := by omega
      go_wp2
      go_ret
      refine ⟨_, rfl, ?_, hbr⟩
      rw [mul, hlen.out, ← hz.out]
      exact hr.own

set_option maxRecDepth 20000 in
set_option maxHeartbeats 2000000 in
theorem timesS_any (ao : Option Addr) (n cap : Nat) (xs : List Int) (bo : Option Addr) (m cap2 : Nat) (ys : List Int) (w : World) (h : Sl w ao n cap xs) (g : Sl w bo m cap2 ys) (hn : 0 < n) (hm : 0 < m) (hn3 : n ≤ 30) (hm1 : m ≤ 10) (hx : Hid (Bd xs 10000)) (hy : Hid (Bd ys 10)) :
    Calls Try.prog 102 #[.slice ao n cap, .slice bo m cap2] w (Made w (mul xs ys)) := by
  have hlen := hid h.len
  have glen := hid g.len
  obtain ⟨b, off, rfl, hblt, hc⟩ := h.row hn
  obtain ⟨b2, off2, rfl, hblt2, hc2⟩ := g.row hm
  have hcc := hid hc
  have hcc2 := hid hc2
  clear hc hc2
  have hbig := h.big
  have hbig2 := g.big
  obtain ⟨s, hs⟩ : ∃ s, s = n + m - 1 := ⟨_, rfl⟩
  have Hs := hid hs
  have hz1 : ((n : Int) == 0) = false := by simp; omega
  have hz2 : ((m : Int) == 0) = false := by simp; omega
  clear hs
  go_enter Try.func102, Try.ntmps102
  go_wp2_with (at_make; refine make_ints _ rfl _ _ rfl _ _ s rfl rfl (by have := Hs.out; omega) (by have := Hs.out; omega) (by have := Hs.out; omega) ?_)
  intro w2 ho2 hb2
  go_wp2
  go_loopw [6] (fun i wr => ∃ (k : Nat) (zs : List Int), k ≤ n ∧ i = .int .i64 k ∧ Below w.heap.size w wr ∧ OwS wr w.heap.size w.heap.size s s zs ∧ Hid (zs = muP xs ys k))
    (fun i _ => n - (intOf i).toNat)
  case atStart => exact ⟨0, _, Nat.zero_le _, rfl, hb2, ho2, hid (by rw [muP, hlen.out, glen.out, ← Hs.out])⟩
  case round =>
    obtain ⟨k, zs, hk, rfl, hbr, hr, hz⟩ := hrel
    by_cases hlt : k < n
    · have hcell := (hbr.cell (p := ⟨b, off + k, none⟩) hblt).trans (hcc.out k hlt)
      have hi1 : (k : Int) < n := by omega
      go_wp2
      obtain ⟨wo, hwo⟩ : ∃ wo : World, wo = wr := ⟨_, rfl⟩
      subst hwo
      go_loopw [7] (fun j wr => ∃ (t : Nat) (zs : List Int), t ≤ m ∧ j = .int .i64 t ∧ Below w.heap.size w wr ∧ OwS wr w.heap.size w.heap.size s s zs ∧ Hid (zs = muR xs ys k (muP xs ys k) t))
        (fun j _ => m - (intOf j).toNat)
      case atStart => exact ⟨0, zs, Nat.zero_le _, rfl, hbr, hr, hz⟩
      case round =>
        obtain ⟨t, zs, ht, rfl, hbr, hr, hz⟩ := hrel
        by_cases htl : t < m
        · have hcell := (hbr.cell (p := ⟨b, off + k, none⟩) hblt).trans (hcc.out k hlt)
          have hcell2 := (hbr.cell (p := ⟨b2, off2 + t, none⟩) hblt2).trans (hcc2.out t htl)
          have hp := prod_bd (hx.out k) (hy.out t)
          have hbz := muR_bd hx.out hy.out k (muP_bd hx.out hy.out (by rw [glen.out]; omega) k) t (k + t)
          rw [← hz.out] at hbz
          have hz1 := hbz.1
          have hz2 : el zs (k + t) ≤ 100000000 := by have := hbz.2; omega
          have hp1 := hp.1
          have hp2 : el xs k * el ys t ≤ 100000 := hp.2
          obtain ⟨pr, hpr⟩ : ∃ pr, pr = el xs k * el ys t := ⟨_, rfl⟩
          rw [← hpr] at hp1 hp2
          have hw : wrap64 (el xs k * el ys t) = pr := by rw [← hpr]; exact IntWalk.wrap64_in _ ⟨by omega, by omega⟩
          have hi2 : (t : Int) < m := by omega
          have hi3 : (k : Int) + t < s := by have := Hs.out; omega
          have hkt : k + t < s := by have := Hs.out; omega
          have hzl := hid hr.len
          have hfr := hr.frozen (k + t)
          have hcur := hr.cell hkt
          have Hpr := hid hpr
          clear hbz hp hpr
          have hi0 : 0 ≤ (k : Int) + t := by omega
          have htn : ((k : Int) + t).toNat = k + t := by omega
          have hwk : IntKind.i64.wrap ((k : Int) + t) = (k : Int) + t := IntWalk.i64_in _ ⟨by omega, by omega⟩
          have hwp : IntKind.i64.wrap (el xs k * el ys t) = pr := (IntWalk.i64_left _).trans hw
          have hws : IntKind.i64.wrap (el zs (k + t) + pr) = el zs (k + t) + pr := IntWalk.i64_in _ ⟨by omega, by omega⟩
          go_wp2_with fail
          refine wp_region_still_tail 21 (by kernel_rfl) (by kernel_rfl) ?_
          simp only [List.take_succ_cons, List.take_zero, List.drop_succ_cons, List.drop_zero]
          change wpStill _ _ (World.drew _) _ _ _
          repeat still_step
          refine wpStill_nil ?_
          change wpList _ _ _ _ _ (World.drew _)
          go_wp2
          go_roundw
          case rel =>
            refine ⟨t + 1, _, by omega, by go_num, (drewN_below hbr _).setCell (Nat.le_refl _) _, hr.set (k + t) (el zs (k + t) + pr), ?_⟩
            show zs.set (k + t) _ = addAt _ (k + t) _
            rw [addAt, ← hz.out, ← Hpr.out]
          case measure => simp [intOf]; omega
        · obtain rfl : t = m := by omega
          go_wp2
          go_roundw
          case rel => exact ⟨k + 1, zs, by omega, by go_num, hbr, hr, by rw [muP, glen.out]; exact hz.out⟩
          case measure => simp [intOf]; omega
    · obtain rfl : k = n := by omega
      go_wp2
      go_ret
      refine ⟨_, rfl, ?_, hbr⟩
      rw [mul, hlen.out, ← hz.out]
      exact hr.own

end Go.Proofs.Ytjphaphnmclbcaa

