/- The walk's laws for the lists of numbers that the functions make: make, append of one number, and lists that a step builds. No condition. -/
import Derived.Test.YtjgaglfinpeeoabDoorKit
import Derived.Test.YtjgaglfinpeeoabDoorMirror
import Derived.Test.YtjgaglfinpeeoabDoorChecked
namespace Go.Proofs.YtjgaglfinpeeoabDoor
open Go.RowKit

theorem infoI : (Tryd.prog.info? 3).map (fun i => (i.zero, i.size, i.bytes)) = some (some (.int .i64 0), 1, 8) := by kernel_rfl

/-- make([]int, n). -/
theorem make_ints (w : World) {ops : Array Oper} {rest : List Oper} {o : Oper} {a : Act} {Q : Exit → Act → World → Prop}
    (hg : o.guard = none) (l c : Operand) (hop : o.op = Op.makeSlice 23 l c) (L C : Int) (n : Nat) (hl : a.eval l = .int .i64 L) (hc : a.eval c = .int .i64 C) (hL : L = (n : Int)) (hC : C = (n : Int)) (hn : n ≤ 2000000)
    (hK : ∀ w', OwS w' w.heap.size w.heap.size n n (List.replicate n 0) → Below w.heap.size w w' → wpList Tryd.prog ops Q rest (a.put o.dst (.slice (some ⟨w.heap.size, 0, none⟩) n n)) w') :
    wpList Tryd.prog ops Q (o :: rest) a w := by
  obtain ⟨i0, hi, hz0, hz1, hz2⟩ := info_parts infoI
  refine wpList_make_full w hg l c 23 hop w.heap.size 3 i0 (.int .i64 0) 1 Tryd.underlying23 hi hz0 hz1 _ _ _ _ n hl hc hL hC (by rw [hz2]; omega) (by unfold maxLen; omega) (Nat.le_refl _) ?_
  intro w' hown hgrow
  refine hK w' ?_ ((Below.refl _ _).grown hgrow (Nat.le_refl _) (fun k hk => by simp at hk))
  unfold OwS
  have e : (madeCells (Value.cells (.int .i64 0)) (n * 1)).toList = (List.replicate n (0 : Int)).map (Value.int .i64) := by
    rw [Nat.mul_one, show Value.cells (.int .i64 0) = #[Value.int .i64 0] from rfl, toList_madeCells_one, List.map_replicate]
  rw [← e]; exact hown

/-- append(out, v), out the call's own. -/
theorem app_int (w : World) (v : Int) {ops : Array Oper} {rest : List Oper} {o : Oper} {a : Act} {Q : Exit → Act → World → Prop}
    (hg : o.guard = none) (s x : Operand) (hop : o.op = Op.call { callee := Callee.builtin Builtin.append, args := #[s, x], argTypes := #[23, 23] })
    (B : Nat) (u : Value) (ys : List Int) (hs : a.eval s = u) (hown : Own w B u ys) (hx : a.eval x = .slice (some ⟨w.heap.size, 0, none⟩) 1 1) (hlen : ys.length ≤ 2000000) (hB : B ≤ w.heap.size)
    (hK : ∀ u' w', Own w' B u' (ys ++ [v]) → w.grownBy w' u.ownBlock → wpList Tryd.prog ops Q rest (a.put o.dst u') w') :
    wpList Tryd.prog ops Q (o :: rest) a (w.alloc (.cells #[.int .i64 v] 3)) := by
  obtain ⟨i0, hi, hz0, hz1, hz2⟩ := info_parts infoI
  refine wpList_append_own _ hg s x 23 hop B 3 i0 (.int .i64 0) 1 8 Tryd.underlying23 hi hz0 hz1 hz2 rfl (by decide) u ys.length _ hs (World.ownsRow.alloc hown _) ⟨w.heap.size, 0, none⟩ 1 1 [.int .i64 v] hx rfl ?_ ?_ ?_ ?_ ?_ ?_
  · intro j t hj
    match j, hj with
    | 0, hj => simp at hj; subst hj; simp [Addr.add]
  · intro t ht; simp at ht; subst ht; rfl
  · unfold maxLen; omega
  · omega
  · simp; omega
  · intro v' w' hown' hgrow _
    refine hK v' w' ?_ (grown_trans (World.grownBy_alloc w _ _) hgrow)
    unfold Own
    rw [List.length_append, List.map_append]
    exact hown'

/-- append(out, p...), out the call's own, p whatever list of numbers. -/
theorem app_list (w : World) {ops : Array Oper} {rest : List Oper} {o : Oper} {a : Act} {Q : Exit → Act → World → Prop}
    (hg : o.guard = none) (s x : Operand) (hop : o.op = Op.call { callee := Callee.builtin Builtin.append, args := #[s, x], argTypes := #[23, 23] })
    (B : Nat) (u : Value) (ys : List Int) (hs : a.eval s = u) (hown : Own w B u ys) (ao : Option Addr) (n cap : Nat) (xs : List Int) (hx : a.eval x = .slice ao n cap) (hsl : Sl w ao n cap xs) (hnil : ao = none → cap = 0)
    (hlen : ys.length + n ≤ 2000000) (hB : B ≤ w.heap.size)
    (hK : ∀ u' w', Own w' B u' (ys ++ xs) → w.grownBy w' u.ownBlock → wpList Tryd.prog ops Q rest (a.put o.dst u') w') :
    wpList Tryd.prog ops Q (o :: rest) a w := by
  obtain ⟨i0, hi, hz0, hz1, hz2⟩ := info_parts infoI
  have hl := hsl.len
  cases ao with
  | none =>
    have hn : n = 0 := by
      rcases Nat.eq_zero_or_pos n with h | h
      · exact h
      · obtain ⟨b, off, hb, _⟩ := hsl.row h
        cases hb
    subst hn
    have hc := hnil rfl
    subst hc
    have hxs : xs = [] := List.eq_nil_of_length_eq_zero hl
    subst hxs
    refine wpList_append_own_none hg s x 23 hop B 3 i0 1 Tryd.underlying23 hi u ys.length _ hs hown hx ?_
    refine hK u w ?_ (World.grownBy.refl _ _)
    rw [List.append_nil]; exact hown
  | some ad =>
    refine wpList_append_own _ hg s x 23 hop B 3 i0 (.int .i64 0) 1 8 Tryd.underlying23 hi hz0 hz1 hz2 rfl (by decide) u ys.length _ hs hown ad n cap (xs.map (Value.int .i64)) hx (by simp [hl]) ?_ (ints_oneCell _ _) ?_ ?_ ?_ ?_
    · intro j t hj
      have hjn : j < n := by
        have := (List.getElem?_eq_some_iff.1 hj).1
        rw [List.length_map, hl] at this; exact this
      obtain ⟨b, off, hb, _, hc⟩ := hsl.row (by omega)
      obtain rfl := Option.some.inj hb
      rw [Addr.add_lit, hc j hjn]
      rw [List.getElem?_map, List.getElem?_eq_getElem (by omega)] at hj
      rw [el_lt (by omega)]
      exact hj
    · unfold maxLen; omega
    · omega
    · exact hB
    · intro v' w' hown' hgrow _
      refine hK v' w' ?_ hgrow
      unfold Own
      rw [List.length_append, List.map_append, hl]
      exact hown'

/-- make([]int, 0, n). -/
theorem make_cap (w : World) {ops : Array Oper} {rest : List Oper} {o : Oper} {a : Act} {Q : Exit → Act → World → Prop}
    (hg : o.guard = none) (l c : Operand) (hop : o.op = Op.makeSlice 23 l c) (C : Int) (n : Nat) (hl : a.eval l = .int .i64 0) (hc : a.eval c = .int .i64 C) (hC : C = (n : Int)) (hn : n ≤ 2000000)
    (hK : ∀ w', Own w' w.heap.size (.slice (some ⟨w.heap.size, 0, none⟩) 0 n) [] → Below w.heap.size w w' → wpList Tryd.prog ops Q rest (a.put o.dst (.slice (some ⟨w.heap.size, 0, none⟩) 0 n)) w') :
    wpList Tryd.prog ops Q (o :: rest) a w := by
  obtain ⟨i0, hi, hz0, hz1, hz2⟩ := info_parts infoI
  refine wpList_make_own w hg l c 23 hop w.heap.size 3 i0 (.int .i64 0) 1 Tryd.underlying23 hi hz0 hz1 _ _ _ n hl hc hC (by rw [hz2]; omega) (by unfold maxLen; omega) (Nat.le_refl _) ?_
  intro w' hown hgrow
  exact hK w' hown ((Below.refl _ _).grown hgrow (Nat.le_refl _) (fun k hk => by simp at hk))

end Go.Proofs.YtjgaglfinpeeoabDoor
