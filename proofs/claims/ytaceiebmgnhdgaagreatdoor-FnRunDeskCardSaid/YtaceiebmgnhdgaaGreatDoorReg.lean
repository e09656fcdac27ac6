/- Appends in statements whose order of evaluation is open: the law of one append as one step, and how facts on lists fare over the steps. No condition. -/
import Derived.Test.YtaceiebmgnhdgaaGreatDoorBnd
import Derived.Deep.RegionLaw
namespace Go.Proofs.YtaceiebmgnhdgaaGreatDoor
open Go.RowKit

theorem Own.alloc {w : World} {B : Nat} {u : Value} {ys : List Int} (h : Own w B u ys) (o : Obj) : Own (w.alloc o) B u ys := World.ownsRow.alloc h o
theorem Own.drew {w : World} {B : Nat} {u : Value} {ys : List Int} (h : Own w B u ys) : Own w.drew B u ys := h
theorem Sl.drew {w : World} {ao : Option Addr} {n cap : Nat} {xs : List Int} (h : Sl w ao n cap xs) : Sl w.drew ao n cap xs := ⟨h.len, h.le, h.max, h.row⟩
theorem Sl.alloc {w : World} {ao : Option Addr} {n cap : Nat} {xs : List Int} (h : Sl w ao n cap xs) (o : Obj) : Sl (w.alloc o) ao n cap xs := h.later ((Below.refl _ _).alloc (Nat.le_refl _) o)
theorem Sl.new (w : World) (x : Int) : Sl (w.alloc (.cells #[.int .i64 x] 3)) (some ⟨w.heap.size, 0, none⟩) 1 1 [x] :=
  ⟨rfl, Nat.le_refl _, by unfold maxLen; omega, fun _ => ⟨_, _, rfl, by simp, fun j hj => by
    obtain rfl : j = 0 := by omega
    simp [el]⟩⟩
theorem Sl.grown {w w' : World} {g n cap : Nat} {xs : List Int} {row : Option Nat} (h : Sl w (some ⟨g, 0, none⟩) n cap xs) (hg : w.grownBy w' row) (hr : row ≠ some g) : Sl w' (some ⟨g, 0, none⟩) n cap xs := by
  refine ⟨h.len, h.le, h.max, fun hn => ?_⟩
  obtain ⟨b, off, he, hlt, hc⟩ := h.row hn
  simp only [Option.some.injEq, Addr.mk.injEq, and_true] at he
  obtain ⟨rfl, rfl⟩ := he
  exact ⟨_, _, rfl, Nat.lt_of_lt_of_le hlt hg.size, fun j hj => hg.cell (hc j hj) (fun e => hr e.symm)⟩

theorem Sl.take {w : World} {ao : Option Addr} {n cap k : Nat} {xs : List Int} (h : Sl w ao n cap xs) (hk : k ≤ n) : Sl w ao k cap (xs.take k) := by
  refine ⟨by rw [List.length_take, h.len]; omega, by have := h.le; omega, h.max, fun hn => ?_⟩
  obtain ⟨b, off, rfl, hlt, hc⟩ := h.row (by omega)
  refine ⟨b, off, rfl, hlt, fun j hj => ?_⟩
  rw [hc j (by omega)]
  simp [el, hj]
theorem Sl.dropIf {w : World} {ao : Option Addr} {n cap k : Nat} {xs : List Int} (h : Sl w ao n cap xs) (hk : k ≤ n) : Sl w (if cap = k then ao else Option.map (fun x => x.add k) ao) (n - k) (cap - k) (xs.drop k) := by
  refine ⟨by rw [List.length_drop, h.len], by have := h.le; omega, by have := h.max; omega, fun hn => ?_⟩
  obtain ⟨b, off, rfl, hlt, hc⟩ := h.row (by omega)
  rw [if_neg (by have := h.le; omega)]
  refine ⟨b, off + k, by rw [Option.map_some, Addr.add_lit], hlt, fun j hj => ?_⟩
  rw [Nat.add_assoc, hc (k + j) (by omega)]
  simp [el]
theorem drop_nil {ao : Option Addr} {cap k : Nat} (h : ao = none → cap = 0) : (if cap = k then ao else Option.map (fun x => x.add k) ao) = none → cap - k = 0 := by
  intro e
  split at e
  · have := h e; omega
  · rw [Option.map_eq_none_iff] at e
    have := h e; omega

/-- append(s, x...) as one step of a region. -/
theorem step_app {ops : Array Oper} {o : Oper} {a : Act} {w : World} {K : Act → World → Prop} {Q : Exit → Act → World → Prop} {E : Prop}
    (hg : o.guard = none) (s x : Operand) (hop : o.op = Op.call { callee := Callee.builtin Builtin.append, args := #[s, x], argTypes := #[35, 35] })
    (W0 : World) (u : Value) (ys : List Int) (hs : a.eval s = u) (hown : Own w W0.heap.size u ys) (ao : Option Addr) (n cap : Nat) (xs : List Int) (hx : a.eval x = .slice ao n cap) (hsl : Sl w ao n cap xs) (hnil : ao = none → cap = 0)
    (hlen : ys.length + n ≤ 2000000) (hb : Below W0.heap.size W0 w)
    (hK : ∀ u' w', Own w' W0.heap.size u' (ys ++ xs) → w.grownBy w' u.ownBlock → Below W0.heap.size W0 w' → K (a.put o.dst u') w') :
    if Region.wanted o (yielded ops a.tmps) = true then Oper.wp Tryz.prog o a w K Q else E := by
  have hw : Region.wanted o (yielded ops a.tmps) = true := by simp [Region.wanted, hg]
  rw [if_pos hw]
  obtain ⟨i0, hi, hz0, hz1, hz2⟩ := info_parts infoI
  have hl := hsl.len
  have hB := hb.size
  cases ao with
  | none =>
    have hn : n = 0 := by
      rcases Nat.eq_zero_or_pos n with h | h
      · exact h
      · obtain ⟨b, off, hb, _⟩ := hsl.row h
        cases hb
    subst hn
    have hc := hnil rfl
    subst hc
    have hxs : xs = [] := List.eq_nil_of_length_eq_zero hl
    subst hxs
    have hrun := run_append_owned_none (P := Tryz.prog) (w := w) W0.heap.size 35 o.type 3 i0 1 Tryz.underlying35 hi u ys.length _ hown
    unfold Oper.wp
    simp [execOp, hop, resolve, invoke, builtin, hs, hx, hrun, Result.andThen]
    exact hK u w (by rw [List.append_nil]; exact hown) (World.grownBy.refl _ _) hb
  | some ad =>
    have hnews : ∀ j t, (xs.map (Value.int .i64))[j]? = some t → w.cell? (ad.add j) = some t := by
      intro j t hj
      have hjn : j < n := by
        have := (List.getElem?_eq_some_iff.1 hj).1
        rw [List.length_map, hl] at this; exact this
      obtain ⟨b, off, hb, _, hc⟩ := hsl.row (by omega)
      obtain rfl := Option.some.inj hb
      rw [Addr.add_lit, hc j hjn]
      rw [List.getElem?_map, List.getElem?_eq_getElem (by omega)] at hj
      rw [el_lt (by omega)]
      exact hj
    obtain ⟨v', w', hrun, hown', hgrow, _⟩ := run_append_own (P := Tryz.prog) w W0.heap.size 35 o.type 3 i0 (.int .i64 0) 1 8 Tryz.underlying35 hi hz0 hz1 hz2 rfl (by decide) u ys.length _ hown ad n cap (xs.map (Value.int .i64)) (by simp [hl]) hnews (ints_oneCell _ _) (by unfold maxLen; omega) (by omega) hB
    unfold Oper.wp
    simp [execOp, hop, resolve, invoke, builtin, hs, hx, hrun, Result.andThen]
    refine hK v' w' ?_ hgrow (hb.grown hgrow hB (fun k hk => (hown.blocks k hk).1))
    unfold Own
    rw [List.length_append, List.map_append, hl]
    exact hown'

end Go.Proofs.YtaceiebmgnhdgaaGreatDoor
