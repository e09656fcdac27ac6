/- Words for slices of texts: one that is read, one that a call has made; append of a text. No condition. -/
import Derived.Test.YtaceiebmgnhdgaaGreatDoorApp2
namespace Go.Proofs.YtaceiebmgnhdgaaGreatDoor
open Go.RowKit

/-- Text j of a list. -/
def elt (ss : List ByteArray) (j : Nat) : ByteArray := ss.getD j ⟨#[]⟩
theorem elt_lt {ss : List ByteArray} {j : Nat} (h : j < ss.length) : elt ss j = ss[j] := by simp [elt, h]
theorem infoT : (Tryz.prog.info? 9).map (fun i => (i.zero, i.size, i.bytes)) = some (some (.string ⟨#[]⟩), 1, 16) := by kernel_rfl

/-- The slice value with address ao, length n and capacity cap reads as the texts xs. -/
structure SlT (w : World) (ao : Option Addr) (n cap : Nat) (xs : List ByteArray) : Prop where
  len : xs.length = n
  le : n ≤ cap
  max : cap ≤ maxLen
  row : 0 < n → ∃ b off, ao = some ⟨b, off, none⟩ ∧ b < w.heap.size ∧ ∀ j, j < n → w.cell? ⟨b, off + j, none⟩ = some (.string (elt xs j))

/-- What a call has made: the slice value u owns the texts ys, in a block from B on. -/
def OwnT (w : World) (B : Nat) (u : Value) (ys : List ByteArray) : Prop := w.ownsRow B 9 1 u ys.length (ys.map (Value.string))

/-- The same with its place known: block g, length n, capacity cap. -/
def OwST (w : World) (B g n cap : Nat) (ys : List ByteArray) : Prop := w.ownsRow B 9 1 (.slice (some ⟨g, 0, none⟩) n cap) n (ys.map (Value.string))

theorem OwST.len {w : World} {B g n cap : Nat} {ys : List ByteArray} (h : OwST w B g n cap ys) : ys.length = n := by
  have := h.1
  simpa using this

theorem OwST.own {w : World} {B g n cap : Nat} {ys : List ByteArray} (h : OwST w B g n cap ys) : OwnT w B (.slice (some ⟨g, 0, none⟩) n cap) ys := by
  have := h.len
  subst this
  exact h

theorem OwST.cell {w : World} {B g n cap : Nat} {ys : List ByteArray} (h : OwST w B g n cap ys) {j : Nat} (hj : j < n) : w.cell? ⟨g, j, none⟩ = some (.string (elt ys j)) := by
  have h1 := World.ownsRow.cellAt h j (by omega)
  rw [h1]
  have := h.len
  simp [elt, show j < ys.length by omega]

theorem OwST.frozen {w : World} {B g n cap : Nat} {ys : List ByteArray} (h : OwST w B g n cap ys) (j : Nat) : w.frozen? ⟨g, j, none⟩ = false := World.ownsRow.frozenAt h j

theorem OwST.set {w : World} {B g n cap : Nat} {ys : List ByteArray} (h : OwST w B g n cap ys) (j : Nat) (v : ByteArray) : OwST (w.setCell ⟨g, j, none⟩ (.string v)) B g n cap (ys.set j v) := by
  have := (World.ownsRow.stored h j (.string v)).1
  rwa [← List.map_set] at this

theorem OwST.lt {w : World} {B g n cap : Nat} {ys : List ByteArray} (h : OwST w B g n cap ys) : B ≤ g ∧ g < w.heap.size := World.ownsRow.lt h g rfl

theorem OwST.sl {w : World} {B g n cap : Nat} {ys : List ByteArray} (h : OwST w B g n cap ys) : SlT w (some ⟨g, 0, none⟩) n cap ys := by
  have h0 := h
  rcases h.2 with ⟨h1, _⟩ | ⟨g', cap', cur, hv, hB, hg, h1, h2, h3, h4⟩
  · simp at h1
  · simp only [Value.slice.injEq, Option.some.injEq, Addr.mk.injEq, and_true, true_and] at hv
    obtain ⟨rfl, rfl⟩ := hv
    exact ⟨h.len, h1, h2, fun _ => ⟨g, 0, rfl, h0.lt.2, fun j hj => by rw [Nat.zero_add]; exact h0.cell hj⟩⟩

theorem OwST.drewN {w : World} {B g n cap : Nat} {ys : List ByteArray} (h : OwST w B g n cap ys) (m : Nat) : OwST (w.drewN m) B g n cap ys := h

/-- A store into another block. -/
theorem OwST.other {w : World} {B g n cap : Nat} {ys : List ByteArray} (h : OwST w B g n cap ys) {a : Addr} (ha : a.block ≠ g) (v : Value) : OwST (w.setCell a v) B g n cap ys := by
  refine ⟨h.1, ?_⟩
  rcases h.2 with ⟨h1, _⟩ | ⟨g', cap', cur, hv, hB, hg, r⟩
  · simp at h1
  · have : g' = g := by simp at hv; omega
    subst this
    exact Or.inr ⟨g', cap', cur, hv, hB, by rw [Below.heap_setCell _ _ _ _ (by omega)]; exact hg, r⟩

theorem SlT.later {w w' : World} {ao : Option Addr} {n cap : Nat} {xs : List ByteArray} (h : SlT w ao n cap xs) (hb : Below w.heap.size w w') : SlT w' ao n cap xs := by
  refine ⟨h.len, h.le, h.max, fun hn => ?_⟩
  obtain ⟨b, off, rfl, hlt, hc⟩ := h.row hn
  exact ⟨b, off, rfl, Nat.lt_of_lt_of_le hlt hb.size, fun j hj => (hb.cell hlt).trans (hc j hj)⟩

theorem SlT.below {B : Nat} {w w' : World} {ao : Option Addr} {n cap : Nat} {xs : List ByteArray} (h : SlT w ao n cap xs) (hB : w.heap.size ≤ B) (hb : Below B w w') : SlT w' ao n cap xs := h.later (hb.mono hB)

theorem SlT.nil {w : World} : SlT w none 0 0 [] := ⟨rfl, Nat.le_refl _, Nat.zero_le _, fun h => by omega⟩

theorem SlT.big {w : World} {ao : Option Addr} {n cap : Nat} {xs : List ByteArray} (h : SlT w ao n cap xs) : n ≤ 9223372036854775807 := by
  have := h.le
  have := h.max
  unfold maxLen at this
  omega

theorem OwnT.place {w : World} {B : Nat} {u : Value} {ys : List ByteArray} (h : OwnT w B u ys) : (u = .slice none 0 0 ∧ ys = []) ∨ ∃ g cap, u = .slice (some ⟨g, 0, none⟩) ys.length cap ∧ OwST w B g ys.length cap ys := by
  have h0 := h
  rcases h.2 with ⟨rfl, h2⟩ | ⟨g, cap, cur, rfl, hB, hg, h1, h2, h3, h4⟩
  · exact Or.inl ⟨rfl, List.eq_nil_of_length_eq_zero h2⟩
  · exact Or.inr ⟨g, cap, rfl, h0⟩

theorem OwnT.sl {w : World} {B : Nat} {u : Value} {ys : List ByteArray} (h : OwnT w B u ys) : ∃ ao cap, u = .slice ao ys.length cap ∧ SlT w ao ys.length cap ys := by
  rcases h.place with ⟨rfl, rfl⟩ | ⟨g, cap, rfl, h1⟩
  · exact ⟨none, 0, rfl, SlT.nil⟩
  · exact ⟨_, cap, rfl, h1.sl⟩

theorem OwnT.read {w : World} {B : Nat} {ao : Option Addr} {n cap : Nat} {ys : List ByteArray} (h : OwnT w B (.slice ao n cap) ys) : SlT w ao n cap ys := by
  rcases h.place with ⟨e, rfl⟩ | ⟨g, cap', e, h1⟩
  · simp only [Value.slice.injEq] at e
    obtain ⟨rfl, rfl, rfl⟩ := e
    exact SlT.nil
  · simp only [Value.slice.injEq] at e
    obtain ⟨rfl, rfl, rfl⟩ := e
    exact h1.sl

theorem OwnT.nilcap {w : World} {B : Nat} {ao : Option Addr} {n cap : Nat} {ys : List ByteArray} (h : OwnT w B (.slice ao n cap) ys) : ao = none → cap = 0 := by
  rintro rfl
  rcases h.place with ⟨e, rfl⟩ | ⟨g, cap', e, h1⟩
  · simp only [Value.slice.injEq] at e
    exact e.2.2
  · simp at e

theorem OwnT.below {B B' : Nat} {w w' : World} {u : Value} {ys : List ByteArray} (h : OwnT w B u ys) (hB : w.heap.size ≤ B') (hb : Below B' w w') : OwnT w' B u ys := by
  refine ⟨h.1, ?_⟩
  rcases h.2 with h2 | ⟨g, cap, cur, hv, hg, hh, r⟩
  · exact Or.inl h2
  · exact Or.inr ⟨g, cap, cur, hv, hg, (hb.block g (Nat.lt_of_lt_of_le (Array.getElem?_eq_some_iff.1 hh).1 hB)).trans hh, r⟩

theorem OwnT.mono {B B' : Nat} {w : World} {u : Value} {ys : List ByteArray} (h : OwnT w B u ys) (hB : B' ≤ B) : OwnT w B' u ys := by
  refine ⟨h.1, ?_⟩
  rcases h.2 with h2 | ⟨g, cap, cur, hv, hg, r⟩
  · exact Or.inl h2
  · exact Or.inr ⟨g, cap, cur, hv, Nat.le_trans hB hg, r⟩

theorem OwnT.drewN {w : World} {B : Nat} {u : Value} {ys : List ByteArray} (h : OwnT w B u ys) (m : Nat) : OwnT (w.drewN m) B u ys := h

theorem OwnT.nil {w : World} {B : Nat} : OwnT w B (.slice none 0 0) [] := World.ownsRow_nil _ _ _ _

theorem OwnT.kept {w w' : World} {B : Nat} {u : Value} {ys : List ByteArray} {row : Option Nat} (h : OwnT w B u ys) (hg : w.grownBy w' row) (hne : u.ownBlock = none ∨ u.ownBlock ≠ row) : OwnT w' B u ys := World.ownsRow.kept h hg hne
theorem OwnT.blocks {w : World} {B : Nat} {u : Value} {ys : List ByteArray} (h : OwnT w B u ys) : ∀ k, u.ownBlock = some k → B ≤ k ∧ k < w.heap.size := World.ownsRow.lt h

theorem OwnT.low {w : World} {B B' : Nat} {u : Value} {ys : List ByteArray} (h : OwnT w B u ys) (hB : B' ≤ B) : OwnT w B' u ys := h.mono hB
theorem ownT_lit (w : World) : OwnT (w.alloc (.cells #[] 9)) w.heap.size (.slice (some ⟨w.heap.size, 0, none⟩) 0 0) [] :=
  World.ownsRow_lit w #[] 0 (Nat.le_refl _) (Nat.zero_le _) rfl
theorem below_appT {w wr w' : World} {u : Value} {ys : List ByteArray} (hb : Below w.heap.size w wr) (ho : OwnT wr w.heap.size u ys) (hg : wr.grownBy w' u.ownBlock) : Below w.heap.size w w' :=
  hb.grown hg hb.size (fun k hk => (ho.blocks k hk).1)
/-- A call made a slice of the texts ys, and turned nothing that was there. -/
def MadeS (w : World) (ys : List ByteArray) (e : Ending) (w' : World) : Prop := ∃ u, e = .returned u ∧ OwnT w' w.heap.size u ys ∧ Below w.heap.size w w'
theorem says_tos {P : Program} {f : FuncId} {a : Array Value} {w : World} {v v' : ByteArray} (h : Calls P f a w (Says w (.string v))) (e : v = v') : Calls P f a w (Says w (.string v')) := e ▸ h

/-- append(out, v), out the call's own: with the block. -/
theorem app_str2 (w : World) (v : ByteArray) {ops : Array Oper} {rest : List Oper} {o : Oper} {a : Act} {Q : Exit → Act → World → Prop}
    (hg : o.guard = none) (s x : Operand) (hop : o.op = Op.call { callee := Callee.builtin Builtin.append, args := #[s, x], argTypes := #[23, 23] })
    (B : Nat) (u : Value) (ys : List ByteArray) (hs : a.eval s = u) (hown : OwnT w B u ys) (hx : a.eval x = .slice (some ⟨w.heap.size, 0, none⟩) 1 1) (hlen : ys.length ≤ 2000000) (hB : B ≤ w.heap.size)
    (hK : ∀ u' w', OwnT w' B u' (ys ++ [v]) → w.grownBy w' u.ownBlock → (u'.ownBlock = u.ownBlock ∨ u'.ownBlock = some (w.heap.size + 1)) → wpList Tryz.prog ops Q rest (a.put o.dst u') w') :
    wpList Tryz.prog ops Q (o :: rest) a (w.alloc (.cells #[.string v] 9)) := by
  obtain ⟨i0, hi, hz0, hz1, hz2⟩ := info_parts infoT
  refine wpList_plain hg fun _ hK' => wp_app2 (P := Tryz.prog) _ s x 23 hop B 9 i0 (.string ⟨#[]⟩) Tryz.underlying23 hi hz0 hz1 (by rw [hz2]; decide) rfl u ys.length _ hs (World.ownsRow.alloc hown _) ⟨w.heap.size, 0, none⟩ 1 (.string v) hx ?_ rfl hlen ?_ ?_
  · simp
  · simp; omega
  · intro v' w' hown' hgrow hk
    refine hK' _ _ (hK v' w' ?_ (grown_trans (World.grownBy_alloc w _ _) hgrow) ?_)
    · unfold OwnT
      rw [List.length_append, List.map_append]
      exact hown'
    · rcases hk with hk | hk
      · exact Or.inl hk
      · exact Or.inr (by rw [hk]; simp)

end Go.Proofs.YtaceiebmgnhdgaaGreatDoor
