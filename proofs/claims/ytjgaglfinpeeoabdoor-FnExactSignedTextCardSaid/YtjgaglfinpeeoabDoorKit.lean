/- Words for what the walks say of memory: a slice of numbers that is read, a slice that a call has made, and how both fare in later worlds. No condition. -/
import Derived.WalkKit
import Derived.ProofKit
import Derived.Handy
import Derived.Outline
import Derived.WalkLawsBesides
import Derived.WalkSpells
import Derived.Deep.QuietTactic
import Derived.BigQuiet
import Derived.ChangeKeysEq
import Derived.Laws.AppendOwnNone
import Derived.Test.YtjgaglfinpeeoabDoorPure
namespace Go.Proofs.YtjgaglfinpeeoabDoor
open Go.RowKit

/-- The slice value with address ao, length n and capacity cap reads as the numbers xs. -/
structure Sl (w : World) (ao : Option Addr) (n cap : Nat) (xs : List Int) : Prop where
  len : xs.length = n
  le : n ≤ cap
  max : cap ≤ maxLen
  row : 0 < n → ∃ b off, ao = some ⟨b, off, none⟩ ∧ b < w.heap.size ∧ ∀ j, j < n → w.cell? ⟨b, off + j, none⟩ = some (.int .i64 (el xs j))

/-- What a call has made: the slice value u owns the numbers ys, in a block from B on. -/
def Own (w : World) (B : Nat) (u : Value) (ys : List Int) : Prop := w.ownsRow B 3 1 u ys.length (ys.map (Value.int .i64))

/-- The same with its place known: block g, length n, capacity cap. -/
def OwS (w : World) (B g n cap : Nat) (ys : List Int) : Prop := w.ownsRow B 3 1 (.slice (some ⟨g, 0, none⟩) n cap) n (ys.map (Value.int .i64))

theorem OwS.len {w : World} {B g n cap : Nat} {ys : List Int} (h : OwS w B g n cap ys) : ys.length = n := by
  have := h.1
  simpa using this

theorem OwS.own {w : World} {B g n cap : Nat} {ys : List Int} (h : OwS w B g n cap ys) : Own w B (.slice (some ⟨g, 0, none⟩) n cap) ys := by
  have := h.len
  subst this
  exact h

theorem OwS.cell {w : World} {B g n cap : Nat} {ys : List Int} (h : OwS w B g n cap ys) {j : Nat} (hj : j < n) : w.cell? ⟨g, j, none⟩ = some (.int .i64 (el ys j)) := by
  have h1 := World.ownsRow.cellAt h j (by omega)
  rw [h1]
  have := h.len
  simp [el, show j < ys.length by omega]

theorem OwS.frozen {w : World} {B g n cap : Nat} {ys : List Int} (h : OwS w B g n cap ys) (j : Nat) : w.frozen? ⟨g, j, none⟩ = false := World.ownsRow.frozenAt h j

theorem OwS.set {w : World} {B g n cap : Nat} {ys : List Int} (h : OwS w B g n cap ys) (j : Nat) (v : Int) : OwS (w.setCell ⟨g, j, none⟩ (.int .i64 v)) B g n cap (ys.set j v) := by
  have := (World.ownsRow.stored h j (.int .i64 v)).1
  rwa [← List.map_set] at this

theorem OwS.lt {w : World} {B g n cap : Nat} {ys : List Int} (h : OwS w B g n cap ys) : B ≤ g ∧ g < w.heap.size := World.ownsRow.lt h g rfl

theorem OwS.sl {w : World} {B g n cap : Nat} {ys : List Int} (h : OwS w B g n cap ys) : Sl w (some ⟨g, 0, none⟩) n cap ys := by
  have h0 := h
  rcases h.2 with ⟨h1, _⟩ | ⟨g', cap', cur, hv, hB, hg, h1, h2, h3, h4⟩
  · simp at h1
  · simp only [Value.slice.injEq, Option.some.injEq, Addr.mk.injEq, and_true, true_and] at hv
    obtain ⟨rfl, rfl⟩ := hv
    exact ⟨h.len, h1, h2, fun _ => ⟨g, 0, rfl, h0.lt.2, fun j hj => by rw [Nat.zero_add]; exact h0.cell hj⟩⟩

theorem OwS.drewN {w : World} {B g n cap : Nat} {ys : List Int} (h : OwS w B g n cap ys) (m : Nat) : OwS (w.drewN m) B g n cap ys := h

/-- A store into another block. -/
theorem OwS.other {w : World} {B g n cap : Nat} {ys : List Int} (h : OwS w B g n cap ys) {a : Addr} (ha : a.block ≠ g) (v : Value) : OwS (w.setCell a v) B g n cap ys := by
  refine ⟨h.1, ?_⟩
  rcases h.2 with ⟨h1, _⟩ | ⟨g', cap', cur, hv, hB, hg, r⟩
  · simp at h1
  · have : g' = g := by simp at hv; omega
    subst this
    exact Or.inr ⟨g', cap', cur, hv, hB, by rw [Below.heap_setCell _ _ _ _ (by omega)]; exact hg, r⟩

theorem Sl.later {w w' : World} {ao : Option Addr} {n cap : Nat} {xs : List Int} (h : Sl w ao n cap xs) (hb : Below w.heap.size w w') : Sl w' ao n cap xs := by
  refine ⟨h.len, h.le, h.max, fun hn => ?_⟩
  obtain ⟨b, off, rfl, hlt, hc⟩ := h.row hn
  exact ⟨b, off, rfl, Nat.lt_of_lt_of_le hlt hb.size, fun j hj => (hb.cell hlt).trans (hc j hj)⟩

theorem Sl.below {B : Nat} {w w' : World} {ao : Option Addr} {n cap : Nat} {xs : List Int} (h : Sl w ao n cap xs) (hB : w.heap.size ≤ B) (hb : Below B w w') : Sl w' ao n cap xs := h.later (hb.mono hB)

theorem Sl.nil {w : World} : Sl w none 0 0 [] := ⟨rfl, Nat.le_refl _, Nat.zero_le _, fun h => by omega⟩

theorem Sl.big {w : World} {ao : Option Addr} {n cap : Nat} {xs : List Int} (h : Sl w ao n cap xs) : n ≤ 9223372036854775807 := by
  have := h.le
  have := h.max
  unfold maxLen at this
  omega

theorem Own.place {w : World} {B : Nat} {u : Value} {ys : List Int} (h : Own w B u ys) : (u = .slice none 0 0 ∧ ys = []) ∨ ∃ g cap, u = .slice (some ⟨g, 0, none⟩) ys.length cap ∧ OwS w B g ys.length cap ys := by
  have h0 := h
  rcases h.2 with ⟨rfl, h2⟩ | ⟨g, cap, cur, rfl, hB, hg, h1, h2, h3, h4⟩
  · exact Or.inl ⟨rfl, List.eq_nil_of_length_eq_zero h2⟩
  · exact Or.inr ⟨g, cap, rfl, h0⟩

theorem Own.sl {w : World} {B : Nat} {u : Value} {ys : List Int} (h : Own w B u ys) : ∃ ao cap, u = .slice ao ys.length cap ∧ Sl w ao ys.length cap ys := by
  rcases h.place with ⟨rfl, rfl⟩ | ⟨g, cap, rfl, h1⟩
  · exact ⟨none, 0, rfl, Sl.nil⟩
  · exact ⟨_, cap, rfl, h1.sl⟩

theorem Own.read {w : World} {B : Nat} {ao : Option Addr} {n cap : Nat} {ys : List Int} (h : Own w B (.slice ao n cap) ys) : Sl w ao n cap ys := by
  rcases h.place with ⟨e, rfl⟩ | ⟨g, cap', e, h1⟩
  · simp only [Value.slice.injEq] at e
    obtain ⟨rfl, rfl, rfl⟩ := e
    exact Sl.nil
  · simp only [Value.slice.injEq] at e
    obtain ⟨rfl, rfl, rfl⟩ := e
    exact h1.sl

theorem Own.nilcap {w : World} {B : Nat} {ao : Option Addr} {n cap : Nat} {ys : List Int} (h : Own w B (.slice ao n cap) ys) : ao = none → cap = 0 := by
  rintro rfl
  rcases h.place with ⟨e, rfl⟩ | ⟨g, cap', e, h1⟩
  · simp only [Value.slice.injEq] at e
    exact e.2.2
  · simp at e

theorem Own.below {B B' : Nat} {w w' : World} {u : Value} {ys : List Int} (h : Own w B u ys) (hB : w.heap.size ≤ B') (hb : Below B' w w') : Own w' B u ys := by
  refine ⟨h.1, ?_⟩
  rcases h.2 with h2 | ⟨g, cap, cur, hv, hg, hh, r⟩
  · exact Or.inl h2
  · exact Or.inr ⟨g, cap, cur, hv, hg, (hb.block g (Nat.lt_of_lt_of_le (Array.getElem?_eq_some_iff.1 hh).1 hB)).trans hh, r⟩

theorem Own.mono {B B' : Nat} {w : World} {u : Value} {ys : List Int} (h : Own w B u ys) (hB : B' ≤ B) : Own w B' u ys := by
  refine ⟨h.1, ?_⟩
  rcases h.2 with h2 | ⟨g, cap, cur, hv, hg, r⟩
  · exact Or.inl h2
  · exact Or.inr ⟨g, cap, cur, hv, Nat.le_trans hB hg, r⟩

theorem Own.drewN {w : World} {B : Nat} {u : Value} {ys : List Int} (h : Own w B u ys) (m : Nat) : Own (w.drewN m) B u ys := h

theorem Own.nil {w : World} {B : Nat} : Own w B (.slice none 0 0) [] := World.ownsRow_nil _ _ _ _

theorem drewN_below {B : Nat} {a w : World} (h : Below B a w) (m : Nat) : Below B a (w.drewN m) := ⟨h.os, h.tape, h.output, h.size, h.block⟩

theorem grown_trans {a b c : World} {row : Option Nat} (h : a.grownBy b row) (k : b.grownBy c row) : a.grownBy c row :=
  ⟨k.os.trans h.os, k.tape.trans h.tape, k.output.trans h.output, Nat.le_trans h.size k.size, fun i hi hr => (k.block i (Nat.lt_of_lt_of_le hi h.size) hr).trans (h.block i hi hr)⟩
theorem grown_set {w : World} {g j : Nat} {v : Value} : w.grownBy (w.setCell ⟨g, j, none⟩ v) (some g) :=
  ⟨rfl, rfl, rfl, by simp [World.setCell], fun k _ hk => Below.heap_setCell _ _ _ _ (fun e => hk (by rw [e]))⟩
theorem grown_drewN {a b : World} {row : Option Nat} (h : a.grownBy b row) (m : Nat) : a.grownBy (b.drewN m) row := ⟨h.os, h.tape, h.output, h.size, h.block⟩
theorem below_of_grown {w w' : World} {row : Option Nat} {B : Nat} (h : w.grownBy w' row) (hB : B ≤ w.heap.size) (hr : ∀ k, row = some k → B ≤ k) : Below B w w' :=
  (Below.refl B w).grown h hB hr
theorem Own.kept {w w' : World} {B : Nat} {u : Value} {ys : List Int} {row : Option Nat} (h : Own w B u ys) (hg : w.grownBy w' row) (hne : u.ownBlock = none ∨ u.ownBlock ≠ row) : Own w' B u ys := World.ownsRow.kept h hg hne
theorem Own.blocks {w : World} {B : Nat} {u : Value} {ys : List Int} (h : Own w B u ys) : ∀ k, u.ownBlock = some k → B ≤ k ∧ k < w.heap.size := World.ownsRow.lt h

/-- What two calls have made lies apart. -/
theorem Own.apart {w1 w2 : World} {B1 B2 : Nat} {u1 u2 : Value} {y1 y2 : List Int} (h1 : Own w1 B1 u1 y1) (h2 : Own w2 B2 u2 y2) (hB : w1.heap.size ≤ B2) : u1.ownBlock = none ∨ u1.ownBlock ≠ u2.ownBlock := by
  cases e : u1.ownBlock with
  | none => exact Or.inl rfl
  | some k =>
    refine Or.inr (fun e2 => ?_)
    have := (h1.blocks k e).2
    have := (h2.blocks k e2.symm).1
    omega
theorem Own.apart' {w1 w2 : World} {B1 B2 : Nat} {u1 u2 : Value} {y1 y2 : List Int} (h1 : Own w1 B1 u1 y1) (h2 : Own w2 B2 u2 y2) (hB : w2.heap.size ≤ B1) : u1.ownBlock = none ∨ u1.ownBlock ≠ u2.ownBlock := by
  cases e : u1.ownBlock with
  | none => exact Or.inl rfl
  | some k =>
    refine Or.inr (fun e2 => ?_)
    have := (h1.blocks k e).1
    have := (h2.blocks k e2.symm).2
    omega

/-- k, k + 1, .. : n numbers. -/
def marks (k : Int) (n : Nat) : List Int := (List.range n).map fun i => k + (i : Nat)
theorem marks_len (k : Int) (n : Nat) : (marks k n).length = n := by simp [marks]
theorem el_marks {k : Int} {n j : Nat} (h : j < n) : el (marks k n) j = k + j := by simp [marks, el, h]
theorem marks_ext {xs : List Int} {k : Int} {n : Nat} (h : xs.length = n) (hj : ∀ j, j < n → el xs j = k + j) : xs = marks k n :=
  ext_el (by rw [h, marks_len]) (fun j hl => by rw [hj j (by omega), el_marks (by omega)])

/-- A call made a slice of the numbers ys, and turned nothing that was there. -/
def Made (w : World) (ys : List Int) (e : Ending) (w' : World) : Prop := ∃ u, e = .returned u ∧ Own w' w.heap.size u ys ∧ Below w.heap.size w w'

/-- A call made a slice of the numbers ys, said b beside it, and turned nothing that was there. -/
def Made2 (w : World) (ys : List Int) (b : Bool) (e : Ending) (w' : World) : Prop := ∃ u, e = .returned (.tuple #[u, .bool b]) ∧ Own w' w.heap.size u ys ∧ Below w.heap.size w w'

/-- A call answered v, and turned nothing that was there. -/
def Says (w : World) (v : Value) (e : Ending) (w' : World) : Prop := e = .returned v ∧ Below w.heap.size w w'

theorem made2_yes {p : Prop} [Decidable p] {w w' : World} {ys : List Int} {u : Value} (h : p) (ho : Own w' w.heap.size u ys) (hb : Below w.heap.size w w') : Made2 w ys (decide p) (.returned (.tuple #[u, .bool true])) w' :=
  ⟨u, by rw [decide_eq_true h], ho, hb⟩
theorem made2_no {p : Prop} [Decidable p] {w w' : World} {ys : List Int} (h : ¬ p) (hy : ys = []) (hb : Below w.heap.size w w') : Made2 w ys (decide p) (.returned (.tuple #[.slice none 0 0, .bool false])) w' :=
  ⟨_, by rw [decide_eq_false h], by rw [hy]; exact Own.nil, hb⟩
theorem says_to {P : Program} {f : FuncId} {a : Array Value} {w : World} {v v' : Int} (h : Calls P f a w (Says w (.int .i64 v))) (e : v = v') : Calls P f a w (Says w (.int .i64 v')) := e ▸ h
theorem says_tob {P : Program} {f : FuncId} {a : Array Value} {w : World} {v v' : Bool} (h : Calls P f a w (Says w (.bool v))) (e : v = v') : Calls P f a w (Says w (.bool v')) := e ▸ h
theorem made_to {P : Program} {f : FuncId} {a : Array Value} {w : World} {v v' : List Int} (h : Calls P f a w (Made w v)) (e : v = v') : Calls P f a w (Made w v') := e ▸ h
theorem says_true {p : Prop} [Decidable p] {w w' : World} (h : p) (hb : Below w.heap.size w w') : Says w (.bool (decide p)) (.returned (.bool true)) w' := ⟨by rw [decide_eq_true h], hb⟩
theorem says_false {p : Prop} [Decidable p] {w w' : World} (h : ¬ p) (hb : Below w.heap.size w w') : Says w (.bool (decide p)) (.returned (.bool false)) w' := ⟨by rw [decide_eq_false h], hb⟩
theorem says_bool {w w' : World} {a b : Bool} (h : a = b) (hb : Below w.heap.size w w') : Says w (.bool b) (.returned (.bool a)) w' := ⟨by rw [h], hb⟩
theorem says_str {w w' : World} {a b : ByteArray} (h : a = b) (hb : Below w.heap.size w w') : Says w (.string b) (.returned (.string a)) w' := ⟨by rw [h], hb⟩
theorem says_int {w w' : World} {a b : Int} (h : a = b) (hb : Below w.heap.size w w') : Says w (.int .i64 b) (.returned (.int .i64 a)) w' := ⟨by rw [h], hb⟩
theorem hid {p : Prop} (h : p) : Hid p := h

theorem ret_eq {a b : Value} (h : a = b) : Ending.returned a = .returned b := by rw [h]

/-- The length of the slice in a slot: for a loop's measure. -/
def lenOf : Value → Nat | .slice _ n _ => n | _ => 0

/-- What was appended to is the call's own. -/
theorem below_app {w wr w' : World} {u : Value} {ys : List Int} (hb : Below w.heap.size w wr) (ho : Own wr w.heap.size u ys) (hg : wr.grownBy w' u.ownBlock) : Below w.heap.size w w' :=
  hb.grown hg hb.size (fun k hk => (ho.blocks k hk).1)

/-- Block g is an array that holds the numbers fs. -/
def Arr (w : World) (g T : Nat) (fs : List Int) : Prop := w.heap[g]? = some (.cells (fs.map (Value.int .i64)).toArray T (0, 0))

theorem Arr.lt {w : World} {g T : Nat} {fs : List Int} (h : Arr w g T fs) : g < w.heap.size := (Array.getElem?_eq_some_iff.1 h).1
theorem Arr.cell {w : World} {g T : Nat} {fs : List Int} (h : Arr w g T fs) {j : Nat} (hj : j < fs.length) : w.cell? ⟨g, j, none⟩ = some (.int .i64 (el fs j)) := by
  rw [cell_of_row w g j _ T (0, 0) h]
  simp [el, hj]
theorem Arr.frozen {w : World} {g T : Nat} {fs : List Int} (h : Arr w g T fs) (j : Nat) : w.frozen? ⟨g, j, none⟩ = false := frozen_of_row w g j _ T h
theorem Arr.set {w : World} {g T : Nat} {fs : List Int} (h : Arr w g T fs) (j : Nat) (v : Int) : Arr (w.setCell ⟨g, j, none⟩ (.int .i64 v)) g T (fs.set j v) := by
  have := heap_setCell_same w g j _ T (.int .i64 v) h
  rw [Arr, this]
  simp [List.map_set]
theorem Arr.other {w : World} {g T : Nat} {fs : List Int} (h : Arr w g T fs) {a : Addr} (ha : a.block ≠ g) (v : Value) : Arr (w.setCell a v) g T fs := by
  rw [Arr, Below.heap_setCell _ _ _ _ (by omega)]; exact h
theorem Arr.drewN {w : World} {g T : Nat} {fs : List Int} (h : Arr w g T fs) (m : Nat) : Arr (w.drewN m) g T fs := h
theorem Arr.below {B : Nat} {w w' : World} {g T : Nat} {fs : List Int} (h : Arr w g T fs) (hg : g < B) (hb : Below B w w') : Arr w' g T fs := (hb.block g hg).trans h
theorem Arr.alloc {w : World} {g T : Nat} {fs : List Int} (h : Arr w g T fs) (o : Obj) : Arr (w.alloc o) g T fs := (Below.heap_alloc w o g h.lt).trans h
theorem Arr.made (w : World) (T : Nat) (fs : List Int) : Arr (w.alloc (.cells (fs.map (Value.int .i64)).toArray T)) w.heap.size T fs := heap_alloc_new w _

section
variable {P : Program} (w : World)
theorem run_items (d e : Nat) (xs ys : List Int) (he : P.underlying e = some (.int .i64)) (is : List Nat) (hx : ∀ i ∈ is, i < xs.length) (hy : ∀ i ∈ is, i < ys.length) :
    (Op.eqItems (d + 1) e 1 (xs.map (Value.int .i64)).toArray (ys.map (Value.int .i64)).toArray is).run P w = .ok (is.all fun i => el xs i == el ys i) w := by
  induction is with
  | nil => simp [Op.eqItems]
  | cons i is ih =>
    have hxi := hx i (by simp)
    have hyi := hy i (by simp)
    have px : (part e (xs.map (Value.int .i64)).toArray (i * 1)).run P w = .ok (.int .i64 (el xs i)) w := by
      simp [part, isAgg, run_underlying he, el, hxi]
    have py : (part e (ys.map (Value.int .i64)).toArray (i * 1)).run P w = .ok (.int .i64 (el ys i)) w := by
      simp [part, isAgg, run_underlying he, el, hyi]
    have pe := run_equalIn_int (P := P) w d e .i64 .i64 (el xs i) (el ys i) he
    simp only [Op.eqItems, Sem.run_bind, px, py, pe, Result.andThen_ok, List.all_cons]
    cases hb : (el xs i == el ys i)
    · simp
    · simp only [Bool.not_true, Bool.false_eq_true, if_false, Bool.true_and]
      exact ih (fun j hj => hx j (by simp [hj])) (fun j hj => hy j (by simp [hj]))

theorem run_eql_arr (t e n : Nat) {i : TypeInfo} (xs ys : List Int) (hu : P.underlying t = some (.array n e)) (hi : P.info? e = some i) (hc : P.cellsOf e = 1) (he : P.underlying e = some (.int .i64)) (hx : xs.length = n) (hy : ys.length = n) :
    (binOp .eql t (.agg (xs.map (Value.int .i64)).toArray) (.agg (ys.map (Value.int .i64)).toArray)).run P w = .ok (.bool (decide (xs = ys))) w := by
  rw [run_eql_struct, run_equalIn_array w 9999 _ _ hu hi, hc, run_items w 9998 e xs ys he _ (fun i hi => by have := List.mem_range.1 hi; omega) (fun i hi => by have := List.mem_range.1 hi; omega)]
  simp only [Result.andThen_ok]
  congr 2
  rw [Bool.eq_iff_iff, List.all_eq_true, decide_eq_true_iff]
  constructor
  · intro h
    exact ext_el (by omega) (fun j hj => by have := h j (by simp; omega); simpa using this)
  · intro h i _
    simp [h]
end

end Go.Proofs.YtjgaglfinpeeoabDoor
