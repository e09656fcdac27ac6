/- Texts of this claim put into one: Pure, Kit, Mirror, Ops, Map, MirC, MirF, FinAll. -/
import Derived.WalkKit
import Derived.ProofKit
import Derived.Handy
import Derived.Outline
import Derived.WalkLawsBesides
import Derived.WalkSpells
import Derived.Deep.QuietTactic
import Derived.BigQuiet
import Derived.ChangeKeysEq
import Derived.Laws.AppendOwnNone
import Derived.Test.YtjgaglfinpeeoacChecked
import Derived.MapKept
import Derived.Carry
/- The plain mathematics of orders: which lists of numbers are orders, and that there are finitely many of them, so that what is to be shown of all orders may be reckoned. No condition. -/
namespace Go.Proofs.Ytjgaglfinpeeoac

/-- The number at place k. -/
def el (xs : List Int) (k : Nat) : Int := xs.getD k 0

theorem el_lt {xs : List Int} {k : Nat} (h : k < xs.length) : el xs k = xs[k] := by simp [el, h]
theorem el_set_same {xs : List Int} {k : Nat} {v : Int} (h : k < xs.length) : el (xs.set k v) k = v := by simp [el, h]
theorem el_set_ne {xs : List Int} {j k : Nat} {v : Int} (h : k ≠ j) : el (xs.set k v) j = el xs j := by simp [el, List.getD, h]
theorem take_el {xs : List Int} {k : Nat} (h : k < xs.length) : xs.take (k + 1) = xs.take k ++ [el xs k] := by
  rw [List.take_succ_eq_append_getElem h, el_lt h]
theorem ext_el {xs ys : List Int} (h : xs.length = ys.length) (hj : ∀ j, j < xs.length → el xs j = el ys j) : xs = ys := by
  apply List.ext_getElem h
  intro j h1 h2
  have := hj j h1
  rwa [el_lt h1, el_lt h2] at this

/-- The numbers are an order: at most seven, each of 0, 1, .. once. -/
structure Valid (xs : List Int) : Prop where
  len : xs.length ≤ 7
  lo : ∀ j, j < xs.length → 0 ≤ el xs j
  hi : ∀ j, j < xs.length → el xs j < xs.length
  ne : ∀ i j, i < j → j < xs.length → el xs i ≠ el xs j

theorem valid_iff (xs : List Int) : Valid xs ↔ (xs.length ≤ 7 ∧ (∀ j, j < xs.length → 0 ≤ el xs j) ∧ (∀ j, j < xs.length → el xs j < xs.length) ∧ ∀ j, j < xs.length → ∀ i, i < j → el xs i ≠ el xs j) :=
  ⟨fun h => ⟨h.len, h.lo, h.hi, fun j hj i hij => h.ne i j hij hj⟩, fun h => ⟨h.1, h.2.1, h.2.2.1, fun i j hij hj => h.2.2.2 j hj i hij⟩⟩
instance (xs : List Int) : Decidable (Valid xs) := decidable_of_iff _ (valid_iff xs).symm

/-- Lists of equal length, place by place: what the walks learn, step by step. -/
theorem upto_step {P : Nat → Prop} {k : Nat} (h : ∀ j, j < k → P j) (hk : P k) : ∀ j, j < k + 1 → P j := fun j hj => by
  by_cases e : j = k
  · rw [e]; exact hk
  · exact h j (by omega)
theorem not_ne {a b : Int} (h : (a == b) = true) : a = b := by simpa using h
theorem is_ne {a b : Int} (h : (a == b) = false) : a ≠ b := by simpa using h
theorem nn_ne {a b : Int} (h : (a != b) = true) : a ≠ b := by simpa using h
theorem nn_eq {a b : Int} (h : (a != b) = false) : a = b := by simpa using h

def rng : Nat → List Int
  | 0 => []
  | n + 1 => rng n ++ [(n : Int)]

/-- All lists that take f of the numbers av, each once. -/
def perms : Nat → List Int → List (List Int)
  | 0, _ => [[]]
  | f + 1, av => av.flatMap fun x => (perms f (av.erase x)).map (x :: ·)

/-- All orders of n values. -/
def orders (n : Nat) : List (List Int) := perms n (rng n)

/-- All orders of at most seven values. -/
def allUpTo (m : Nat) : List (List Int) := (List.range (m + 1)).flatMap orders

theorem mem_rng (n : Nat) (x : Int) : x ∈ rng n ↔ 0 ≤ x ∧ x < n := by
  induction n with
  | zero => simp [rng]
  | succ n ih => simp [rng, ih]; omega

theorem mem_perms : ∀ (xs av : List Int), (∀ x ∈ xs, x ∈ av) → xs.Nodup → xs ∈ perms xs.length av := by
  intro xs
  induction xs with
  | nil => intro av _ _; simp [perms]
  | cons x xs ih =>
    intro av hsub hnd
    rw [List.length_cons]
    simp only [perms, List.mem_flatMap, List.mem_map]
    rw [List.nodup_cons] at hnd
    refine ⟨x, hsub x (by simp), xs, ih _ ?_ hnd.2, rfl⟩
    intro y hy
    have hyx : y ≠ x := fun e => hnd.1 (e ▸ hy)
    exact (List.mem_erase_of_ne hyx).2 (hsub y (by simp [hy]))

theorem Valid.nodup {xs : List Int} (h : Valid xs) : xs.Nodup := by
  rw [List.nodup_iff_pairwise_ne, List.pairwise_iff_getElem]
  intro i j hi hj hij
  have := h.ne i j hij hj
  rwa [el_lt hi, el_lt hj] at this

theorem Valid.mem {xs : List Int} (h : Valid xs) {x : Int} (hx : x ∈ xs) : 0 ≤ x ∧ x < xs.length := by
  obtain ⟨j, hj, rfl⟩ := List.mem_iff_getElem.1 hx
  have h1 := h.lo j hj
  have h2 := h.hi j hj
  rw [el_lt hj] at h1 h2
  exact ⟨h1, h2⟩

theorem Valid.in_orders {xs : List Int} (h : Valid xs) : xs ∈ orders xs.length :=
  mem_perms xs _ (fun _ hx => (mem_rng _ _).2 (h.mem hx)) h.nodup

theorem Valid.in_all {xs : List Int} (h : Valid xs) : xs ∈ allUpTo 7 := by
  unfold allUpTo
  rw [List.mem_flatMap]
  exact ⟨xs.length, by have := h.len; simp; omega, h.in_orders⟩

/-- What a reckoning shows of every order holds of every order. -/
theorem Valid.all {xs : List Int} (h : Valid xs) {p : List Int → Bool} (hp : (allUpTo 7).all p = true) : p xs = true :=
  List.all_eq_true.1 hp xs h.in_all

theorem Valid.all' {xs : List Int} (h : Valid xs) {m : Nat} (hm : xs.length ≤ m) {p : List Int → Bool} (hp : (allUpTo m).all p = true) : p xs = true := by
  refine List.all_eq_true.1 hp xs ?_
  unfold allUpTo
  rw [List.mem_flatMap]
  exact ⟨xs.length, by simp; omega, h.in_orders⟩

theorem count_take {xs : List Int} {k : Nat} (h : k < xs.length) (v : Int) : (xs.take (k + 1)).count v = (xs.take k).count v + if el xs k = v then 1 else 0 := by
  rw [take_el h, List.count_append, List.count_singleton]
  simp

theorem count_two {xs : List Int} {i j : Nat} (hij : i < j) (hj : j < xs.length) (h : el xs i = el xs j) : 2 ≤ xs.count (el xs j) := by
  have h1 : xs.count (el xs j) = (xs.take j).count (el xs j) + (xs.drop j).count (el xs j) := by rw [← List.count_append, List.take_append_drop]
  have h2 : 0 < (xs.take j).count (el xs j) := by
    rw [List.count_pos_iff, ← h, el_lt (by omega)]
    exact List.mem_take_iff_getElem.2 ⟨i, by omega, rfl⟩
  have h3 : 0 < (xs.drop j).count (el xs j) := by
    rw [List.count_pos_iff, el_lt hj]
    exact List.mem_drop_iff_getElem.2 ⟨0, by simpa using hj, rfl⟩
  omega

/-- State a after k steps. -/
def iter {α : Type} (f : α → Nat → α) (a : α) : Nat → α
  | 0 => a
  | k + 1 => f (iter f a k) k

theorem iter_len {f : List Int → Nat → List Int} (hf : ∀ a k, (f a k).length = a.length) (a : List Int) (k : Nat) : (iter f a k).length = a.length := by
  induction k with
  | zero => rfl
  | succ k ih => rw [iter, hf, ih]

theorem iter_app {g : Nat → Int} (n : Nat) : iter (fun a k => a ++ [g k]) [] n = (List.range n).map g := by
  induction n with
  | zero => rfl
  | succ n ih => rw [iter, ih, List.range_succ, List.map_append]; rfl

theorem map_range_len {g : Nat → Int} (n : Nat) : ((List.range n).map g).length = n := by simp
theorem el_map {g : Nat → Int} {n j : Nat} (h : j < n) : el ((List.range n).map g) j = g j := by simp [el, h]

theorem iter_set {g : Nat → Int} (n : Nat) : iter (fun a k => a.set k (g k)) (List.replicate n 0) n = (List.range n).map g := by
  have key : ∀ k, k ≤ n → (iter (fun a k => a.set k (g k)) (List.replicate n 0) k).length = n ∧ ∀ j, j < k → el (iter (fun a k => a.set k (g k)) (List.replicate n 0) k) j = g j := by
    intro k
    induction k with
    | zero => intro _; exact ⟨by simp [iter], fun j hj => by omega⟩
    | succ k ih =>
      intro hk
      obtain ⟨h1, h2⟩ := ih (by omega)
      refine ⟨by simp [iter, h1], fun j hj => ?_⟩
      rw [iter]
      by_cases e : j = k
      · rw [e, el_set_same (by rw [h1]; omega)]
      · rw [el_set_ne (by omega), h2 j (by omega)]
  refine ext_el (by rw [(key n (Nat.le_refl _)).1]; simp) (fun j hj => ?_)
  rw [(key n (Nat.le_refl _)).1] at hj
  rw [(key n (Nat.le_refl _)).2 j hj, el_map hj]

end Go.Proofs.Ytjgaglfinpeeoac

/- Words for what the walks say of memory: a slice of numbers that is read, a slice that a call has made, and how both fare in later worlds. No condition. -/
namespace Go.Proofs.Ytjgaglfinpeeoac
open Go.RowKit

/-- The slice value with address ao, length n and capacity cap reads as the numbers xs. -/
structure Sl (w : World) (ao : Option Addr) (n cap : Nat) (xs : List Int) : Prop where
  len : xs.length = n
  le : n ≤ cap
  max : cap ≤ maxLen
  row : 0 < n → ∃ b off, ao = some ⟨b, off, none⟩ ∧ b < w.heap.size ∧ ∀ j, j < n → w.cell? ⟨b, off + j, none⟩ = some (.int .i64 (el xs j))

/-- What a call has made: the slice value u owns the numbers ys, in a block from B on. -/
def Own (w : World) (B : Nat) (u : Value) (ys : List Int) : Prop := w.ownsRow B 3 1 u ys.length (ys.map (Value.int .i64))

/-- The same with its place known: block g, length n, capacity cap. -/
def OwS (w : World) (B g n cap : Nat) (ys : List Int) : Prop := w.ownsRow B 3 1 (.slice (some ⟨g, 0, none⟩) n cap) n (ys.map (Value.int .i64))

theorem OwS.len {w : World} {B g n cap : Nat} {ys : List Int} (h : OwS w B g n cap ys) : ys.length = n := by
  have := h.1
  simpa using this

theorem OwS.own {w : World} {B g n cap : Nat} {ys : List Int} (h : OwS w B g n cap ys) : Own w B (.slice (some ⟨g, 0, none⟩) n cap) ys := by
  have := h.len
  subst this
  exact h

theorem OwS.cell {w : World} {B g n cap : Nat} {ys : List Int} (h : OwS w B g n cap ys) {j : Nat} (hj : j < n) : w.cell? ⟨g, j, none⟩ = some (.int .i64 (el ys j)) := by
  have h1 := World.ownsRow.cellAt h j (by omega)
  rw [h1]
  have := h.len
  simp [el, show j < ys.length by omega]

theorem OwS.frozen {w : World} {B g n cap : Nat} {ys : List Int} (h : OwS w B g n cap ys) (j : Nat) : w.frozen? ⟨g, j, none⟩ = false := World.ownsRow.frozenAt h j

theorem OwS.set {w : World} {B g n cap : Nat} {ys : List Int} (h : OwS w B g n cap ys) (j : Nat) (v : Int) : OwS (w.setCell ⟨g, j, none⟩ (.int .i64 v)) B g n cap (ys.set j v) := by
  have := (World.ownsRow.stored h j (.int .i64 v)).1
  rwa [← List.map_set] at this

theorem OwS.lt {w : World} {B g n cap : Nat} {ys : List Int} (h : OwS w B g n cap ys) : B ≤ g ∧ g < w.heap.size := World.ownsRow.lt h g rfl

theorem OwS.sl {w : World} {B g n cap : Nat} {ys : List Int} (h : OwS w B g n cap ys) : Sl w (some ⟨g, 0, none⟩) n cap ys := by
  have h0 := h
  rcases h.2 with ⟨h1, _⟩ | ⟨g', cap', cur, hv, hB, hg, h1, h2, h3, h4⟩
  · simp at h1
  · simp only [Value.slice.injEq, Option.some.injEq, Addr.mk.injEq, and_true, true_and] at hv
    obtain ⟨rfl, rfl⟩ := hv
    exact ⟨h.len, h1, h2, fun _ => ⟨g, 0, rfl, h0.lt.2, fun j hj => by rw [Nat.zero_add]; exact h0.cell hj⟩⟩

theorem OwS.drewN {w : World} {B g n cap : Nat} {ys : List Int} (h : OwS w B g n cap ys) (m : Nat) : OwS (w.drewN m) B g n cap ys := h

/-- A store into another block. -/
theorem OwS.other {w : World} {B g n cap : Nat} {ys : List Int} (h : OwS w B g n cap ys) {a : Addr} (ha : a.block ≠ g) (v : Value) : OwS (w.setCell a v) B g n cap ys := by
  refine ⟨h.1, ?_⟩
  rcases h.2 with ⟨h1, _⟩ | ⟨g', cap', cur, hv, hB, hg, r⟩
  · simp at h1
  · have : g' = g := by simp at hv; omega
    subst this
    exact Or.inr ⟨g', cap', cur, hv, hB, by rw [Below.heap_setCell _ _ _ _ (by omega)]; exact hg, r⟩

theorem Sl.later {w w' : World} {ao : Option Addr} {n cap : Nat} {xs : List Int} (h : Sl w ao n cap xs) (hb : Below w.heap.size w w') : Sl w' ao n cap xs := by
  refine ⟨h.len, h.le, h.max, fun hn => ?_⟩
  obtain ⟨b, off, rfl, hlt, hc⟩ := h.row hn
  exact ⟨b, off, rfl, Nat.lt_of_lt_of_le hlt hb.size, fun j hj => (hb.cell hlt).trans (hc j hj)⟩

theorem Sl.below {B : Nat} {w w' : World} {ao : Option Addr} {n cap : Nat} {xs : List Int} (h : Sl w ao n cap xs) (hB : w.heap.size ≤ B) (hb : Below B w w') : Sl w' ao n cap xs := h.later (hb.mono hB)

theorem Sl.nil {w : World} : Sl w none 0 0 [] := ⟨rfl, Nat.le_refl _, Nat.zero_le _, fun h => by omega⟩

theorem Sl.big {w : World} {ao : Option Addr} {n cap : Nat} {xs : List Int} (h : Sl w ao n cap xs) : n ≤ 9223372036854775807 := by
  have := h.le
  have := h.max
  unfold maxLen at this
  omega

theorem Own.place {w : World} {B : Nat} {u : Value} {ys : List Int} (h : Own w B u ys) : (u = .slice none 0 0 ∧ ys = []) ∨ ∃ g cap, u = .slice (some ⟨g, 0, none⟩) ys.length cap ∧ OwS w B g ys.length cap ys := by
  have h0 := h
  rcases h.2 with ⟨rfl, h2⟩ | ⟨g, cap, cur, rfl, hB, hg, h1, h2, h3, h4⟩
  · exact Or.inl ⟨rfl, List.eq_nil_of_length_eq_zero h2⟩
  · exact Or.inr ⟨g, cap, rfl, h0⟩

theorem Own.sl {w : World} {B : Nat} {u : Value} {ys : List Int} (h : Own w B u ys) : ∃ ao cap, u = .slice ao ys.length cap ∧ Sl w ao ys.length cap ys := by
  rcases h.place with ⟨rfl, rfl⟩ | ⟨g, cap, rfl, h1⟩
  · exact ⟨none, 0, rfl, Sl.nil⟩
  · exact ⟨_, cap, rfl, h1.sl⟩

theorem Own.read {w : World} {B : Nat} {ao : Option Addr} {n cap : Nat} {ys : List Int} (h : Own w B (.slice ao n cap) ys) : Sl w ao n cap ys := by
  rcases h.place with ⟨e, rfl⟩ | ⟨g, cap', e, h1⟩
  · simp only [Value.slice.injEq] at e
    obtain ⟨rfl, rfl, rfl⟩ := e
    exact Sl.nil
  · simp only [Value.slice.injEq] at e
    obtain ⟨rfl, rfl, rfl⟩ := e
    exact h1.sl

theorem Own.nilcap {w : World} {B : Nat} {ao : Option Addr} {n cap : Nat} {ys : List Int} (h : Own w B (.slice ao n cap) ys) : ao = none → cap = 0 := by
  rintro rfl
  rcases h.place with ⟨e, rfl⟩ | ⟨g, cap', e, h1⟩
  · simp only [Value.slice.injEq] at e
    exact e.2.2
  · simp at e

theorem Own.below {B B' : Nat} {w w' : World} {u : Value} {ys : List Int} (h : Own w B u ys) (hB : w.heap.size ≤ B') (hb : Below B' w w') : Own w' B u ys := by
  refine ⟨h.1, ?_⟩
  rcases h.2 with h2 | ⟨g, cap, cur, hv, hg, hh, r⟩
  · exact Or.inl h2
  · exact Or.inr ⟨g, cap, cur, hv, hg, (hb.block g (Nat.lt_of_lt_of_le (Array.getElem?_eq_some_iff.1 hh).1 hB)).trans hh, r⟩

theorem Own.mono {B B' : Nat} {w : World} {u : Value} {ys : List Int} (h : Own w B u ys) (hB : B' ≤ B) : Own w B' u ys := by
  refine ⟨h.1, ?_⟩
  rcases h.2 with h2 | ⟨g, cap, cur, hv, hg, r⟩
  · exact Or.inl h2
  · exact Or.inr ⟨g, cap, cur, hv, Nat.le_trans hB hg, r⟩

theorem Own.drewN {w : World} {B : Nat} {u : Value} {ys : List Int} (h : Own w B u ys) (m : Nat) : Own (w.drewN m) B u ys := h

theorem Own.nil {w : World} {B : Nat} : Own w B (.slice none 0 0) [] := World.ownsRow_nil _ _ _ _

theorem drewN_below {B : Nat} {a w : World} (h : Below B a w) (m : Nat) : Below B a (w.drewN m) := ⟨h.os, h.tape, h.output, h.size, h.block⟩

theorem grown_trans {a b c : World} {row : Option Nat} (h : a.grownBy b row) (k : b.grownBy c row) : a.grownBy c row :=
  ⟨k.os.trans h.os, k.tape.trans h.tape, k.output.trans h.output, Nat.le_trans h.size k.size, fun i hi hr => (k.block i (Nat.lt_of_lt_of_le hi h.size) hr).trans (h.block i hi hr)⟩
theorem grown_set {w : World} {g j : Nat} {v : Value} : w.grownBy (w.setCell ⟨g, j, none⟩ v) (some g) :=
  ⟨rfl, rfl, rfl, by simp [World.setCell], fun k _ hk => Below.heap_setCell _ _ _ _ (fun e => hk (by rw [e]))⟩
theorem grown_drewN {a b : World} {row : Option Nat} (h : a.grownBy b row) (m : Nat) : a.grownBy (b.drewN m) row := ⟨h.os, h.tape, h.output, h.size, h.block⟩
theorem below_of_grown {w w' : World} {row : Option Nat} {B : Nat} (h : w.grownBy w' row) (hB : B ≤ w.heap.size) (hr : ∀ k, row = some k → B ≤ k) : Below B w w' :=
  (Below.refl B w).grown h hB hr
theorem Own.kept {w w' : World} {B : Nat} {u : Value} {ys : List Int} {row : Option Nat} (h : Own w B u ys) (hg : w.grownBy w' row) (hne : u.ownBlock = none ∨ u.ownBlock ≠ row) : Own w' B u ys := World.ownsRow.kept h hg hne
theorem Own.blocks {w : World} {B : Nat} {u : Value} {ys : List Int} (h : Own w B u ys) : ∀ k, u.ownBlock = some k → B ≤ k ∧ k < w.heap.size := World.ownsRow.lt h

/-- What two calls have made lies apart. -/
theorem Own.apart {w1 w2 : World} {B1 B2 : Nat} {u1 u2 : Value} {y1 y2 : List Int} (h1 : Own w1 B1 u1 y1) (h2 : Own w2 B2 u2 y2) (hB : w1.heap.size ≤ B2) : u1.ownBlock = none ∨ u1.ownBlock ≠ u2.ownBlock := by
  cases e : u1.ownBlock with
  | none => exact Or.inl rfl
  | some k =>
    refine Or.inr (fun e2 => ?_)
    have := (h1.blocks k e).2
    have := (h2.blocks k e2.symm).1
    omega
theorem Own.apart' {w1 w2 : World} {B1 B2 : Nat} {u1 u2 : Value} {y1 y2 : List Int} (h1 : Own w1 B1 u1 y1) (h2 : Own w2 B2 u2 y2) (hB : w2.heap.size ≤ B1) : u1.ownBlock = none ∨ u1.ownBlock ≠ u2.ownBlock := by
  cases e : u1.ownBlock with
  | none => exact Or.inl rfl
  | some k =>
    refine Or.inr (fun e2 => ?_)
    have := (h1.blocks k e).1
    have := (h2.blocks k e2.symm).2
    omega

/-- k, k + 1, .. : n numbers. -/
def marks (k : Int) (n : Nat) : List Int := (List.range n).map fun i => k + (i : Nat)
theorem marks_len (k : Int) (n : Nat) : (marks k n).length = n := by simp [marks]
theorem el_marks {k : Int} {n j : Nat} (h : j < n) : el (marks k n) j = k + j := by simp [marks, el, h]
theorem marks_ext {xs : List Int} {k : Int} {n : Nat} (h : xs.length = n) (hj : ∀ j, j < n → el xs j = k + j) : xs = marks k n :=
  ext_el (by rw [h, marks_len]) (fun j hl => by rw [hj j (by omega), el_marks (by omega)])

/-- A call made a slice of the numbers ys, and turned nothing that was there. -/
def Made (w : World) (ys : List Int) (e : Ending) (w' : World) : Prop := ∃ u, e = .returned u ∧ Own w' w.heap.size u ys ∧ Below w.heap.size w w'

/-- A call made a slice of the numbers ys, said b beside it, and turned nothing that was there. -/
def Made2 (w : World) (ys : List Int) (b : Bool) (e : Ending) (w' : World) : Prop := ∃ u, e = .returned (.tuple #[u, .bool b]) ∧ Own w' w.heap.size u ys ∧ Below w.heap.size w w'

/-- A call answered v, and turned nothing that was there. -/
def Says (w : World) (v : Value) (e : Ending) (w' : World) : Prop := e = .returned v ∧ Below w.heap.size w w'

theorem made2_yes {p : Prop} [Decidable p] {w w' : World} {ys : List Int} {u : Value} (h : p) (ho : Own w' w.heap.size u ys) (hb : Below w.heap.size w w') : Made2 w ys (decide p) (.returned (.tuple #[u, .bool true])) w' :=
  ⟨u, by rw [decide_eq_true h], ho, hb⟩
theorem made2_no {p : Prop} [Decidable p] {w w' : World} {ys : List Int} (h : ¬ p) (hy : ys = []) (hb : Below w.heap.size w w') : Made2 w ys (decide p) (.returned (.tuple #[.slice none 0 0, .bool false])) w' :=
  ⟨_, by rw [decide_eq_false h], by rw [hy]; exact Own.nil, hb⟩
theorem says_to {P : Program} {f : FuncId} {a : Array Value} {w : World} {v v' : Int} (h : Calls P f a w (Says w (.int .i64 v))) (e : v = v') : Calls P f a w (Says w (.int .i64 v')) := e ▸ h
theorem says_tob {P : Program} {f : FuncId} {a : Array Value} {w : World} {v v' : Bool} (h : Calls P f a w (Says w (.bool v))) (e : v = v') : Calls P f a w (Says w (.bool v')) := e ▸ h
theorem made_to {P : Program} {f : FuncId} {a : Array Value} {w : World} {v v' : List Int} (h : Calls P f a w (Made w v)) (e : v = v') : Calls P f a w (Made w v') := e ▸ h
theorem says_true {p : Prop} [Decidable p] {w w' : World} (h : p) (hb : Below w.heap.size w w') : Says w (.bool (decide p)) (.returned (.bool true)) w' := ⟨by rw [decide_eq_true h], hb⟩
theorem says_false {p : Prop} [Decidable p] {w w' : World} (h : ¬ p) (hb : Below w.heap.size w w') : Says w (.bool (decide p)) (.returned (.bool false)) w' := ⟨by rw [decide_eq_false h], hb⟩
theorem says_bool {w w' : World} {a b : Bool} (h : a = b) (hb : Below w.heap.size w w') : Says w (.bool b) (.returned (.bool a)) w' := ⟨by rw [h], hb⟩
theorem says_str {w w' : World} {a b : ByteArray} (h : a = b) (hb : Below w.heap.size w w') : Says w (.string b) (.returned (.string a)) w' := ⟨by rw [h], hb⟩
theorem says_int {w w' : World} {a b : Int} (h : a = b) (hb : Below w.heap.size w w') : Says w (.int .i64 b) (.returned (.int .i64 a)) w' := ⟨by rw [h], hb⟩
theorem hid {p : Prop} (h : p) : Hid p := h

theorem ret_eq {a b : Value} (h : a = b) : Ending.returned a = .returned b := by rw [h]

/-- The length of the slice in a slot: for a loop's measure. -/
def lenOf : Value → Nat | .slice _ n _ => n | _ => 0

/-- What was appended to is the call's own. -/
theorem below_app {w wr w' : World} {u : Value} {ys : List Int} (hb : Below w.heap.size w wr) (ho : Own wr w.heap.size u ys) (hg : wr.grownBy w' u.ownBlock) : Below w.heap.size w w' :=
  hb.grown hg hb.size (fun k hk => (ho.blocks k hk).1)

/-- Block g is an array that holds the numbers fs. -/
def Arr (w : World) (g T : Nat) (fs : List Int) : Prop := w.heap[g]? = some (.cells (fs.map (Value.int .i64)).toArray T (0, 0))

theorem Arr.lt {w : World} {g T : Nat} {fs : List Int} (h : Arr w g T fs) : g < w.heap.size := (Array.getElem?_eq_some_iff.1 h).1
theorem Arr.cell {w : World} {g T : Nat} {fs : List Int} (h : Arr w g T fs) {j : Nat} (hj : j < fs.length) : w.cell? ⟨g, j, none⟩ = some (.int .i64 (el fs j)) := by
  rw [cell_of_row w g j _ T (0, 0) h]
  simp [el, hj]
theorem Arr.frozen {w : World} {g T : Nat} {fs : List Int} (h : Arr w g T fs) (j : Nat) : w.frozen? ⟨g, j, none⟩ = false := frozen_of_row w g j _ T h
theorem Arr.set {w : World} {g T : Nat} {fs : List Int} (h : Arr w g T fs) (j : Nat) (v : Int) : Arr (w.setCell ⟨g, j, none⟩ (.int .i64 v)) g T (fs.set j v) := by
  have := heap_setCell_same w g j _ T (.int .i64 v) h
  rw [Arr, this]
  simp [List.map_set]
theorem Arr.other {w : World} {g T : Nat} {fs : List Int} (h : Arr w g T fs) {a : Addr} (ha : a.block ≠ g) (v : Value) : Arr (w.setCell a v) g T fs := by
  rw [Arr, Below.heap_setCell _ _ _ _ (by omega)]; exact h
theorem Arr.drewN {w : World} {g T : Nat} {fs : List Int} (h : Arr w g T fs) (m : Nat) : Arr (w.drewN m) g T fs := h
theorem Arr.below {B : Nat} {w w' : World} {g T : Nat} {fs : List Int} (h : Arr w g T fs) (hg : g < B) (hb : Below B w w') : Arr w' g T fs := (hb.block g hg).trans h
theorem Arr.alloc {w : World} {g T : Nat} {fs : List Int} (h : Arr w g T fs) (o : Obj) : Arr (w.alloc o) g T fs := (Below.heap_alloc w o g h.lt).trans h
theorem Arr.made (w : World) (T : Nat) (fs : List Int) : Arr (w.alloc (.cells (fs.map (Value.int .i64)).toArray T)) w.heap.size T fs := heap_alloc_new w _

section
variable {P : Program} (w : World)
theorem run_items (d e : Nat) (xs ys : List Int) (he : P.underlying e = some (.int .i64)) (is : List Nat) (hx : ∀ i ∈ is, i < xs.length) (hy : ∀ i ∈ is, i < ys.length) :
    (Op.eqItems (d + 1) e 1 (xs.map (Value.int .i64)).toArray (ys.map (Value.int .i64)).toArray is).run P w = .ok (is.all fun i => el xs i == el ys i) w := by
  induction is with
  | nil => simp [Op.eqItems]
  | cons i is ih =>
    have hxi := hx i (by simp)
    have hyi := hy i (by simp)
    have px : (part e (xs.map (Value.int .i64)).toArray (i * 1)).run P w = .ok (.int .i64 (el xs i)) w := by
      simp [part, isAgg, run_underlying he, el, hxi]
    have py : (part e (ys.map (Value.int .i64)).toArray (i * 1)).run P w = .ok (.int .i64 (el ys i)) w := by
      simp [part, isAgg, run_underlying he, el, hyi]
    have pe := run_equalIn_int (P := P) w d e .i64 .i64 (el xs i) (el ys i) he
    simp only [Op.eqItems, Sem.run_bind, px, py, pe, Result.andThen_ok, List.all_cons]
    cases hb : (el xs i == el ys i)
    · simp
    · simp only [Bool.not_true, Bool.false_eq_true, if_false, Bool.true_and]
      exact ih (fun j hj => hx j (by simp [hj])) (fun j hj => hy j (by simp [hj]))

theorem run_eql_arr (t e n : Nat) {i : TypeInfo} (xs ys : List Int) (hu : P.underlying t = some (.array n e)) (hi : P.info? e = some i) (hc : P.cellsOf e = 1) (he : P.underlying e = some (.int .i64)) (hx : xs.length = n) (hy : ys.length = n) :
    (binOp .eql t (.agg (xs.map (Value.int .i64)).toArray) (.agg (ys.map (Value.int .i64)).toArray)).run P w = .ok (.bool (decide (xs = ys))) w := by
  rw [run_eql_struct, run_equalIn_array w 9999 _ _ hu hi, hc, run_items w 9998 e xs ys he _ (fun i hi => by have := List.mem_range.1 hi; omega) (fun i hi => by have := List.mem_range.1 hi; omega)]
  simp only [Result.andThen_ok]
  congr 2
  rw [Bool.eq_iff_iff, List.all_eq_true, decide_eq_true_iff]
  constructor
  · intro h
    exact ext_el (by omega) (fun j hj => by have := h j (by simp; omega); simpa using this)
  · intro h i _
    simp [h]
end

end Go.Proofs.Ytjgaglfinpeeoac

/- The lists and numbers that the functions give, as plain functions of lists. No condition. -/
namespace Go.Proofs.Ytjgaglfinpeeoac

/-- What a function of orders gives: a list for an order, nil for other numbers. -/
def onV (xs ys : List Int) : List Int := if Valid xs then ys else []
theorem onV_yes {xs ys : List Int} (h : Valid xs) : onV xs ys = ys := if_pos h
theorem onV_no {xs ys : List Int} (h : ¬ Valid xs) : onV xs ys = [] := if_neg h

/-! The lists that the functions make. -/
def rise (n : Nat) : List Int := (List.range n).map fun (k : Nat) => (k : Int)
theorem map_range_succ (g : Nat → Int) (k : Nat) : (List.range (k + 1)).map g = (List.range k).map g ++ [g k] := by simp [List.range_succ]
theorem rise_len (n : Nat) : (rise n).length = n := by simp [rise]
theorem rise_succ (n : Nat) : rise (n + 1) = rise n ++ [(n : Int)] := by simp [rise, List.range_succ]
def inv (xs : List Int) : List Int := iter (fun (a : List Int) k => a.set (el xs k).toNat (k : Int)) (List.replicate xs.length 0) xs.length
def turn (xs : List Int) : List Int := (List.range xs.length).map fun k => el xs (xs.length - 1 - k)
def turnI (xs : List Int) : List Int := iter (fun a k => a.set (xs.length - 1 - k) (el xs k)) (List.replicate xs.length 0) xs.length
def opp (xs : List Int) : List Int := (List.range xs.length).map fun k => (xs.length : Int) - 1 - el xs k

theorem inv_len (xs : List Int) (k : Nat) : (iter (fun (a : List Int) k => a.set (el xs k).toNat (k : Int)) (List.replicate xs.length 0) k).length = xs.length :=
  (iter_len (fun _ _ => List.length_set) _ k).trans List.length_replicate
theorem turnI_len (xs : List Int) (k : Nat) : (iter (fun a k => a.set (xs.length - 1 - k) (el xs k)) (List.replicate xs.length 0) k).length = xs.length :=
  (iter_len (fun _ _ => List.length_set) _ k).trans List.length_replicate

theorem turnI_eq (xs : List Int) : turnI xs = turn xs := by
  have key : ∀ k, k ≤ xs.length → ∀ j, j < xs.length → xs.length - 1 - j < k → el (iter (fun a k => a.set (xs.length - 1 - k) (el xs k)) (List.replicate xs.length 0) k) j = el xs (xs.length - 1 - j) := by
    intro k
    induction k with
    | zero => intro _ j _ hj; omega
    | succ k ih =>
      intro hk j hj hjk
      rw [iter]
      by_cases e : xs.length - 1 - k = j
      · subst e
        rw [el_set_same (by rw [turnI_len]; exact hj)]
        congr 1; omega
      · rw [el_set_ne e, ih (by omega) j hj (by omega)]
  refine ext_el (by rw [turnI, turnI_len, turn, map_range_len]) (fun j hj => ?_)
  rw [turnI, turnI_len] at hj
  rw [turnI, key _ (Nat.le_refl _) j hj (by omega), turn, el_map hj]

/-- How many of the first k numbers have the property. -/
def cntP (p : Nat → Bool) : Nat → Int
  | 0 => 0
  | k + 1 => if p k then cntP p k + 1 else cntP p k
theorem cntP_bd (p : Nat → Bool) (k : Nat) : 0 ≤ cntP p k ∧ cntP p k ≤ k := by
  induction k with
  | zero => exact ⟨Int.le_refl _, Int.le_refl _⟩
  | succ k ih => rw [cntP]; split <;> omega
theorem cntP_yes {p : Nat → Bool} {k : Nat} (h : p k = true) : cntP p (k + 1) = cntP p k + 1 := by rw [cntP, if_pos h]
theorem cntP_no {p : Nat → Bool} {k : Nat} (h : p k = false) : cntP p (k + 1) = cntP p k := by rw [cntP, h]; simp

/-- How many lesser numbers stand behind place i, among the first t behind it. -/
def lbP (xs : List Int) (i t : Nat) : Int := cntP (fun j => decide (el xs (i + 1 + j) < el xs i)) t
def lb (xs : List Int) (i : Nat) : Int := lbP xs i (xs.length - 1 - i)
theorem lbP_bd (xs : List Int) (i t : Nat) : 0 ≤ lbP xs i t ∧ lbP xs i t ≤ t := cntP_bd _ _
theorem lbP_zero (xs : List Int) (i : Nat) : lbP xs i 0 = 0 := rfl
theorem lbP_yes {xs : List Int} {i t : Nat} (h : el xs (i + 1 + t) < el xs i) : lbP xs i (t + 1) = lbP xs i t + 1 := cntP_yes (by simpa using h)
theorem lbP_no {xs : List Int} {i t : Nat} (h : el xs i ≤ el xs (i + 1 + t)) : lbP xs i (t + 1) = lbP xs i t := cntP_no (by simpa using h)
def table (xs : List Int) : List Int := (List.range xs.length).map (lb xs)
theorem table_len (xs : List Int) : (table xs).length = xs.length := map_range_len _
theorem el_table {xs : List Int} {j : Nat} (h : j < xs.length) : el (table xs) j = lb xs j := el_map h
theorem lb_bd (xs : List Int) (i : Nat) : 0 ≤ lb xs i ∧ lb xs i ≤ xs.length := by
  have := lbP_bd xs i (xs.length - 1 - i)
  unfold lb
  omega
theorem table_bd (xs : List Int) : ∀ j, j < (table xs).length → 0 ≤ el (table xs) j ∧ el (table xs) j ≤ xs.length := fun j hj => by
  rw [table_len] at hj
  rw [el_table hj]
  exact lb_bd xs j

/-- The sum of the first k numbers. -/
def sumTo (xs : List Int) : Nat → Int
  | 0 => 0
  | k + 1 => sumTo xs k + el xs k
def sumL (xs : List Int) : Int := sumTo xs xs.length
theorem sumTo_bd {xs : List Int} {M : Nat} (h : ∀ j, j < xs.length → 0 ≤ el xs j ∧ el xs j ≤ M) : ∀ k, k ≤ xs.length → 0 ≤ sumTo xs k ∧ sumTo xs k ≤ k * M := by
  intro k
  induction k with
  | zero => intro _; simp [sumTo]
  | succ k ih =>
    intro hk
    have h1 := ih (by omega)
    have h2 := h k (by omega)
    rw [sumTo]
    have e : ((k + 1 : Nat) : Int) * M = k * M + M := by rw [Int.natCast_add, Int.add_mul]; simp
    omega
/-- What a function of orders answers: a number for an order, another one for other numbers. -/
def onVi (xs : List Int) (v d : Int) : Int := if Valid xs then v else d
theorem onVi_yes {xs : List Int} {v d : Int} (h : Valid xs) : onVi xs v d = v := if_pos h
theorem onVi_no {xs : List Int} {v d : Int} (h : ¬ Valid xs) : onVi xs v d = d := if_neg h

/-- The places among the first k behind which a lesser number stands. -/
def dsP (xs : List Int) : Nat → List Int
  | 0 => []
  | k + 1 => if el xs (k + 1) < el xs k then dsP xs k ++ [(k : Int)] else dsP xs k
def desc (xs : List Int) : List Int := dsP xs (xs.length - 1)
theorem dsP_yes {xs : List Int} {k : Nat} (h : el xs (k + 1) < el xs k) : dsP xs (k + 1) = dsP xs k ++ [(k : Int)] := by rw [dsP, if_pos h]
theorem dsP_no {xs : List Int} {k : Nat} (h : el xs k ≤ el xs (k + 1)) : dsP xs (k + 1) = dsP xs k := by rw [dsP, if_neg (by omega)]
theorem dsP_len (xs : List Int) (k : Nat) : (dsP xs k).length ≤ k := by
  induction k with
  | zero => simp [dsP]
  | succ k ih =>
    rw [dsP]
    split
    · rw [List.length_append, List.length_singleton]; omega
    · omega
theorem dsP_mem (xs : List Int) (k : Nat) : ∀ x ∈ dsP xs k, 0 ≤ x ∧ x < k := by
  induction k with
  | zero => intro x hx; simp [dsP] at hx
  | succ k ih =>
    intro x hx
    rw [dsP] at hx
    split at hx
    · rw [List.mem_append, List.mem_singleton] at hx
      rcases hx with hx | hx
      · have := ih x hx; omega
      · omega
    · have := ih x hx; omega
theorem el_mem {xs : List Int} {j : Nat} (h : j < xs.length) : el xs j ∈ xs := by rw [el_lt h]; exact List.getElem_mem h
theorem desc_len (xs : List Int) : (desc xs).length ≤ xs.length - 1 := dsP_len _ _
theorem desc_small {xs : List Int} (h : xs.length ≤ 1000) : ∀ j, j < (desc xs).length → 0 ≤ el (desc xs) j ∧ el (desc xs) j ≤ (1000 : Nat) := fun j hj => by
  have : 0 ≤ el (desc xs) j ∧ el (desc xs) j < (xs.length - 1 : Nat) := dsP_mem xs _ _ (el_mem hj)
  omega
def major (xs : List Int) : Int := sumL (desc xs) + (desc xs).length
theorem sumL_bd {xs : List Int} {M L : Nat} (h : ∀ j, j < xs.length → 0 ≤ el xs j ∧ el xs j ≤ M) (hl : xs.length ≤ L) : 0 ≤ sumL xs ∧ sumL xs ≤ L * M := by
  have h1 := sumTo_bd h xs.length (Nat.le_refl _)
  refine ⟨h1.1, Int.le_trans h1.2 (Int.mul_le_mul_of_nonneg_right (by omega) (by omega))⟩
def sgn (xs : List Int) : Int := 1 - 2 * (sumL (table xs) % 2)

/-- One list moved up by a, and another one moved up by b behind it. -/
def up (xs : List Int) (a : Int) : List Int := (List.range xs.length).map fun j => el xs j + a
def join (xs : List Int) (a : Int) (ys : List Int) (b : Int) : List Int := up xs a ++ up ys b
theorem up_len (xs : List Int) (a : Int) : (up xs a).length = xs.length := map_range_len _
theorem up_zero (xs : List Int) : up xs 0 = xs := ext_el (up_len xs 0) (fun j hj => by rw [up_len] at hj; rw [up, el_map hj]; omega)
theorem up_app (xs : List Int) (g : Nat → Int) (k : Nat) : xs ++ (List.range (k + 1)).map g = (xs ++ (List.range k).map g) ++ [g k] := by rw [map_range_succ, List.append_assoc]
/-- Two orders that may be put behind each other. -/
def Two (xs ys : List Int) : Prop := Valid xs ∧ Valid ys ∧ xs.length + ys.length ≤ 7
instance (xs ys : List Int) : Decidable (Two xs ys) := inferInstanceAs (Decidable (_ ∧ _ ∧ _))
def onT (xs ys zs : List Int) : List Int := if Two xs ys then zs else []
theorem onT_yes {xs ys zs : List Int} (h : Two xs ys) : onT xs ys zs = zs := if_pos h
theorem onT_no {xs ys zs : List Int} (h : ¬ Two xs ys) : onT xs ys zs = [] := if_neg h

/-- Two orders of one length. -/
def Mat (xs ys : List Int) : Prop := Valid xs ∧ Valid ys ∧ xs.length = ys.length
instance (xs ys : List Int) : Decidable (Mat xs ys) := inferInstanceAs (Decidable (_ ∧ _ ∧ _))
def onM (xs ys zs : List Int) : List Int := if Mat xs ys then zs else []
theorem onM_yes {xs ys zs : List Int} (h : Mat xs ys) : onM xs ys zs = zs := if_pos h
theorem onM_no {xs ys zs : List Int} (h : ¬ Mat xs ys) : onM xs ys zs = [] := if_neg h
def comp (xs ys : List Int) : List Int := (List.range ys.length).map fun k => el xs (el ys k).toNat

/-- The numbers are the table of an order. -/
structure VT (ts : List Int) : Prop where
  len : ts.length ≤ 7
  lo : ∀ j, j < ts.length → 0 ≤ el ts j
  hi : ∀ j, j < ts.length → el ts j ≤ (ts.length : Int) - 1 - j
theorem vt_iff (ts : List Int) : VT ts ↔ (ts.length ≤ 7 ∧ (∀ j, j < ts.length → 0 ≤ el ts j) ∧ ∀ j, j < ts.length → el ts j ≤ (ts.length : Int) - 1 - j) :=
  ⟨fun h => ⟨h.len, h.lo, h.hi⟩, fun h => ⟨h.1, h.2.1, h.2.2⟩⟩
instance (ts : List Int) : Decidable (VT ts) := decidable_of_iff _ (vt_iff ts).symm

end Go.Proofs.Ytjgaglfinpeeoac

/- The walk's laws for the lists of numbers that the functions make: make, append of one number, and lists that a step builds. No condition. -/
namespace Go.Proofs.Ytjgaglfinpeeoac
open Go.RowKit

theorem infoI : (Try.prog.info? 3).map (fun i => (i.zero, i.size, i.bytes)) = some (some (.int .i64 0), 1, 8) := by kernel_rfl

/-- make([]int, n). -/
theorem make_ints (w : World) {ops : Array Oper} {rest : List Oper} {o : Oper} {a : Act} {Q : Exit → Act → World → Prop}
    (hg : o.guard = none) (l c : Operand) (hop : o.op = Op.makeSlice 28 l c) (L C : Int) (n : Nat) (hl : a.eval l = .int .i64 L) (hc : a.eval c = .int .i64 C) (hL : L = (n : Int)) (hC : C = (n : Int)) (hn : n ≤ 2000000)
    (hK : ∀ w', OwS w' w.heap.size w.heap.size n n (List.replicate n 0) → Below w.heap.size w w' → wpList Try.prog ops Q rest (a.put o.dst (.slice (some ⟨w.heap.size, 0, none⟩) n n)) w') :
    wpList Try.prog ops Q (o :: rest) a w := by
  obtain ⟨i0, hi, hz0, hz1, hz2⟩ := info_parts infoI
  refine wpList_make_full w hg l c 28 hop w.heap.size 3 i0 (.int .i64 0) 1 Try.underlying28 hi hz0 hz1 _ _ _ _ n hl hc hL hC (by rw [hz2]; omega) (by unfold maxLen; omega) (Nat.le_refl _) ?_
  intro w' hown hgrow
  refine hK w' ?_ ((Below.refl _ _).grown hgrow (Nat.le_refl _) (fun k hk => by simp at hk))
  unfold OwS
  have e : (madeCells (Value.cells (.int .i64 0)) (n * 1)).toList = (List.replicate n (0 : Int)).map (Value.int .i64) := by
    rw [Nat.mul_one, show Value.cells (.int .i64 0) = #[Value.int .i64 0] from rfl, toList_madeCells_one, List.map_replicate]
  rw [← e]; exact hown

/-- append(out, v), out the call's own. -/
theorem app_int (w : World) (v : Int) {ops : Array Oper} {rest : List Oper} {o : Oper} {a : Act} {Q : Exit → Act → World → Prop}
    (hg : o.guard = none) (s x : Operand) (hop : o.op = Op.call { callee := Callee.builtin Builtin.append, args := #[s, x], argTypes := #[28, 28] })
    (B : Nat) (u : Value) (ys : List Int) (hs : a.eval s = u) (hown : Own w B u ys) (hx : a.eval x = .slice (some ⟨w.heap.size, 0, none⟩) 1 1) (hlen : ys.length ≤ 2000000) (hB : B ≤ w.heap.size)
    (hK : ∀ u' w', Own w' B u' (ys ++ [v]) → w.grownBy w' u.ownBlock → wpList Try.prog ops Q rest (a.put o.dst u') w') :
    wpList Try.prog ops Q (o :: rest) a (w.alloc (.cells #[.int .i64 v] 3)) := by
  obtain ⟨i0, hi, hz0, hz1, hz2⟩ := info_parts infoI
  refine wpList_append_own _ hg s x 28 hop B 3 i0 (.int .i64 0) 1 8 Try.underlying28 hi hz0 hz1 hz2 rfl (by decide) u ys.length _ hs (World.ownsRow.alloc hown _) ⟨w.heap.size, 0, none⟩ 1 1 [.int .i64 v] hx rfl ?_ ?_ ?_ ?_ ?_ ?_
  · intro j t hj
    match j, hj with
    | 0, hj => simp at hj; subst hj; simp [Addr.add]
  · intro t ht; simp at ht; subst ht; rfl
  · unfold maxLen; omega
  · omega
  · simp; omega
  · intro v' w' hown' hgrow _
    refine hK v' w' ?_ (grown_trans (World.grownBy_alloc w _ _) hgrow)
    unfold Own
    rw [List.length_append, List.map_append]
    exact hown'

/-- append(out, p...), out the call's own, p whatever list of numbers. -/
theorem app_list (w : World) {ops : Array Oper} {rest : List Oper} {o : Oper} {a : Act} {Q : Exit → Act → World → Prop}
    (hg : o.guard = none) (s x : Operand) (hop : o.op = Op.call { callee := Callee.builtin Builtin.append, args := #[s, x], argTypes := #[28, 28] })
    (B : Nat) (u : Value) (ys : List Int) (hs : a.eval s = u) (hown : Own w B u ys) (ao : Option Addr) (n cap : Nat) (xs : List Int) (hx : a.eval x = .slice ao n cap) (hsl : Sl w ao n cap xs) (hnil : ao = none → cap = 0)
    (hlen : ys.length + n ≤ 2000000) (hB : B ≤ w.heap.size)
    (hK : ∀ u' w', Own w' B u' (ys ++ xs) → w.grownBy w' u.ownBlock → wpList Try.prog ops Q rest (a.put o.dst u') w') :
    wpList Try.prog ops Q (o :: rest) a w := by
  obtain ⟨i0, hi, hz0, hz1, hz2⟩ := info_parts infoI
  have hl := hsl.len
  cases ao with
  | none =>
    have hn : n = 0 := by
      rcases Nat.eq_zero_or_pos n with h | h
      · exact h
      · obtain ⟨b, off, hb, _⟩ := hsl.row h
        cases hb
    subst hn
    have hc := hnil rfl
    subst hc
    have hxs : xs = [] := List.eq_nil_of_length_eq_zero hl
    subst hxs
    refine wpList_append_own_none hg s x 28 hop B 3 i0 1 Try.underlying28 hi u ys.length _ hs hown hx ?_
    refine hK u w ?_ (World.grownBy.refl _ _)
    rw [List.append_nil]; exact hown
  | some ad =>
    refine wpList_append_own _ hg s x 28 hop B 3 i0 (.int .i64 0) 1 8 Try.underlying28 hi hz0 hz1 hz2 rfl (by decide) u ys.length _ hs hown ad n cap (xs.map (Value.int .i64)) hx (by simp [hl]) ?_ (ints_oneCell _ _) ?_ ?_ ?_ ?_
    · intro j t hj
      have hjn : j < n := by
        have := (List.getElem?_eq_some_iff.1 hj).1
        rw [List.length_map, hl] at this; exact this
      obtain ⟨b, off, hb, _, hc⟩ := hsl.row (by omega)
      obtain rfl := Option.some.inj hb
      rw [Addr.add_lit, hc j hjn]
      rw [List.getElem?_map, List.getElem?_eq_getElem (by omega)] at hj
      rw [el_lt (by omega)]
      exact hj
    · unfold maxLen; omega
    · omega
    · exact hB
    · intro v' w' hown' hgrow _
      refine hK v' w' ?_ hgrow
      unfold Own
      rw [List.length_append, List.map_append, hl]
      exact hown'

/-- make([]int, 0, n). -/
theorem make_cap (w : World) {ops : Array Oper} {rest : List Oper} {o : Oper} {a : Act} {Q : Exit → Act → World → Prop}
    (hg : o.guard = none) (l c : Operand) (hop : o.op = Op.makeSlice 28 l c) (C : Int) (n : Nat) (hl : a.eval l = .int .i64 0) (hc : a.eval c = .int .i64 C) (hC : C = (n : Int)) (hn : n ≤ 2000000)
    (hK : ∀ w', Own w' w.heap.size (.slice (some ⟨w.heap.size, 0, none⟩) 0 n) [] → Below w.heap.size w w' → wpList Try.prog ops Q rest (a.put o.dst (.slice (some ⟨w.heap.size, 0, none⟩) 0 n)) w') :
    wpList Try.prog ops Q (o :: rest) a w := by
  obtain ⟨i0, hi, hz0, hz1, hz2⟩ := info_parts infoI
  refine wpList_make_own w hg l c 28 hop w.heap.size 3 i0 (.int .i64 0) 1 Try.underlying28 hi hz0 hz1 _ _ _ n hl hc hC (by rw [hz2]; omega) (by unfold maxLen; omega) (Nat.le_refl _) ?_
  intro w' hown hgrow
  exact hK w' hown ((Below.refl _ _).grown hgrow (Nat.le_refl _) (fun k hk => by simp at hk))

end Go.Proofs.Ytjgaglfinpeeoac

/- Maps from texts that a call has made: what they hold, an entry put in, and a look-up. No condition. -/
namespace Go.Proofs.Ytjgaglfinpeeoac
open Go.RowKit

/-- Block b is a map that holds the entries L, in the order in which they came. -/
def MapAt (w : World) (b : Nat) (L : List (ByteArray × Value)) : Prop :=
  ∃ es clk, w.heap[b]? = some (.map es clk) ∧ es.toList.map (fun e : MapEntry => (e.key, e.val)) = L.map (fun p => (Value.string p.1, p.2))
theorem MapAt.lt {w : World} {b : Nat} {L : List (ByteArray × Value)} (h : MapAt w b L) : b < w.heap.size := by
  obtain ⟨es, clk, h1, _⟩ := h
  exact (Array.getElem?_eq_some_iff.1 h1).1
theorem MapAt.kept {w w' : World} {b : Nat} {L : List (ByteArray × Value)} (h : MapAt w b L) (hb : Below w.heap.size w w') : MapAt w' b L := by
  have hlt := h.lt
  obtain ⟨es, clk, h1, h2⟩ := h
  exact ⟨es, clk, (hb.block b hlt).trans h1, h2⟩
theorem MapAt.made (w : World) : MapAt (w.alloc (.map #[] 0)) w.heap.size [] := ⟨#[], 0, heap_alloc_new w _, rfl⟩

theorem find_no (s : ByteArray) : ∀ (es : List MapEntry) (L : List (ByteArray × Value)) (i : Nat), es.map (fun e : MapEntry => (e.key, e.val)) = L.map (fun p => (Value.string p.1, p.2)) → (∀ p ∈ L, p.1 ≠ s) → Instr.findNow .string (.string s) es i = some none := by
  intro es
  induction es with
  | nil => intro L i _ _; rfl
  | cons e es ih =>
    intro L i h hn
    cases L with
    | nil => simp at h
    | cons p L =>
      simp only [List.map_cons, List.cons.injEq, Prod.mk.injEq] at h
      have hne : (s == p.1) = false := by
        rw [Bool.eq_false_iff]
        exact fun e => hn p (by simp) ((MapKept.bytes_beq _ _).1 e).symm
      have h3 : Instr.sameNow .string (.string s) e.key = some false := by rw [h.1.1]; show some (s == p.1) = some false; rw [hne]
      rw [Instr.findNow, h3]
      exact ih L (i + 1) h.2 (fun q hq => hn q (by simp [hq]))
theorem find_yes (s : ByteArray) (v : Value) : ∀ (es : List MapEntry) (A B : List (ByteArray × Value)) (i : Nat), es.map (fun e : MapEntry => (e.key, e.val)) = (A ++ (s, v) :: B).map (fun p => (Value.string p.1, p.2)) → (∀ p ∈ A, p.1 ≠ s) → ∃ j, Instr.findNow .string (.string s) es i = some (some (j, v)) := by
  intro es
  induction es with
  | nil => intro A B i h _; simp at h
  | cons e es ih =>
    intro A B i h hn
    cases A with
    | nil =>
      simp only [List.nil_append, List.map_cons, List.cons.injEq, Prod.mk.injEq] at h
      have h3 : Instr.sameNow .string (.string s) e.key = some true := by rw [h.1.1]; show some (s == s) = some true; rw [(MapKept.bytes_beq s s).2 rfl]
      rw [Instr.findNow, h3]
      exact ⟨i, by rw [h.1.2]⟩
    | cons p A =>
      simp only [List.cons_append, List.map_cons, List.cons.injEq, Prod.mk.injEq] at h
      have hne : (s == p.1) = false := by
        rw [Bool.eq_false_iff]
        exact fun e => hn p (by simp) ((MapKept.bytes_beq _ _).1 e).symm
      have h3 : Instr.sameNow .string (.string s) e.key = some false := by rw [h.1.1]; show some (s == p.1) = some false; rw [hne]
      rw [Instr.findNow, h3]
      exact ih A B (i + 1) h.2 (fun q hq => hn q (by simp [hq]))

section
variable {P : Program} {w : World} {b : Nat} {L : List (ByteArray × Value)} {mt kt et : TypeId}
theorem run_put (hm : P.underlying mt = some (.map kt et)) (hk : P.underlying kt = some .string) (h : MapAt w b L) (s : ByteArray) (v : Value) (hn : ∀ p ∈ L, p.1 ≠ s) :
    ∃ w', (Instr.mapUpdate mt (.map (some b)) (.string s) v).run P w = .ok () w' ∧ MapAt w' b (L ++ [(s, v)]) ∧ w.grownBy w' (some b) := by
  obtain ⟨es, clk, h1, h2⟩ := h
  have hf := find_no s es.toList L 0 h2 hn
  have hc : (Instr.checkKey false 10000 kt (.string s)).run P w = .ok () w := MapKept.run_checkKey (k := .string s) hk (by simp [MapKept.IsKey]) false 9999
  refine ⟨{ w with heap := w.heap.setIfInBounds b (.map (es.push { key := .string s, val := v, born := clk }) (clk + 1)) }, ?_, ?_, ?_⟩
  · simp [Instr.mapUpdate, run_underlying hm, MapKept.run_getObj_map h1, hc, MapKept.run_findKey hk hf, MapKept.run_setObj_map _ h1, Result.andThen]
  · exact ⟨_, _, (MapKept.heap_set h1).1, by simp [h2]⟩
  · exact ⟨rfl, rfl, rfl, by simp, fun k _ hk => (MapKept.heap_set h1).2 k (fun e => hk (by rw [e]))⟩
theorem run_see (hm : P.underlying mt = some (.map kt et)) (hk : P.underlying kt = some .string) (A B : List (ByteArray × Value)) (s : ByteArray) (v : Value) (h : MapAt w b (A ++ (s, v) :: B)) (hn : ∀ p ∈ A, p.1 ≠ s) :
    (Instr.lookup mt (.map (some b)) (.string s) true).run P w = .ok (.tuple #[v, .bool true]) w := by
  obtain ⟨es, clk, h1, h2⟩ := h
  obtain ⟨j, hf⟩ := find_yes s v es.toList A B 0 h2 hn
  have hc := fun e => MapKept.run_checkKey (P := P) (w := w) (k := .string s) hk (by simp [MapKept.IsKey]) e 9999
  simp [Instr.lookup, run_underlying hm, MapKept.run_getObj_map h1, hc, MapKept.run_findKey hk hf, Result.andThen]
theorem run_unseen (hm : P.underlying mt = some (.map kt et)) (hk : P.underlying kt = some .string) (z : Value) (hz : (zeroValue et).run P w = .ok z w) (s : ByteArray) (h : MapAt w b L) (hn : ∀ p ∈ L, p.1 ≠ s) :
    (Instr.lookup mt (.map (some b)) (.string s) true).run P w = .ok (.tuple #[z, .bool false]) w := by
  obtain ⟨es, clk, h1, h2⟩ := h
  have hf := find_no s es.toList L 0 h2 hn
  have hc := fun e => MapKept.run_checkKey (P := P) (w := w) (k := .string s) hk (by simp [MapKept.IsKey]) e 9999
  simp [Instr.lookup, run_underlying hm, MapKept.run_getObj_map h1, hc, MapKept.run_findKey hk hf, Result.andThen, hz]
end

/-- m[s] = v, in a map's literal, s a new key. -/
theorem put_law {P : Program} (w : World) {ops : Array Oper} {rest : List Oper} {o : Oper} {a : Act} {Q : Exit → Act → World → Prop} (hg : o.guard = none) (m k x : Operand) (mt kt et : TypeId) (hop : o.op = Op.insert mt m k x)
    (hm : P.underlying mt = some (.map kt et)) (hk : P.underlying kt = some .string) (b : Nat) (L : List (ByteArray × Value)) (h : MapAt w b L) (s : ByteArray) (v : Value) (e1 : a.eval m = .map (some b)) (e2 : a.eval k = .string s) (e3 : a.eval x = v) (hn : ∀ p ∈ L, p.1 ≠ s)
    (hK : ∀ w', MapAt w' b (L ++ [(s, v)]) → w.grownBy w' (some b) → wpList P ops Q rest (a.put o.dst undef) w') : wpList P ops Q (o :: rest) a w := by
  obtain ⟨w', hr, h2, h3⟩ := run_put (P := P) hm hk h s v hn
  refine wpList_plain hg fun K hK' => ?_
  unfold Oper.wp
  simp [execOp, hop, e1, e2, e3, hr, Result.andThen]
  exact hK' _ _ (hK w' h2 h3)

end Go.Proofs.Ytjgaglfinpeeoac

/- The lists and numbers of the second chapter, as plain functions of lists. No condition. -/
namespace Go.Proofs.Ytjgaglfinpeeoac

/-- The places among the first k that fit with their numbers. -/
def plP (f : Int → Int → Bool) (xs : List Int) : Nat → List Int
  | 0 => []
  | k + 1 => if f k (el xs k) then plP f xs k ++ [(k : Int)] else plP f xs k
theorem plP_yes {f : Int → Int → Bool} {xs : List Int} {k : Nat} (h : f k (el xs k) = true) : plP f xs (k + 1) = plP f xs k ++ [(k : Int)] := by rw [plP, if_pos h]
theorem plP_no {f : Int → Int → Bool} {xs : List Int} {k : Nat} (h : f k (el xs k) = false) : plP f xs (k + 1) = plP f xs k := by rw [plP, h]; simp
theorem plP_len (f : Int → Int → Bool) (xs : List Int) (k : Nat) : (plP f xs k).length ≤ k := by
  induction k with
  | zero => simp [plP]
  | succ k ih =>
    rw [plP]
    split
    · rw [List.length_append, List.length_singleton]; omega
    · omega
theorem plP_mem (f : Int → Int → Bool) (xs : List Int) (k : Nat) : ∀ x ∈ plP f xs k, 0 ≤ x ∧ x < k := by
  induction k with
  | zero => intro x hx; simp [plP] at hx
  | succ k ih =>
    intro x hx
    rw [plP] at hx
    split at hx
    · rw [List.mem_append, List.mem_singleton] at hx
      rcases hx with hx | hx
      · have := ih x hx; omega
      · omega
    · have := ih x hx; omega
def upF (i u : Int) : Bool := decide (i < u)
def fixF (i u : Int) : Bool := decide (u = i)
def above (xs : List Int) : List Int := plP upF xs xs.length
def fixed (xs : List Int) : List Int := plP fixF xs xs.length
theorem above_len (xs : List Int) : (above xs).length ≤ xs.length := plP_len _ _ _
theorem fixed_len (xs : List Int) : (fixed xs).length ≤ xs.length := plP_len _ _ _

/-- The greatest of the first k numbers, or -1; the places of those that are greater than all ahead. -/
def mxP (xs : List Int) : Nat → Int
  | 0 => -1
  | k + 1 => if mxP xs k < el xs k then el xs k else mxP xs k
def rcP (xs : List Int) : Nat → List Int
  | 0 => []
  | k + 1 => if mxP xs k < el xs k then rcP xs k ++ [(k : Int)] else rcP xs k
theorem mxP_yes {xs : List Int} {k : Nat} (h : mxP xs k < el xs k) : mxP xs (k + 1) = el xs k := by rw [mxP, if_pos h]
theorem mxP_no {xs : List Int} {k : Nat} (h : el xs k ≤ mxP xs k) : mxP xs (k + 1) = mxP xs k := by rw [mxP, if_neg (by omega)]
theorem rcP_yes {xs : List Int} {k : Nat} (h : mxP xs k < el xs k) : rcP xs (k + 1) = rcP xs k ++ [(k : Int)] := by rw [rcP, if_pos h]
theorem rcP_no {xs : List Int} {k : Nat} (h : el xs k ≤ mxP xs k) : rcP xs (k + 1) = rcP xs k := by rw [rcP, if_neg (by omega)]
theorem rcP_len (xs : List Int) (k : Nat) : (rcP xs k).length ≤ k := by
  induction k with
  | zero => simp [rcP]
  | succ k ih =>
    rw [rcP]
    split
    · rw [List.length_append, List.length_singleton]; omega
    · omega
def records (xs : List Int) : List Int := rcP xs xs.length
theorem records_len (xs : List Int) : (records xs).length ≤ xs.length := rcP_len _ _

/-- How far the first k numbers are from their places. -/
def shP (xs : List Int) : Nat → Int
  | 0 => 0
  | k + 1 => shP xs k + max (el xs k - k) (k - el xs k)
def shift (xs : List Int) : Int := shP xs xs.length
theorem shP_bd {xs : List Int} (h : Valid xs) : ∀ k, k ≤ xs.length → 0 ≤ shP xs k ∧ shP xs k ≤ 7 * k := by
  intro k
  induction k with
  | zero => intro _; simp [shP]
  | succ k ih =>
    intro hk
    have h1 := ih (by omega)
    have h2 := h.lo k (by omega)
    have h3 := h.hi k (by omega)
    have h4 := h.len
    rw [shP]
    omega

/-- How many pairs of places i < k, k among the first ones, fit with their numbers. -/
def inP (f : Int → Int → Int → Int → Bool) (xs : List Int) (k t : Nat) : Int := cntP (fun i => f i (el xs i) k (el xs k)) t
def prP (f : Int → Int → Int → Int → Bool) (xs : List Int) : Nat → Int
  | 0 => 0
  | k + 1 => prP f xs k + inP f xs k k
def pairs (f : Int → Int → Int → Int → Bool) (xs : List Int) : Int := prP f xs xs.length
theorem inP_bd (f : Int → Int → Int → Int → Bool) (xs : List Int) (k t : Nat) : 0 ≤ inP f xs k t ∧ inP f xs k t ≤ t := cntP_bd _ _
theorem inP_yes {f : Int → Int → Int → Int → Bool} {xs : List Int} {k t : Nat} (h : f t (el xs t) k (el xs k) = true) : inP f xs k (t + 1) = inP f xs k t + 1 := cntP_yes h
theorem inP_no {f : Int → Int → Int → Int → Bool} {xs : List Int} {k t : Nat} (h : f t (el xs t) k (el xs k) = false) : inP f xs k (t + 1) = inP f xs k t := cntP_no h
theorem prP_bd (f : Int → Int → Int → Int → Bool) (xs : List Int) (k : Nat) : 0 ≤ prP f xs k ∧ prP f xs k ≤ k * k := by
  induction k with
  | zero => simp [prP]
  | succ k ih =>
    have := inP_bd f xs k k
    rw [prP]
    have e : ((k + 1 : Nat) : Int) * (k + 1 : Nat) = k * k + k + k + 1 := by rw [Int.natCast_add, Int.add_mul, Int.mul_add]; simp; omega
    omega
def crossF (i u k v : Int) : Bool := decide (k ≤ u) && decide (u < v) || decide (u < v) && decide (v < i)
def nestF (i u k v : Int) : Bool := decide (k ≤ v) && decide (v < u) || decide (v < u) && decide (u < i)
def denF (i u k v : Int) : Bool := decide (v < u) && (decide (i < u) == decide (k < v))

end Go.Proofs.Ytjgaglfinpeeoac

/- Foata's map and its way back, as plain functions of lists. No condition. -/
namespace Go.Proofs.Ytjgaglfinpeeoac

/-- Does z lie on the side of x that low names? -/
def sid (low : Bool) (x z : Int) : Bool := decide (z < x) == low
/-- The first i numbers of v, cut behind those of the side: the pieces that are turned, and the one that is open. -/
def tbP (low : Bool) (x : Int) (v : List Int) : Nat → List Int × List Int
  | 0 => ([], [])
  | i + 1 => if sid low x (el v i) then ((tbP low x v i).1 ++ [el v i] ++ (tbP low x v i).2, []) else ((tbP low x v i).1, (tbP low x v i).2 ++ [el v i])
theorem tbP_yes {low : Bool} {x : Int} {v : List Int} {i : Nat} (h : sid low x (el v i) = true) : tbP low x v (i + 1) = ((tbP low x v i).1 ++ [el v i] ++ (tbP low x v i).2, []) := by rw [tbP, if_pos h]
theorem tbP_no {low : Bool} {x : Int} {v : List Int} {i : Nat} (h : sid low x (el v i) = false) : tbP low x v (i + 1) = ((tbP low x v i).1, (tbP low x v i).2 ++ [el v i]) := by rw [tbP, h]; simp
theorem tbP_len (low : Bool) (x : Int) (v : List Int) (i : Nat) : (tbP low x v i).1.length + (tbP low x v i).2.length = i := by
  induction i with
  | zero => rfl
  | succ i ih =>
    rw [tbP]
    split
    · simp; omega
    · simp; omega
/-- The open piece is the end of what was looked at. -/
theorem tbP_run (low : Bool) (x : Int) (v : List Int) (i : Nat) (hi : i ≤ v.length) : (tbP low x v i).2 = (v.take i).drop (tbP low x v i).1.length := by
  induction i with
  | zero => simp [tbP]
  | succ i ih =>
    have hl := tbP_len low x v i
    rw [tbP]
    split
    · rw [List.drop_eq_nil_of_le]
      simp; omega
    · show _ = (v.take (i + 1)).drop _
      rw [take_el (by omega), List.drop_append_of_le_length (by simp; omega), ← ih (by omega)]
def lowOf (v : List Int) (x : Int) : Bool := decide (0 < v.length) && decide (el v (v.length - 1) < x)
def turnB (v : List Int) (x : Int) : List Int := (tbP (lowOf v x) x v v.length).1 ++ (tbP (lowOf v x) x v v.length).2
theorem turnB_len (v : List Int) (x : Int) : (turnB v x).length = v.length := by rw [turnB, List.length_append, tbP_len]
def foP (xs : List Int) : Nat → List Int
  | 0 => []
  | k + 1 => turnB (foP xs k) (el xs k) ++ [el xs k]
theorem foP_len (xs : List Int) (k : Nat) : (foP xs k).length = k := by
  induction k with
  | zero => rfl
  | succ k ih => rw [foP, List.length_append, turnB_len, ih]; rfl
def foat (xs : List Int) : List Int := foP xs xs.length
theorem foat_len (xs : List Int) : (foat xs).length = xs.length := foP_len _ _

/-- Numbers from the last one on, cut ahead of those of the side: the open piece at the beginning, and the pieces that are turned back. -/
def bkS (low : Bool) (x : Int) : List Int → List Int × List Int
  | [] => ([], [])
  | y :: v => if sid low x y then ([], (bkS low x v).1 ++ [y] ++ (bkS low x v).2) else (y :: (bkS low x v).1, (bkS low x v).2)
theorem bkS_len (low : Bool) (x : Int) (v : List Int) : (bkS low x v).1.length + (bkS low x v).2.length = v.length := by
  induction v with
  | nil => rfl
  | cons y v ih =>
    rw [bkS]
    split
    · simp; omega
    · simp; omega
theorem bkS_run (low : Bool) (x : Int) (v : List Int) : (bkS low x v).1 = v.take (bkS low x v).1.length := by
  induction v with
  | nil => rfl
  | cons y v ih =>
    rw [bkS]
    split
    · simp
    · simp only [List.length_cons, List.take_succ_cons]
      rw [← ih]
/-- From place j on. -/
theorem drop_cons {v : List Int} {j : Nat} (h : j < v.length) : v.drop j = el v j :: v.drop (j + 1) := by
  rw [el_lt h]; exact List.drop_eq_getElem_cons h
theorem bkS_yes {low : Bool} {x : Int} {v : List Int} {j : Nat} (hj : j < v.length) (h : sid low x (el v j) = true) : bkS low x (v.drop j) = ([], (bkS low x (v.drop (j + 1))).1 ++ [el v j] ++ (bkS low x (v.drop (j + 1))).2) := by
  rw [drop_cons hj, bkS, if_pos h]
theorem bkS_no {low : Bool} {x : Int} {v : List Int} {j : Nat} (hj : j < v.length) (h : sid low x (el v j) = false) : bkS low x (v.drop j) = (el v j :: (bkS low x (v.drop (j + 1))).1, (bkS low x (v.drop (j + 1))).2) := by
  rw [drop_cons hj, bkS, h]; simp
def lowB (v : List Int) (x : Int) : Bool := decide (0 < v.length) && decide (el v 0 < x)
def backB (v : List Int) (x : Int) : List Int := (bkS (lowB v x) x v).1 ++ (bkS (lowB v x) x v).2
theorem backB_len (v : List Int) (x : Int) : (backB v x).length = v.length := by rw [backB, List.length_append, bkS_len]
/-- The first n - t numbers after t steps back; what stands behind them is done. -/
def fbP (xs : List Int) : Nat → List Int
  | 0 => xs
  | t + 1 => backB ((fbP xs t).take ((fbP xs t).length - 1)) (el (fbP xs t) ((fbP xs t).length - 1))
def fbT (xs : List Int) : Nat → List Int
  | 0 => []
  | t + 1 => el (fbP xs t) ((fbP xs t).length - 1) :: fbT xs t
theorem fbP_len (xs : List Int) (t : Nat) : (fbP xs t).length = xs.length - t := by
  induction t with
  | zero => rfl
  | succ t ih => rw [fbP, backB_len, List.length_take, ih]; omega
theorem fbT_len (xs : List Int) (t : Nat) : (fbT xs t).length = t := by
  induction t with
  | zero => rfl
  | succ t ih => rw [fbT, List.length_cons, ih]
def fbac (xs : List Int) : List Int := fbT xs xs.length
theorem fbac_len (xs : List Int) : (fbac xs).length = xs.length := fbT_len _ _

end Go.Proofs.Ytjgaglfinpeeoac

/- A reckoning over all orders, in eight parts: those of at most six values, and those of seven by their first values. No condition. -/
namespace Go.Proofs.Ytjgaglfinpeeoac

/-- All orders of seven values that begin with x. -/
def begun (x : Int) : List (List Int) := (perms 6 ((rng 7).erase x)).map (x :: ·)
theorem Valid.parts {xs : List Int} (h : Valid xs) {p : List Int → Bool} (h6 : (allUpTo 6).all p = true) (h7 : ∀ x ∈ rng 7, (begun x).all p = true) : p xs = true := by
  by_cases e : xs.length ≤ 6
  · exact h.all' e h6
  · have e7 : xs.length = 7 := by have := h.len; omega
    have hm := h.in_orders
    rw [e7, orders] at hm
    simp only [perms, List.mem_flatMap] at hm
    obtain ⟨x, hx, hm⟩ := hm
    exact List.all_eq_true.1 (h7 x hx) xs hm
theorem seven {P : Int → Prop} (h0 : P 0) (h1 : P 1) (h2 : P 2) (h3 : P 3) (h4 : P 4) (h5 : P 5) (h6 : P 6) : ∀ x ∈ rng 7, P x := by
  intro x hx
  have := (mem_rng 7 x).1 hx
  obtain ⟨v, rfl⟩ := Int.eq_ofNat_of_zero_le this.1
  match v, this.2 with
  | 0, _ => exact h0
  | 1, _ => exact h1
  | 2, _ => exact h2
  | 3, _ => exact h3
  | 4, _ => exact h4
  | 5, _ => exact h5
  | 6, _ => exact h6
  | v + 7, h => exact absurd h (by omega)

end Go.Proofs.Ytjgaglfinpeeoac

