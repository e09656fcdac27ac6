/- Texts of this claim put into one: Pure, Kit, Mirror, Ops, Fin, ValidI, Ord1I, Valid, Ord1S, Tab, Desc, LawFn, Draw, Reg, Draw2, Draw3, Draw4. -/
import Derived.WalkKit
import Derived.ProofKit
import Derived.Handy
import Derived.Outline
import Derived.WalkLawsBesides
import Derived.WalkSpells
import Derived.Deep.QuietTactic
import Derived.BigQuiet
import Derived.ChangeKeysEq
import Derived.Laws.AppendOwnNone
import Derived.Test.YtpokoknapapdcaaChecked
import Derived.Deep.RegionLaw
/- The plain mathematics of orders: which lists of numbers are orders, and that there are finitely many of them, so that what is to be shown of all orders may be reckoned. No condition. -/
namespace Go.Proofs.Ytpokoknapapdcaa

/-- The number at place k. -/
def el (xs : List Int) (k : Nat) : Int := xs.getD k 0

theorem el_lt {xs : List Int} {k : Nat} (h : k < xs.length) : el xs k = xs[k] := by simp [el, h]
theorem el_set_same {xs : List Int} {k : Nat} {v : Int} (h : k < xs.length) : el (xs.set k v) k = v := by simp [el, h]
theorem el_set_ne {xs : List Int} {j k : Nat} {v : Int} (h : k ≠ j) : el (xs.set k v) j = el xs j := by simp [el, List.getD, h]
theorem take_el {xs : List Int} {k : Nat} (h : k < xs.length) : xs.take (k + 1) = xs.take k ++ [el xs k] := by
  rw [List.take_succ_eq_append_getElem h, el_lt h]
theorem ext_el {xs ys : List Int} (h : xs.length = ys.length) (hj : ∀ j, j < xs.length → el xs j = el ys j) : xs = ys := by
  apply List.ext_getElem h
  intro j h1 h2
  have := hj j h1
  rwa [el_lt h1, el_lt h2] at this

/-- The numbers are an order: at most seven, each of 0, 1, .. once. -/
structure Valid (xs : List Int) : Prop where
  len : xs.length ≤ 7
  lo : ∀ j, j < xs.length → 0 ≤ el xs j
  hi : ∀ j, j < xs.length → el xs j < xs.length
  ne : ∀ i j, i < j → j < xs.length → el xs i ≠ el xs j

theorem valid_iff (xs : List Int) : Valid xs ↔ (xs.length ≤ 7 ∧ (∀ j, j < xs.length → 0 ≤ el xs j) ∧ (∀ j, j < xs.length → el xs j < xs.length) ∧ ∀ j, j < xs.length → ∀ i, i < j → el xs i ≠ el xs j) :=
  ⟨fun h => ⟨h.len, h.lo, h.hi, fun j hj i hij => h.ne i j hij hj⟩, fun h => ⟨h.1, h.2.1, h.2.2.1, fun i j hij hj => h.2.2.2 j hj i hij⟩⟩
instance (xs : List Int) : Decidable (Valid xs) := decidable_of_iff _ (valid_iff xs).symm

/-- Lists of equal length, place by place: what the walks learn, step by step. -/
theorem upto_step {P : Nat → Prop} {k : Nat} (h : ∀ j, j < k → P j) (hk : P k) : ∀ j, j < k + 1 → P j := fun j hj => by
  by_cases e : j = k
  · rw [e]; exact hk
  · exact h j (by omega)
theorem not_ne {a b : Int} (h : (a == b) = true) : a = b := by simpa using h
theorem is_ne {a b : Int} (h : (a == b) = false) : a ≠ b := by simpa using h
theorem nn_ne {a b : Int} (h : (a != b) = true) : a ≠ b := by simpa using h
theorem nn_eq {a b : Int} (h : (a != b) = false) : a = b := by simpa using h

def rng : Nat → List Int
  | 0 => []
  | n + 1 => rng n ++ [(n : Int)]

/-- All lists that take f of the numbers av, each once. -/
def perms : Nat → List Int → List (List Int)
  | 0, _ => [[]]
  | f + 1, av => av.flatMap fun x => (perms f (av.erase x)).map (x :: ·)

/-- All orders of n values. -/
def orders (n : Nat) : List (List Int) := perms n (rng n)

/-- All orders of at most seven values. -/
def allUpTo (m : Nat) : List (List Int) := (List.range (m + 1)).flatMap orders

theorem mem_rng (n : Nat) (x : Int) : x ∈ rng n ↔ 0 ≤ x ∧ x < n := by
  induction n with
  | zero => simp [rng]
  | succ n ih => simp [rng, ih]; omega

theorem mem_perms : ∀ (xs av : List Int), (∀ x ∈ xs, x ∈ av) → xs.Nodup → xs ∈ perms xs.length av := by
  intro xs
  induction xs with
  | nil => intro av _ _; simp [perms]
  | cons x xs ih =>
    intro av hsub hnd
    rw [List.length_cons]
    simp only [perms, List.mem_flatMap, List.mem_map]
    rw [List.nodup_cons] at hnd
    refine ⟨x, hsub x (by simp), xs, ih _ ?_ hnd.2, rfl⟩
    intro y hy
    have hyx : y ≠ x := fun e => hnd.1 (e ▸ hy)
    exact (List.mem_erase_of_ne hyx).2 (hsub y (by simp [hy]))

theorem Valid.nodup {xs : List Int} (h : Valid xs) : xs.Nodup := by
  rw [List.nodup_iff_pairwise_ne, List.pairwise_iff_getElem]
  intro i j hi hj hij
  have := h.ne i j hij hj
  rwa [el_lt hi, el_lt hj] at this

theorem Valid.mem {xs : List Int} (h : Valid xs) {x : Int} (hx : x ∈ xs) : 0 ≤ x ∧ x < xs.length := by
  obtain ⟨j, hj, rfl⟩ := List.mem_iff_getElem.1 hx
  have h1 := h.lo j hj
  have h2 := h.hi j hj
  rw [el_lt hj] at h1 h2
  exact ⟨h1, h2⟩

theorem Valid.in_orders {xs : List Int} (h : Valid xs) : xs ∈ orders xs.length :=
  mem_perms xs _ (fun _ hx => (mem_rng _ _).2 (h.mem hx)) h.nodup

theorem Valid.in_all {xs : List Int} (h : Valid xs) : xs ∈ allUpTo 7 := by
  unfold allUpTo
  rw [List.mem_flatMap]
  exact ⟨xs.length, by have := h.len; simp; omega, h.in_orders⟩

/-- What a reckoning shows of every order holds of every order. -/
theorem Valid.all {xs : List Int} (h : Valid xs) {p : List Int → Bool} (hp : (allUpTo 7).all p = true) : p xs = true :=
  List.all_eq_true.1 hp xs h.in_all

theorem Valid.all' {xs : List Int} (h : Valid xs) {m : Nat} (hm : xs.length ≤ m) {p : List Int → Bool} (hp : (allUpTo m).all p = true) : p xs = true := by
  refine List.all_eq_true.1 hp xs ?_
  unfold allUpTo
  rw [List.mem_flatMap]
  exact ⟨xs.length, by simp; omega, h.in_orders⟩

theorem count_take {xs : List Int} {k : Nat} (h : k < xs.length) (v : Int) : (xs.take (k + 1)).count v = (xs.take k).count v + if el xs k = v then 1 else 0 := by
  rw [take_el h, List.count_append, List.count_singleton]
  simp

theorem count_two {xs : List Int} {i j : Nat} (hij : i < j) (hj : j < xs.length) (h : el xs i = el xs j) : 2 ≤ xs.count (el xs j) := by
  have h1 : xs.count (el xs j) = (xs.take j).count (el xs j) + (xs.drop j).count (el xs j) := by rw [← List.count_append, List.take_append_drop]
  have h2 : 0 < (xs.take j).count (el xs j) := by
    rw [List.count_pos_iff, ← h, el_lt (by omega)]
    exact List.mem_take_iff_getElem.2 ⟨i, by omega, rfl⟩
  have h3 : 0 < (xs.drop j).count (el xs j) := by
    rw [List.count_pos_iff, el_lt hj]
    exact List.mem_drop_iff_getElem.2 ⟨0, by simpa using hj, rfl⟩
  omega

/-- State a after k steps. -/
def iter {α : Type} (f : α → Nat → α) (a : α) : Nat → α
  | 0 => a
  | k + 1 => f (iter f a k) k

theorem iter_len {f : List Int → Nat → List Int} (hf : ∀ a k, (f a k).length = a.length) (a : List Int) (k : Nat) : (iter f a k).length = a.length := by
  induction k with
  | zero => rfl
  | succ k ih => rw [iter, hf, ih]

theorem iter_app {g : Nat → Int} (n : Nat) : iter (fun a k => a ++ [g k]) [] n = (List.range n).map g := by
  induction n with
  | zero => rfl
  | succ n ih => rw [iter, ih, List.range_succ, List.map_append]; rfl

theorem map_range_len {g : Nat → Int} (n : Nat) : ((List.range n).map g).length = n := by simp
theorem el_map {g : Nat → Int} {n j : Nat} (h : j < n) : el ((List.range n).map g) j = g j := by simp [el, h]

theorem iter_set {g : Nat → Int} (n : Nat) : iter (fun a k => a.set k (g k)) (List.replicate n 0) n = (List.range n).map g := by
  have key : ∀ k, k ≤ n → (iter (fun a k => a.set k (g k)) (List.replicate n 0) k).length = n ∧ ∀ j, j < k → el (iter (fun a k => a.set k (g k)) (List.replicate n 0) k) j = g j := by
    intro k
    induction k with
    | zero => intro _; exact ⟨by simp [iter], fun j hj => by omega⟩
    | succ k ih =>
      intro hk
      obtain ⟨h1, h2⟩ := ih (by omega)
      refine ⟨by simp [iter, h1], fun j hj => ?_⟩
      rw [iter]
      by_cases e : j = k
      · rw [e, el_set_same (by rw [h1]; omega)]
      · rw [el_set_ne (by omega), h2 j (by omega)]
  refine ext_el (by rw [(key n (Nat.le_refl _)).1]; simp) (fun j hj => ?_)
  rw [(key n (Nat.le_refl _)).1] at hj
  rw [(key n (Nat.le_refl _)).2 j hj, el_map hj]

end Go.Proofs.Ytpokoknapapdcaa

/- Words for what the walks say of memory: a slice of numbers that is read, a slice that a call has made, and how both fare in later worlds. No condition. -/
namespace Go.Proofs.Ytpokoknapapdcaa
open Go.RowKit

/-- The slice value with address ao, length n and capacity cap reads as the numbers xs. -/
structure Sl (w : World) (ao : Option Addr) (n cap : Nat) (xs : List Int) : Prop where
  len : xs.length = n
  le : n ≤ cap
  max : cap ≤ maxLen
  row : 0 < n → ∃ b off, ao = some ⟨b, off, none⟩ ∧ b < w.heap.size ∧ ∀ j, j < n → w.cell? ⟨b, off + j, none⟩ = some (.int .i64 (el xs j))

/-- What a call has made: the slice value u owns the numbers ys, in a block from B on. -/
def Own (w : World) (B : Nat) (u : Value) (ys : List Int) : Prop := w.ownsRow B 3 1 u ys.length (ys.map (Value.int .i64))

/-- The same with its place known: block g, length n, capacity cap. -/
def OwS (w : World) (B g n cap : Nat) (ys : List Int) : Prop := w.ownsRow B 3 1 (.slice (some ⟨g, 0, none⟩) n cap) n (ys.map (Value.int .i64))

theorem OwS.len {w : World} {B g n cap : Nat} {ys : List Int} (h : OwS w B g n cap ys) : ys.length = n := by
  have := h.1
  simpa using this

theorem OwS.own {w : World} {B g n cap : Nat} {ys : List Int} (h : OwS w B g n cap ys) : Own w B (.slice (some ⟨g, 0, none⟩) n cap) ys := by
  have := h.len
  subst this
  exact h

theorem OwS.cell {w : World} {B g n cap : Nat} {ys : List Int} (h : OwS w B g n cap ys) {j : Nat} (hj : j < n) : w.cell? ⟨g, j, none⟩ = some (.int .i64 (el ys j)) := by
  have h1 := World.ownsRow.cellAt h j (by omega)
  rw [h1]
  have := h.len
  simp [el, show j < ys.length by omega]

theorem OwS.frozen {w : World} {B g n cap : Nat} {ys : List Int} (h : OwS w B g n cap ys) (j : Nat) : w.frozen? ⟨g, j, none⟩ = false := World.ownsRow.frozenAt h j

theorem OwS.set {w : World} {B g n cap : Nat} {ys : List Int} (h : OwS w B g n cap ys) (j : Nat) (v : Int) : OwS (w.setCell ⟨g, j, none⟩ (.int .i64 v)) B g n cap (ys.set j v) := by
  have := (World.ownsRow.stored h j (.int .i64 v)).1
  rwa [← List.map_set] at this

theorem OwS.lt {w : World} {B g n cap : Nat} {ys : List Int} (h : OwS w B g n cap ys) : B ≤ g ∧ g < w.heap.size := World.ownsRow.lt h g rfl

theorem OwS.sl {w : World} {B g n cap : Nat} {ys : List Int} (h : OwS w B g n cap ys) : Sl w (some ⟨g, 0, none⟩) n cap ys := by
  have h0 := h
  rcases h.2 with ⟨h1, _⟩ | ⟨g', cap', cur, hv, hB, hg, h1, h2, h3, h4⟩
  · simp at h1
  · simp only [Value.slice.injEq, Option.some.injEq, Addr.mk.injEq, and_true, true_and] at hv
    obtain ⟨rfl, rfl⟩ := hv
    exact ⟨h.len, h1, h2, fun _ => ⟨g, 0, rfl, h0.lt.2, fun j hj => by rw [Nat.zero_add]; exact h0.cell hj⟩⟩

theorem OwS.drewN {w : World} {B g n cap : Nat} {ys : List Int} (h : OwS w B g n cap ys) (m : Nat) : OwS (w.drewN m) B g n cap ys := h

/-- A store into another block. -/
theorem OwS.other {w : World} {B g n cap : Nat} {ys : List Int} (h : OwS w B g n cap ys) {a : Addr} (ha : a.block ≠ g) (v : Value) : OwS (w.setCell a v) B g n cap ys := by
  refine ⟨h.1, ?_⟩
  rcases h.2 with ⟨h1, _⟩ | ⟨g', cap', cur, hv, hB, hg, r⟩
  · simp at h1
  · have : g' = g := by simp at hv; omega
    subst this
    exact Or.inr ⟨g', cap', cur, hv, hB, by rw [Below.heap_setCell _ _ _ _ (by omega)]; exact hg, r⟩

theorem Sl.later {w w' : World} {ao : Option Addr} {n cap : Nat} {xs : List Int} (h : Sl w ao n cap xs) (hb : Below w.heap.size w w') : Sl w' ao n cap xs := by
  refine ⟨h.len, h.le, h.max, fun hn => ?_⟩
  obtain ⟨b, off, rfl, hlt, hc⟩ := h.row hn
  exact ⟨b, off, rfl, Nat.lt_of_lt_of_le hlt hb.size, fun j hj => (hb.cell hlt).trans (hc j hj)⟩

theorem Sl.below {B : Nat} {w w' : World} {ao : Option Addr} {n cap : Nat} {xs : List Int} (h : Sl w ao n cap xs) (hB : w.heap.size ≤ B) (hb : Below B w w') : Sl w' ao n cap xs := h.later (hb.mono hB)

theorem Sl.nil {w : World} : Sl w none 0 0 [] := ⟨rfl, Nat.le_refl _, Nat.zero_le _, fun h => by omega⟩

theorem Sl.big {w : World} {ao : Option Addr} {n cap : Nat} {xs : List Int} (h : Sl w ao n cap xs) : n ≤ 9223372036854775807 := by
  have := h.le
  have := h.max
  unfold maxLen at this
  omega

theorem Own.place {w : World} {B : Nat} {u : Value} {ys : List Int} (h : Own w B u ys) : (u = .slice none 0 0 ∧ ys = []) ∨ ∃ g cap, u = .slice (some ⟨g, 0, none⟩) ys.length cap ∧ OwS w B g ys.length cap ys := by
  have h0 := h
  rcases h.2 with ⟨rfl, h2⟩ | ⟨g, cap, cur, rfl, hB, hg, h1, h2, h3, h4⟩
  · exact Or.inl ⟨rfl, List.eq_nil_of_length_eq_zero h2⟩
  · exact Or.inr ⟨g, cap, rfl, h0⟩

theorem Own.sl {w : World} {B : Nat} {u : Value} {ys : List Int} (h : Own w B u ys) : ∃ ao cap, u = .slice ao ys.length cap ∧ Sl w ao ys.length cap ys := by
  rcases h.place with ⟨rfl, rfl⟩ | ⟨g, cap, rfl, h1⟩
  · exact ⟨none, 0, rfl, Sl.nil⟩
  · exact ⟨_, cap, rfl, h1.sl⟩

theorem Own.read {w : World} {B : Nat} {ao : Option Addr} {n cap : Nat} {ys : List Int} (h : Own w B (.slice ao n cap) ys) : Sl w ao n cap ys := by
  rcases h.place with ⟨e, rfl⟩ | ⟨g, cap', e, h1⟩
  · simp only [Value.slice.injEq] at e
    obtain ⟨rfl, rfl, rfl⟩ := e
    exact Sl.nil
  · simp only [Value.slice.injEq] at e
    obtain ⟨rfl, rfl, rfl⟩ := e
    exact h1.sl

theorem Own.nilcap {w : World} {B : Nat} {ao : Option Addr} {n cap : Nat} {ys : List Int} (h : Own w B (.slice ao n cap) ys) : ao = none → cap = 0 := by
  rintro rfl
  rcases h.place with ⟨e, rfl⟩ | ⟨g, cap', e, h1⟩
  · simp only [Value.slice.injEq] at e
    exact e.2.2
  · simp at e

theorem Own.below {B B' : Nat} {w w' : World} {u : Value} {ys : List Int} (h : Own w B u ys) (hB : w.heap.size ≤ B') (hb : Below B' w w') : Own w' B u ys := by
  refine ⟨h.1, ?_⟩
  rcases h.2 with h2 | ⟨g, cap, cur, hv, hg, hh, r⟩
  · exact Or.inl h2
  · exact Or.inr ⟨g, cap, cur, hv, hg, (hb.block g (Nat.lt_of_lt_of_le (Array.getElem?_eq_some_iff.1 hh).1 hB)).trans hh, r⟩

theorem Own.mono {B B' : Nat} {w : World} {u : Value} {ys : List Int} (h : Own w B u ys) (hB : B' ≤ B) : Own w B' u ys := by
  refine ⟨h.1, ?_⟩
  rcases h.2 with h2 | ⟨g, cap, cur, hv, hg, r⟩
  · exact Or.inl h2
  · exact Or.inr ⟨g, cap, cur, hv, Nat.le_trans hB hg, r⟩

theorem Own.drewN {w : World} {B : Nat} {u : Value} {ys : List Int} (h : Own w B u ys) (m : Nat) : Own (w.drewN m) B u ys := h

theorem Own.nil {w : World} {B : Nat} : Own w B (.slice none 0 0) [] := World.ownsRow_nil _ _ _ _

theorem drewN_below {B : Nat} {a w : World} (h : Below B a w) (m : Nat) : Below B a (w.drewN m) := ⟨h.os, h.tape, h.output, h.size, h.block⟩

theorem grown_trans {a b c : World} {row : Option Nat} (h : a.grownBy b row) (k : b.grownBy c row) : a.grownBy c row :=
  ⟨k.os.trans h.os, k.tape.trans h.tape, k.output.trans h.output, Nat.le_trans h.size k.size, fun i hi hr => (k.block i (Nat.lt_of_lt_of_le hi h.size) hr).trans (h.block i hi hr)⟩
theorem grown_set {w : World} {g j : Nat} {v : Value} : w.grownBy (w.setCell ⟨g, j, none⟩ v) (some g) :=
  ⟨rfl, rfl, rfl, by simp [World.setCell], fun k _ hk => Below.heap_setCell _ _ _ _ (fun e => hk (by rw [e]))⟩
theorem grown_drewN {a b : World} {row : Option Nat} (h : a.grownBy b row) (m : Nat) : a.grownBy (b.drewN m) row := ⟨h.os, h.tape, h.output, h.size, h.block⟩
theorem below_of_grown {w w' : World} {row : Option Nat} {B : Nat} (h : w.grownBy w' row) (hB : B ≤ w.heap.size) (hr : ∀ k, row = some k → B ≤ k) : Below B w w' :=
  (Below.refl B w).grown h hB hr
theorem Own.kept {w w' : World} {B : Nat} {u : Value} {ys : List Int} {row : Option Nat} (h : Own w B u ys) (hg : w.grownBy w' row) (hne : u.ownBlock = none ∨ u.ownBlock ≠ row) : Own w' B u ys := World.ownsRow.kept h hg hne
theorem Own.blocks {w : World} {B : Nat} {u : Value} {ys : List Int} (h : Own w B u ys) : ∀ k, u.ownBlock = some k → B ≤ k ∧ k < w.heap.size := World.ownsRow.lt h

/-- What two calls have made lies apart. -/
theorem Own.apart {w1 w2 : World} {B1 B2 : Nat} {u1 u2 : Value} {y1 y2 : List Int} (h1 : Own w1 B1 u1 y1) (h2 : Own w2 B2 u2 y2) (hB : w1.heap.size ≤ B2) : u1.ownBlock = none ∨ u1.ownBlock ≠ u2.ownBlock := by
  cases e : u1.ownBlock with
  | none => exact Or.inl rfl
  | some k =>
    refine Or.inr (fun e2 => ?_)
    have := (h1.blocks k e).2
    have := (h2.blocks k e2.symm).1
    omega
theorem Own.apart' {w1 w2 : World} {B1 B2 : Nat} {u1 u2 : Value} {y1 y2 : List Int} (h1 : Own w1 B1 u1 y1) (h2 : Own w2 B2 u2 y2) (hB : w2.heap.size ≤ B1) : u1.ownBlock = none ∨ u1.ownBlock ≠ u2.ownBlock := by
  cases e : u1.ownBlock with
  | none => exact Or.inl rfl
  | some k =>
    refine Or.inr (fun e2 => ?_)
    have := (h1.blocks k e).1
    have := (h2.blocks k e2.symm).2
    omega

/-- k, k + 1, .. : n numbers. -/
def marks (k : Int) (n : Nat) : List Int := (List.range n).map fun i => k + (i : Nat)
theorem marks_len (k : Int) (n : Nat) : (marks k n).length = n := by simp [marks]
theorem el_marks {k : Int} {n j : Nat} (h : j < n) : el (marks k n) j = k + j := by simp [marks, el, h]
theorem marks_ext {xs : List Int} {k : Int} {n : Nat} (h : xs.length = n) (hj : ∀ j, j < n → el xs j = k + j) : xs = marks k n :=
  ext_el (by rw [h, marks_len]) (fun j hl => by rw [hj j (by omega), el_marks (by omega)])

/-- A call made a slice of the numbers ys, and turned nothing that was there. -/
def Made (w : World) (ys : List Int) (e : Ending) (w' : World) : Prop := ∃ u, e = .returned u ∧ Own w' w.heap.size u ys ∧ Below w.heap.size w w'

/-- A call made a slice of the numbers ys, said b beside it, and turned nothing that was there. -/
def Made2 (w : World) (ys : List Int) (b : Bool) (e : Ending) (w' : World) : Prop := ∃ u, e = .returned (.tuple #[u, .bool b]) ∧ Own w' w.heap.size u ys ∧ Below w.heap.size w w'

/-- A call answered v, and turned nothing that was there. -/
def Says (w : World) (v : Value) (e : Ending) (w' : World) : Prop := e = .returned v ∧ Below w.heap.size w w'

theorem made2_yes {p : Prop} [Decidable p] {w w' : World} {ys : List Int} {u : Value} (h : p) (ho : Own w' w.heap.size u ys) (hb : Below w.heap.size w w') : Made2 w ys (decide p) (.returned (.tuple #[u, .bool true])) w' :=
  ⟨u, by rw [decide_eq_true h], ho, hb⟩
theorem made2_no {p : Prop} [Decidable p] {w w' : World} {ys : List Int} (h : ¬ p) (hy : ys = []) (hb : Below w.heap.size w w') : Made2 w ys (decide p) (.returned (.tuple #[.slice none 0 0, .bool false])) w' :=
  ⟨_, by rw [decide_eq_false h], by rw [hy]; exact Own.nil, hb⟩
theorem says_to {P : Program} {f : FuncId} {a : Array Value} {w : World} {v v' : Int} (h : Calls P f a w (Says w (.int .i64 v))) (e : v = v') : Calls P f a w (Says w (.int .i64 v')) := e ▸ h
theorem says_tob {P : Program} {f : FuncId} {a : Array Value} {w : World} {v v' : Bool} (h : Calls P f a w (Says w (.bool v))) (e : v = v') : Calls P f a w (Says w (.bool v')) := e ▸ h
theorem made_to {P : Program} {f : FuncId} {a : Array Value} {w : World} {v v' : List Int} (h : Calls P f a w (Made w v)) (e : v = v') : Calls P f a w (Made w v') := e ▸ h
theorem says_true {p : Prop} [Decidable p] {w w' : World} (h : p) (hb : Below w.heap.size w w') : Says w (.bool (decide p)) (.returned (.bool true)) w' := ⟨by rw [decide_eq_true h], hb⟩
theorem says_false {p : Prop} [Decidable p] {w w' : World} (h : ¬ p) (hb : Below w.heap.size w w') : Says w (.bool (decide p)) (.returned (.bool false)) w' := ⟨by rw [decide_eq_false h], hb⟩
theorem says_bool {w w' : World} {a b : Bool} (h : a = b) (hb : Below w.heap.size w w') : Says w (.bool b) (.returned (.bool a)) w' := ⟨by rw [h], hb⟩
theorem says_str {w w' : World} {a b : ByteArray} (h : a = b) (hb : Below w.heap.size w w') : Says w (.string b) (.returned (.string a)) w' := ⟨by rw [h], hb⟩
theorem says_int {w w' : World} {a b : Int} (h : a = b) (hb : Below w.heap.size w w') : Says w (.int .i64 b) (.returned (.int .i64 a)) w' := ⟨by rw [h], hb⟩
theorem hid {p : Prop} (h : p) : Hid p := h

theorem ret_eq {a b : Value} (h : a = b) : Ending.returned a = .returned b := by rw [h]

/-- The length of the slice in a slot: for a loop's measure. -/
def lenOf : Value → Nat | .slice _ n _ => n | _ => 0

/-- What was appended to is the call's own. -/
theorem below_app {w wr w' : World} {u : Value} {ys : List Int} (hb : Below w.heap.size w wr) (ho : Own wr w.heap.size u ys) (hg : wr.grownBy w' u.ownBlock) : Below w.heap.size w w' :=
  hb.grown hg hb.size (fun k hk => (ho.blocks k hk).1)

/-- Block g is an array that holds the numbers fs. -/
def Arr (w : World) (g T : Nat) (fs : List Int) : Prop := w.heap[g]? = some (.cells (fs.map (Value.int .i64)).toArray T (0, 0))

theorem Arr.lt {w : World} {g T : Nat} {fs : List Int} (h : Arr w g T fs) : g < w.heap.size := (Array.getElem?_eq_some_iff.1 h).1
theorem Arr.cell {w : World} {g T : Nat} {fs : List Int} (h : Arr w g T fs) {j : Nat} (hj : j < fs.length) : w.cell? ⟨g, j, none⟩ = some (.int .i64 (el fs j)) := by
  rw [cell_of_row w g j _ T (0, 0) h]
  simp [el, hj]
theorem Arr.frozen {w : World} {g T : Nat} {fs : List Int} (h : Arr w g T fs) (j : Nat) : w.frozen? ⟨g, j, none⟩ = false := frozen_of_row w g j _ T h
theorem Arr.set {w : World} {g T : Nat} {fs : List Int} (h : Arr w g T fs) (j : Nat) (v : Int) : Arr (w.setCell ⟨g, j, none⟩ (.int .i64 v)) g T (fs.set j v) := by
  have := heap_setCell_same w g j _ T (.int .i64 v) h
  rw [Arr, this]
  simp [List.map_set]
theorem Arr.other {w : World} {g T : Nat} {fs : List Int} (h : Arr w g T fs) {a : Addr} (ha : a.block ≠ g) (v : Value) : Arr (w.setCell a v) g T fs := by
  rw [Arr, Below.heap_setCell _ _ _ _ (by omega)]; exact h
theorem Arr.drewN {w : World} {g T : Nat} {fs : List Int} (h : Arr w g T fs) (m : Nat) : Arr (w.drewN m) g T fs := h
theorem Arr.below {B : Nat} {w w' : World} {g T : Nat} {fs : List Int} (h : Arr w g T fs) (hg : g < B) (hb : Below B w w') : Arr w' g T fs := (hb.block g hg).trans h
theorem Arr.alloc {w : World} {g T : Nat} {fs : List Int} (h : Arr w g T fs) (o : Obj) : Arr (w.alloc o) g T fs := (Below.heap_alloc w o g h.lt).trans h
theorem Arr.made (w : World) (T : Nat) (fs : List Int) : Arr (w.alloc (.cells (fs.map (Value.int .i64)).toArray T)) w.heap.size T fs := heap_alloc_new w _

section
variable {P : Program} (w : World)
theorem run_items (d e : Nat) (xs ys : List Int) (he : P.underlying e = some (.int .i64)) (is : List Nat) (hx : ∀ i ∈ is, i < xs.length) (hy : ∀ i ∈ is, i < ys.length) :
    (Op.eqItems (d + 1) e 1 (xs.map (Value.int .i64)).toArray (ys.map (Value.int .i64)).toArray is).run P w = .ok (is.all fun i => el xs i == el ys i) w := by
  induction is with
  | nil => simp [Op.eqItems]
  | cons i is ih =>
    have hxi := hx i (by simp)
    have hyi := hy i (by simp)
    have px : (part e (xs.map (Value.int .i64)).toArray (i * 1)).run P w = .ok (.int .i64 (el xs i)) w := by
      simp [part, isAgg, run_underlying he, el, hxi]
    have py : (part e (ys.map (Value.int .i64)).toArray (i * 1)).run P w = .ok (.int .i64 (el ys i)) w := by
      simp [part, isAgg, run_underlying he, el, hyi]
    have pe := run_equalIn_int (P := P) w d e .i64 .i64 (el xs i) (el ys i) he
    simp only [Op.eqItems, Sem.run_bind, px, py, pe, Result.andThen_ok, List.all_cons]
    cases hb : (el xs i == el ys i)
    · simp
    · simp only [Bool.not_true, Bool.false_eq_true, if_false, Bool.true_and]
      exact ih (fun j hj => hx j (by simp [hj])) (fun j hj => hy j (by simp [hj]))

theorem run_eql_arr (t e n : Nat) {i : TypeInfo} (xs ys : List Int) (hu : P.underlying t = some (.array n e)) (hi : P.info? e = some i) (hc : P.cellsOf e = 1) (he : P.underlying e = some (.int .i64)) (hx : xs.length = n) (hy : ys.length = n) :
    (binOp .eql t (.agg (xs.map (Value.int .i64)).toArray) (.agg (ys.map (Value.int .i64)).toArray)).run P w = .ok (.bool (decide (xs = ys))) w := by
  rw [run_eql_struct, run_equalIn_array w 9999 _ _ hu hi, hc, run_items w 9998 e xs ys he _ (fun i hi => by have := List.mem_range.1 hi; omega) (fun i hi => by have := List.mem_range.1 hi; omega)]
  simp only [Result.andThen_ok]
  congr 2
  rw [Bool.eq_iff_iff, List.all_eq_true, decide_eq_true_iff]
  constructor
  · intro h
    exact ext_el (by omega) (fun j hj => by have := h j (by simp; omega); simpa using this)
  · intro h i _
    simp [h]
end

end Go.Proofs.Ytpokoknapapdcaa

/- The lists and numbers that the functions give, as plain functions of lists. No condition. -/
namespace Go.Proofs.Ytpokoknapapdcaa

/-- What a function of orders gives: a list for an order, nil for other numbers. -/
def onV (xs ys : List Int) : List Int := if Valid xs then ys else []
theorem onV_yes {xs ys : List Int} (h : Valid xs) : onV xs ys = ys := if_pos h
theorem onV_no {xs ys : List Int} (h : ¬ Valid xs) : onV xs ys = [] := if_neg h

/-! The lists that the functions make. -/
def rise (n : Nat) : List Int := (List.range n).map fun (k : Nat) => (k : Int)
theorem map_range_succ (g : Nat → Int) (k : Nat) : (List.range (k + 1)).map g = (List.range k).map g ++ [g k] := by simp [List.range_succ]
theorem rise_len (n : Nat) : (rise n).length = n := by simp [rise]
theorem rise_succ (n : Nat) : rise (n + 1) = rise n ++ [(n : Int)] := by simp [rise, List.range_succ]
def inv (xs : List Int) : List Int := iter (fun (a : List Int) k => a.set (el xs k).toNat (k : Int)) (List.replicate xs.length 0) xs.length
def turn (xs : List Int) : List Int := (List.range xs.length).map fun k => el xs (xs.length - 1 - k)
def turnI (xs : List Int) : List Int := iter (fun a k => a.set (xs.length - 1 - k) (el xs k)) (List.replicate xs.length 0) xs.length
def opp (xs : List Int) : List Int := (List.range xs.length).map fun k => (xs.length : Int) - 1 - el xs k

theorem inv_len (xs : List Int) (k : Nat) : (iter (fun (a : List Int) k => a.set (el xs k).toNat (k : Int)) (List.replicate xs.length 0) k).length = xs.length :=
  (iter_len (fun _ _ => List.length_set) _ k).trans List.length_replicate
theorem turnI_len (xs : List Int) (k : Nat) : (iter (fun a k => a.set (xs.length - 1 - k) (el xs k)) (List.replicate xs.length 0) k).length = xs.length :=
  (iter_len (fun _ _ => List.length_set) _ k).trans List.length_replicate

theorem turnI_eq (xs : List Int) : turnI xs = turn xs := by
  have key : ∀ k, k ≤ xs.length → ∀ j, j < xs.length → xs.length - 1 - j < k → el (iter (fun a k => a.set (xs.length - 1 - k) (el xs k)) (List.replicate xs.length 0) k) j = el xs (xs.length - 1 - j) := by
    intro k
    induction k with
    | zero => intro _ j _ hj; omega
    | succ k ih =>
      intro hk j hj hjk
      rw [iter]
      by_cases e : xs.length - 1 - k = j
      · subst e
        rw [el_set_same (by rw [turnI_len]; exact hj)]
        congr 1; omega
      · rw [el_set_ne e, ih (by omega) j hj (by omega)]
  refine ext_el (by rw [turnI, turnI_len, turn, map_range_len]) (fun j hj => ?_)
  rw [turnI, turnI_len] at hj
  rw [turnI, key _ (Nat.le_refl _) j hj (by omega), turn, el_map hj]

/-- How many of the first k numbers have the property. -/
def cntP (p : Nat → Bool) : Nat → Int
  | 0 => 0
  | k + 1 => if p k then cntP p k + 1 else cntP p k
theorem cntP_bd (p : Nat → Bool) (k : Nat) : 0 ≤ cntP p k ∧ cntP p k ≤ k := by
  induction k with
  | zero => exact ⟨Int.le_refl _, Int.le_refl _⟩
  | succ k ih => rw [cntP]; split <;> omega
theorem cntP_yes {p : Nat → Bool} {k : Nat} (h : p k = true) : cntP p (k + 1) = cntP p k + 1 := by rw [cntP, if_pos h]
theorem cntP_no {p : Nat → Bool} {k : Nat} (h : p k = false) : cntP p (k + 1) = cntP p k := by rw [cntP, h]; simp

/-- How many lesser numbers stand behind place i, among the first t behind it. -/
def lbP (xs : List Int) (i t : Nat) : Int := cntP (fun j => decide (el xs (i + 1 + j) < el xs i)) t
def lb (xs : List Int) (i : Nat) : Int := lbP xs i (xs.length - 1 - i)
theorem lbP_bd (xs : List Int) (i t : Nat) : 0 ≤ lbP xs i t ∧ lbP xs i t ≤ t := cntP_bd _ _
theorem lbP_zero (xs : List Int) (i : Nat) : lbP xs i 0 = 0 := rfl
theorem lbP_yes {xs : List Int} {i t : Nat} (h : el xs (i + 1 + t) < el xs i) : lbP xs i (t + 1) = lbP xs i t + 1 := cntP_yes (by simpa using h)
theorem lbP_no {xs : List Int} {i t : Nat} (h : el xs i ≤ el xs (i + 1 + t)) : lbP xs i (t + 1) = lbP xs i t := cntP_no (by simpa using h)
def table (xs : List Int) : List Int := (List.range xs.length).map (lb xs)
theorem table_len (xs : List Int) : (table xs).length = xs.length := map_range_len _
theorem el_table {xs : List Int} {j : Nat} (h : j < xs.length) : el (table xs) j = lb xs j := el_map h
theorem lb_bd (xs : List Int) (i : Nat) : 0 ≤ lb xs i ∧ lb xs i ≤ xs.length := by
  have := lbP_bd xs i (xs.length - 1 - i)
  unfold lb
  omega
theorem table_bd (xs : List Int) : ∀ j, j < (table xs).length → 0 ≤ el (table xs) j ∧ el (table xs) j ≤ xs.length := fun j hj => by
  rw [table_len] at hj
  rw [el_table hj]
  exact lb_bd xs j

/-- The sum of the first k numbers. -/
def sumTo (xs : List Int) : Nat → Int
  | 0 => 0
  | k + 1 => sumTo xs k + el xs k
def sumL (xs : List Int) : Int := sumTo xs xs.length
theorem sumTo_bd {xs : List Int} {M : Nat} (h : ∀ j, j < xs.length → 0 ≤ el xs j ∧ el xs j ≤ M) : ∀ k, k ≤ xs.length → 0 ≤ sumTo xs k ∧ sumTo xs k ≤ k * M := by
  intro k
  induction k with
  | zero => intro _; simp [sumTo]
  | succ k ih =>
    intro hk
    have h1 := ih (by omega)
    have h2 := h k (by omega)
    rw [sumTo]
    have e : ((k + 1 : Nat) : Int) * M = k * M + M := by rw [Int.natCast_add, Int.add_mul]; simp
    omega
/-- What a function of orders answers: a number for an order, another one for other numbers. -/
def onVi (xs : List Int) (v d : Int) : Int := if Valid xs then v else d
theorem onVi_yes {xs : List Int} {v d : Int} (h : Valid xs) : onVi xs v d = v := if_pos h
theorem onVi_no {xs : List Int} {v d : Int} (h : ¬ Valid xs) : onVi xs v d = d := if_neg h

/-- The places among the first k behind which a lesser number stands. -/
def dsP (xs : List Int) : Nat → List Int
  | 0 => []
  | k + 1 => if el xs (k + 1) < el xs k then dsP xs k ++ [(k : Int)] else dsP xs k
def desc (xs : List Int) : List Int := dsP xs (xs.length - 1)
theorem dsP_yes {xs : List Int} {k : Nat} (h : el xs (k + 1) < el xs k) : dsP xs (k + 1) = dsP xs k ++ [(k : Int)] := by rw [dsP, if_pos h]
theorem dsP_no {xs : List Int} {k : Nat} (h : el xs k ≤ el xs (k + 1)) : dsP xs (k + 1) = dsP xs k := by rw [dsP, if_neg (by omega)]
theorem dsP_len (xs : List Int) (k : Nat) : (dsP xs k).length ≤ k := by
  induction k with
  | zero => simp [dsP]
  | succ k ih =>
    rw [dsP]
    split
    · rw [List.length_append, List.length_singleton]; omega
    · omega
theorem dsP_mem (xs : List Int) (k : Nat) : ∀ x ∈ dsP xs k, 0 ≤ x ∧ x < k := by
  induction k with
  | zero => intro x hx; simp [dsP] at hx
  | succ k ih =>
    intro x hx
    rw [dsP] at hx
    split at hx
    · rw [List.mem_append, List.mem_singleton] at hx
      rcases hx with hx | hx
      · have := ih x hx; omega
      · omega
    · have := ih x hx; omega
theorem el_mem {xs : List Int} {j : Nat} (h : j < xs.length) : el xs j ∈ xs := by rw [el_lt h]; exact List.getElem_mem h
theorem desc_len (xs : List Int) : (desc xs).length ≤ xs.length - 1 := dsP_len _ _
theorem desc_small {xs : List Int} (h : xs.length ≤ 1000) : ∀ j, j < (desc xs).length → 0 ≤ el (desc xs) j ∧ el (desc xs) j ≤ (1000 : Nat) := fun j hj => by
  have : 0 ≤ el (desc xs) j ∧ el (desc xs) j < (xs.length - 1 : Nat) := dsP_mem xs _ _ (el_mem hj)
  omega
def major (xs : List Int) : Int := sumL (desc xs) + (desc xs).length
theorem sumL_bd {xs : List Int} {M L : Nat} (h : ∀ j, j < xs.length → 0 ≤ el xs j ∧ el xs j ≤ M) (hl : xs.length ≤ L) : 0 ≤ sumL xs ∧ sumL xs ≤ L * M := by
  have h1 := sumTo_bd h xs.length (Nat.le_refl _)
  refine ⟨h1.1, Int.le_trans h1.2 (Int.mul_le_mul_of_nonneg_right (by omega) (by omega))⟩
def sgn (xs : List Int) : Int := 1 - 2 * (sumL (table xs) % 2)

/-- One list moved up by a, and another one moved up by b behind it. -/
def up (xs : List Int) (a : Int) : List Int := (List.range xs.length).map fun j => el xs j + a
def join (xs : List Int) (a : Int) (ys : List Int) (b : Int) : List Int := up xs a ++ up ys b
theorem up_len (xs : List Int) (a : Int) : (up xs a).length = xs.length := map_range_len _
theorem up_zero (xs : List Int) : up xs 0 = xs := ext_el (up_len xs 0) (fun j hj => by rw [up_len] at hj; rw [up, el_map hj]; omega)
theorem up_app (xs : List Int) (g : Nat → Int) (k : Nat) : xs ++ (List.range (k + 1)).map g = (xs ++ (List.range k).map g) ++ [g k] := by rw [map_range_succ, List.append_assoc]
/-- Two orders that may be put behind each other. -/
def Two (xs ys : List Int) : Prop := Valid xs ∧ Valid ys ∧ xs.length + ys.length ≤ 7
instance (xs ys : List Int) : Decidable (Two xs ys) := inferInstanceAs (Decidable (_ ∧ _ ∧ _))
def onT (xs ys zs : List Int) : List Int := if Two xs ys then zs else []
theorem onT_yes {xs ys zs : List Int} (h : Two xs ys) : onT xs ys zs = zs := if_pos h
theorem onT_no {xs ys zs : List Int} (h : ¬ Two xs ys) : onT xs ys zs = [] := if_neg h

/-- Two orders of one length. -/
def Mat (xs ys : List Int) : Prop := Valid xs ∧ Valid ys ∧ xs.length = ys.length
instance (xs ys : List Int) : Decidable (Mat xs ys) := inferInstanceAs (Decidable (_ ∧ _ ∧ _))
def onM (xs ys zs : List Int) : List Int := if Mat xs ys then zs else []
theorem onM_yes {xs ys zs : List Int} (h : Mat xs ys) : onM xs ys zs = zs := if_pos h
theorem onM_no {xs ys zs : List Int} (h : ¬ Mat xs ys) : onM xs ys zs = [] := if_neg h
def comp (xs ys : List Int) : List Int := (List.range ys.length).map fun k => el xs (el ys k).toNat

/-- The numbers are the table of an order. -/
structure VT (ts : List Int) : Prop where
  len : ts.length ≤ 7
  lo : ∀ j, j < ts.length → 0 ≤ el ts j
  hi : ∀ j, j < ts.length → el ts j ≤ (ts.length : Int) - 1 - j
theorem vt_iff (ts : List Int) : VT ts ↔ (ts.length ≤ 7 ∧ (∀ j, j < ts.length → 0 ≤ el ts j) ∧ ∀ j, j < ts.length → el ts j ≤ (ts.length : Int) - 1 - j) :=
  ⟨fun h => ⟨h.len, h.lo, h.hi⟩, fun h => ⟨h.1, h.2.1, h.2.2⟩⟩
instance (ts : List Int) : Decidable (VT ts) := decidable_of_iff _ (vt_iff ts).symm

end Go.Proofs.Ytpokoknapapdcaa

/- The walk's laws for the lists of numbers that the functions make: make, append of one number, and lists that a step builds. No condition. -/
namespace Go.Proofs.Ytpokoknapapdcaa
open Go.RowKit

theorem infoI : (Try.prog.info? 3).map (fun i => (i.zero, i.size, i.bytes)) = some (some (.int .i64 0), 1, 8) := by kernel_rfl

/-- make([]int, n). -/
theorem make_ints (w : World) {ops : Array Oper} {rest : List Oper} {o : Oper} {a : Act} {Q : Exit → Act → World → Prop}
    (hg : o.guard = none) (l c : Operand) (hop : o.op = Op.makeSlice 24 l c) (L C : Int) (n : Nat) (hl : a.eval l = .int .i64 L) (hc : a.eval c = .int .i64 C) (hL : L = (n : Int)) (hC : C = (n : Int)) (hn : n ≤ 2000000)
    (hK : ∀ w', OwS w' w.heap.size w.heap.size n n (List.replicate n 0) → Below w.heap.size w w' → wpList Try.prog ops Q rest (a.put o.dst (.slice (some ⟨w.heap.size, 0, none⟩) n n)) w') :
    wpList Try.prog ops Q (o :: rest) a w := by
  obtain ⟨i0, hi, hz0, hz1, hz2⟩ := info_parts infoI
  refine wpList_make_full w hg l c 24 hop w.heap.size 3 i0 (.int .i64 0) 1 Try.underlying24 hi hz0 hz1 _ _ _ _ n hl hc hL hC (by rw [hz2]; omega) (by unfold maxLen; omega) (Nat.le_refl _) ?_
  intro w' hown hgrow
  refine hK w' ?_ ((Below.refl _ _).grown hgrow (Nat.le_refl _) (fun k hk => by simp at hk))
  unfold OwS
  have e : (madeCells (Value.cells (.int .i64 0)) (n * 1)).toList = (List.replicate n (0 : Int)).map (Value.int .i64) := by
    rw [Nat.mul_one, show Value.cells (.int .i64 0) = #[Value.int .i64 0] from rfl, toList_madeCells_one, List.map_replicate]
  rw [← e]; exact hown

/-- append(out, v), out the call's own. -/
theorem app_int (w : World) (v : Int) {ops : Array Oper} {rest : List Oper} {o : Oper} {a : Act} {Q : Exit → Act → World → Prop}
    (hg : o.guard = none) (s x : Operand) (hop : o.op = Op.call { callee := Callee.builtin Builtin.append, args := #[s, x], argTypes := #[24, 24] })
    (B : Nat) (u : Value) (ys : List Int) (hs : a.eval s = u) (hown : Own w B u ys) (hx : a.eval x = .slice (some ⟨w.heap.size, 0, none⟩) 1 1) (hlen : ys.length ≤ 2000000) (hB : B ≤ w.heap.size)
    (hK : ∀ u' w', Own w' B u' (ys ++ [v]) → w.grownBy w' u.ownBlock → wpList Try.prog ops Q rest (a.put o.dst u') w') :
    wpList Try.prog ops Q (o :: rest) a (w.alloc (.cells #[.int .i64 v] 3)) := by
  obtain ⟨i0, hi, hz0, hz1, hz2⟩ := info_parts infoI
  refine wpList_append_own _ hg s x 24 hop B 3 i0 (.int .i64 0) 1 8 Try.underlying24 hi hz0 hz1 hz2 rfl (by decide) u ys.length _ hs (World.ownsRow.alloc hown _) ⟨w.heap.size, 0, none⟩ 1 1 [.int .i64 v] hx rfl ?_ ?_ ?_ ?_ ?_ ?_
  · intro j t hj
    match j, hj with
    | 0, hj => simp at hj; subst hj; simp [Addr.add]
  · intro t ht; simp at ht; subst ht; rfl
  · unfold maxLen; omega
  · omega
  · simp; omega
  · intro v' w' hown' hgrow _
    refine hK v' w' ?_ (grown_trans (World.grownBy_alloc w _ _) hgrow)
    unfold Own
    rw [List.length_append, List.map_append]
    exact hown'

/-- append(out, p...), out the call's own, p whatever list of numbers. -/
theorem app_list (w : World) {ops : Array Oper} {rest : List Oper} {o : Oper} {a : Act} {Q : Exit → Act → World → Prop}
    (hg : o.guard = none) (s x : Operand) (hop : o.op = Op.call { callee := Callee.builtin Builtin.append, args := #[s, x], argTypes := #[24, 24] })
    (B : Nat) (u : Value) (ys : List Int) (hs : a.eval s = u) (hown : Own w B u ys) (ao : Option Addr) (n cap : Nat) (xs : List Int) (hx : a.eval x = .slice ao n cap) (hsl : Sl w ao n cap xs) (hnil : ao = none → cap = 0)
    (hlen : ys.length + n ≤ 2000000) (hB : B ≤ w.heap.size)
    (hK : ∀ u' w', Own w' B u' (ys ++ xs) → w.grownBy w' u.ownBlock → wpList Try.prog ops Q rest (a.put o.dst u') w') :
    wpList Try.prog ops Q (o :: rest) a w := by
  obtain ⟨i0, hi, hz0, hz1, hz2⟩ := info_parts infoI
  have hl := hsl.len
  cases ao with
  | none =>
    have hn : n = 0 := by
      rcases Nat.eq_zero_or_pos n with h | h
      · exact h
      · obtain ⟨b, off, hb, _⟩ := hsl.row h
        cases hb
    subst hn
    have hc := hnil rfl
    subst hc
    have hxs : xs = [] := List.eq_nil_of_length_eq_zero hl
    subst hxs
    refine wpList_append_own_none hg s x 24 hop B 3 i0 1 Try.underlying24 hi u ys.length _ hs hown hx ?_
    refine hK u w ?_ (World.grownBy.refl _ _)
    rw [List.append_nil]; exact hown
  | some ad =>
    refine wpList_append_own _ hg s x 24 hop B 3 i0 (.int .i64 0) 1 8 Try.underlying24 hi hz0 hz1 hz2 rfl (by decide) u ys.length _ hs hown ad n cap (xs.map (Value.int .i64)) hx (by simp [hl]) ?_ (ints_oneCell _ _) ?_ ?_ ?_ ?_
    · intro j t hj
      have hjn : j < n := by
        have := (List.getElem?_eq_some_iff.1 hj).1
        rw [List.length_map, hl] at this; exact this
      obtain ⟨b, off, hb, _, hc⟩ := hsl.row (by omega)
      obtain rfl := Option.some.inj hb
      rw [Addr.add_lit, hc j hjn]
      rw [List.getElem?_map, List.getElem?_eq_getElem (by omega)] at hj
      rw [el_lt (by omega)]
      exact hj
    · unfold maxLen; omega
    · omega
    · exact hB
    · intro v' w' hown' hgrow _
      refine hK v' w' ?_ hgrow
      unfold Own
      rw [List.length_append, List.map_append, hl]
      exact hown'

/-- make([]int, 0, n). -/
theorem make_cap (w : World) {ops : Array Oper} {rest : List Oper} {o : Oper} {a : Act} {Q : Exit → Act → World → Prop}
    (hg : o.guard = none) (l c : Operand) (hop : o.op = Op.makeSlice 24 l c) (C : Int) (n : Nat) (hl : a.eval l = .int .i64 0) (hc : a.eval c = .int .i64 C) (hC : C = (n : Int)) (hn : n ≤ 2000000)
    (hK : ∀ w', Own w' w.heap.size (.slice (some ⟨w.heap.size, 0, none⟩) 0 n) [] → Below w.heap.size w w' → wpList Try.prog ops Q rest (a.put o.dst (.slice (some ⟨w.heap.size, 0, none⟩) 0 n)) w') :
    wpList Try.prog ops Q (o :: rest) a w := by
  obtain ⟨i0, hi, hz0, hz1, hz2⟩ := info_parts infoI
  refine wpList_make_own w hg l c 24 hop w.heap.size 3 i0 (.int .i64 0) 1 Try.underlying24 hi hz0 hz1 _ _ _ n hl hc hC (by rw [hz2]; omega) (by unfold maxLen; omega) (Nat.le_refl _) ?_
  intro w' hown hgrow
  exact hK w' hown ((Below.refl _ _).grown hgrow (Nat.le_refl _) (fun k hk => by simp at hk))

end Go.Proofs.Ytpokoknapapdcaa

/- What a reckoning over all orders of at most seven values shows. No condition. -/
namespace Go.Proofs.Ytpokoknapapdcaa

set_option maxRecDepth 100000 in
theorem count_all : (allUpTo 7).all (fun xs => (List.range 7).all fun v => xs.count (v : Int) == if v < xs.length then 1 else 0) = true := by decide +kernel

theorem count_valid {xs : List Int} (hn : xs.length ≤ 7) (hr : ∀ j, j < xs.length → 0 ≤ el xs j ∧ el xs j < xs.length) :
    (∀ v : Nat, v < 7 → xs.count (v : Int) = if v < xs.length then 1 else 0) ↔ Valid xs := by
  constructor
  · intro h
    refine ⟨hn, fun j hj => (hr j hj).1, fun j hj => (hr j hj).2, fun i j hij hj e => ?_⟩
    have h2 := count_two hij hj e
    obtain ⟨v, hv⟩ := Int.eq_ofNat_of_zero_le (hr j hj).1
    have h3 := (hr j hj).2
    rw [hv] at h2 h3
    have := h v (by omega)
    rw [this] at h2
    split at h2 <;> omega
  · intro h v hv
    have := h.all count_all
    rw [List.all_eq_true] at this
    simpa using this v (by simpa using hv)

end Go.Proofs.Ytpokoknapapdcaa

/- What the program answers when asked whether numbers are an order. No condition but that the list's cells can be read. -/
namespace Go.Proofs.Ytpokoknapapdcaa
open Go.RowKit

theorem infoP : ∃ i, Try.prog.info? 3 = some i := by
  have h : (Try.prog.info? 3).isSome = true := by kernel_rfl
  exact Option.isSome_iff_exists.1 h
theorem cellsI : Try.prog.cellsOf 3 = 1 := by kernel_rfl

theorem counted {xs fs os : List Int} (hn : xs.length ≤ 7) (hr : ∀ j, j < xs.length → 0 ≤ el xs j ∧ el xs j < xs.length) (hf : fs.length = 7) (ho : os.length = 7)
    (hfc : ∀ v, v < 7 → el fs v = (xs.count (v : Int) : Nat)) (hoc : ∀ v, v < 7 → el os v = if v < xs.length then 1 else 0) : decide (fs = os) = decide (Valid xs) := by
  rw [decide_eq_decide, ← count_valid hn hr]
  constructor
  · intro e v hv
    have h1 := hfc v hv
    have h2 := hoc v hv
    rw [e, h2] at h1
    split at h1 <;> split <;> omega
  · intro h
    refine ext_el (by omega) (fun v hv => ?_)
    rw [hfc v (by omega), hoc v (by omega), h v (by omega)]
    split <;> rfl

theorem zeros : ∀ v, v < 7 → el [0, 0, 0, 0, 0, 0, 0] v = 0 := by decide

set_option maxHeartbeats 1000000 in
theorem validI_any (ao : Option Addr) (n cap : Nat) (xs : List Int) (w : World) (h : Sl w ao n cap xs) :
    Calls Try.prog 64 #[.slice ao n cap] w (Says w (.bool (decide (Valid xs)))) := by
  have hbig := h.big
  have hlen := hid h.len
  by_cases h7 : n ≤ 7
  · go_enter Try.func64, Try.ntmps64
    go_wp2
    go_loopw [12] (fun i wr => ∃ (k : Nat) (fs os : List Int), k ≤ n ∧ i = .int .i64 k ∧ Below w.heap.size w wr ∧ Arr wr w.heap.size 76 fs ∧ Arr wr (w.heap.size + 1) 76 os ∧ fs.length = 7 ∧ os.length = 7 ∧
        Hid (∀ j, j < k → 0 ≤ el xs j ∧ el xs j < n) ∧ Hid (∀ v, v < 7 → el fs v = ((xs.take k).count (v : Int) : Nat)) ∧ Hid (∀ v, v < 7 → el os v = if v < k then 1 else 0))
      (fun i _ => n - (intOf i).toNat)
    case atStart =>
      refine ⟨0, [0, 0, 0, 0, 0, 0, 0], [0, 0, 0, 0, 0, 0, 0], Nat.zero_le _, rfl, by go_grown, ?_, ?_, rfl, rfl, fun j hj => by omega, fun v hv => ?_, fun v hv => ?_⟩
      · exact (Arr.made w _ [0, 0, 0, 0, 0, 0, 0]).alloc _
      · have := Arr.made (w.alloc (.cells ([0, 0, 0, 0, 0, 0, 0].map (Value.int .i64)).toArray 76)) 76 [0, 0, 0, 0, 0, 0, 0]
        rwa [World.size_alloc] at this
      · rw [zeros v hv]; simp
      · rw [zeros v hv]; simp
    case round =>
      obtain ⟨k, fs, os, hk, rfl, hbr, hF, hO, hf7, ho7, hr, hfc, hoc⟩ := hrel
      have Hf7 := hid hf7
      have Ho7 := hid ho7
      by_cases hlt : k < n
      · obtain ⟨b, off, rfl, hblt, hc⟩ := h.row (by omega)
        have hcell := (hbr.cell (p := ⟨b, off + k, none⟩) hblt).trans (hc k hlt)
        clear hc
        by_cases hin : 0 ≤ el xs k ∧ el xs k < n
        · obtain ⟨v, hv⟩ := Int.eq_ofNat_of_zero_le hin.1
          have hvn : v < n := by omega
          rw [hv] at hcell
          have Hv := hid hv
          have hfb : el fs v ≤ 7 ∧ 0 ≤ el fs v := by
            rw [hfc.out v (by omega)]
            have := List.count_le_length (a := (v : Int)) (l := xs.take k)
            rw [List.length_take] at this
            omega
          have hcF := hF.cell (j := v) (by omega)
          have hfF := hF.frozen v
          have hcO := hO.cell (j := k) (by omega)
          have hfO := hO.frozen k
          have hcO' : (wr.setCell ⟨w.heap.size, v, none⟩ (.int .i64 (el fs v + 1))).cell? ⟨w.heap.size + 1, k, none⟩ = some (.int .i64 (el os k)) := (hO.other (by simp) _).cell (by omega)
          clear hf7 ho7 hv hin
          go_wp2
          go_roundw
          case rel =>
            refine ⟨k + 1, fs.set v (el fs v + 1), os.set k 1, by omega, by go_num, ?_, ?_, ?_, by simp [Hf7.out], by simp [Ho7.out], ?_, ?_, ?_⟩
            · exact (hbr.setCell (Nat.le_refl _) _).setCell (Nat.le_succ _) _
            · exact (hF.set v _).other (by simp) _
            · exact (hO.other (by simp) _).set k 1
            · exact upto_step hr.out ⟨by rw [Hv.out]; omega, by rw [Hv.out]; omega⟩
            · intro t ht
              rw [count_take (by rw [hlen.out]; exact hlt), Hv.out]
              have := hfc.out t ht
              by_cases e : v = t
              · subst e
                rw [el_set_same (by rw [Hf7.out]; exact ht), this]; simp
              · rw [el_set_ne e, this, if_neg (by omega)]; simp
            · intro t ht
              have := hoc.out t ht
              by_cases e : k = t
              · subst e
                rw [el_set_same (by rw [Ho7.out]; exact ht), if_pos (by omega)]
              · rw [el_set_ne e, this]
                split <;> split <;> omega
          case measure => simp [intOf]; omega
        · have hno : Hid (¬ Valid xs) := fun v => hin ⟨v.lo k (by rw [hlen.out]; exact hlt), by have := v.hi k (by rw [hlen.out]; exact hlt); rwa [hlen.out] at this⟩
          have Hin := hid hin
          clear hin
          by_cases h0 : el xs k < 0
          · go_wp2
            go_ret
            exact says_false hno.out hbr
          · have h1 : (n : Int) ≤ el xs k := by have := Hin.out; omega
            go_wp2
            go_ret
            exact says_false hno.out hbr
      · obtain rfl : k = n := by omega
        have hsF : (Try.prog.info? 76).map (·.size) = some (fs.map (Value.int .i64)).toArray.size := by
          have : (Try.prog.info? 76).map (·.size) = some 7 := by kernel_rfl
          rw [this]; simp [hf7]
        have hsO : (Try.prog.info? 76).map (·.size) = some (os.map (Value.int .i64)).toArray.size := by rw [hsF]; simp [hf7, ho7]
        obtain ⟨ip, hip⟩ := infoP
        have hE := fun w => run_eql_arr (P := Try.prog) w 76 3 7 fs os Try.underlying76 hip cellsI Try.underlying3 hf7 ho7
        clear hf7 ho7
        go_wp2_with (first
          | (refine wpList_load_row rfl 76 (.tmp 3) rfl w.heap.size rfl 76 _ (0, 0) _ hF Try.underlying76 rfl hsF ?_)
          | (refine wpList_load_row rfl 76 (.tmp 4) rfl (w.heap.size + 1) rfl 76 _ (0, 0) _ hO Try.underlying76 rfl hsO ?_))
        go_ret
        refine says_bool (counted (by rw [hlen.out]; exact h7) (fun j hj => ?_) Hf7.out Ho7.out (fun v hv => ?_) (fun v hv => ?_)) hbr
        · rw [hlen.out] at hj ⊢
          exact hr.out j hj
        · have := hfc.out v hv
          rwa [List.take_of_length_le (Nat.le_of_eq hlen.out)] at this
        · rw [hlen.out]; exact hoc.out v hv
  · go_enter Try.func64, Try.ntmps64
    go_wp2
    go_ret
    exact says_false (fun v => h7 (by have := v.len; rw [hlen.out] at this; exact this)) (Below.refl _ _)
end Go.Proofs.Ytpokoknapapdcaa

/- The program's functions of one order that make a list: InverseOrder, TurnOrder, OppositeOrder, RisingOrder. Condition: the list's cells can be read. -/
namespace Go.Proofs.Ytpokoknapapdcaa
open Go.RowKit

set_option maxHeartbeats 1000000 in
theorem turnI_any (ao : Option Addr) (n cap : Nat) (xs : List Int) (w : World) (h : Sl w ao n cap xs) :
    Calls Try.prog 101 #[.slice ao n cap] w (Made w (onV xs (turn xs))) := by
  have hbig := h.big
  have hlen := hid h.len
  by_cases hv : Valid xs
  · have h7 : n ≤ 7 := by have := hv.len; rw [hlen.out] at this; exact this
    have Hv := hid hv
    go_enter Try.func101, Try.ntmps101
    go_wp2_with fail
    refine (validI_any _ _ _ xs _ h).mono ?_
    rintro e w1 ⟨rfl, hb1⟩
    have hsz := hb1.size
    go_wp2_with (at_make; refine make_ints _ rfl _ _ rfl _ _ n rfl rfl rfl rfl (by omega) ?_)
    intro w2 ho2 hb2
    clear hv
    have hb3 := hb1.trans (hb2.mono hb1.size)
    go_wp2
    go_loopw [14] (fun i wr => ∃ (k : Nat), k ≤ n ∧ i = .int .i64 k ∧ Below w.heap.size w wr ∧ OwS wr w1.heap.size w1.heap.size n n (iter (fun (a : List Int) k => a.set (n - 1 - k) (el xs k)) (List.replicate n 0) k))
      (fun i _ => n - (intOf i).toNat)
    case atStart => exact ⟨0, Nat.zero_le _, rfl, hb3, ho2⟩
    case round =>
      obtain ⟨k, hk, rfl, hbr, hr⟩ := hrel
      by_cases hlt : k < n
      · obtain ⟨b, off, rfl, hblt, hc⟩ := h.row (by omega)
        have hcell := (hbr.cell (p := ⟨b, off + k, none⟩) hblt).trans (hc k hlt)
        clear hc
        have hfr := hr.frozen (n - 1 - k)
        have hcur := hr.cell (j := n - 1 - k) (by omega)
        have hi1 : (k : Int) < n := by omega
        go_wp2
        go_roundw
        case rel => exact ⟨k + 1, by omega, by go_num, hbr.setCell hsz _, hr.set _ _⟩
        case measure => simp [intOf]; omega
      · obtain rfl : k = n := by omega
        go_wp2
        go_ret
        refine ⟨_, rfl, ?_, hbr⟩
        rw [onV_yes Hv.out, ← turnI_eq, turnI, hlen.out]
        exact hr.own.mono hsz
  · have Hv := hid hv
    go_enter Try.func101, Try.ntmps101
    go_wp2_with fail
    refine (validI_any _ _ _ xs _ h).mono ?_
    rintro e w1 ⟨rfl, hb1⟩
    go_wp2
    go_ret
    refine ⟨_, rfl, ?_, hb1⟩
    rw [onV_no Hv.out]
    exact Own.nil

theorem risingI_no (n : Int) (w : World) (h : n < 0 ∨ 7 < n) :
    Calls Try.prog 100 #[.int .i64 n] w (Made w []) := by
  by_cases h0 : n < 0
  · go_enter Try.func100, Try.ntmps100
    go_wp2
    go_ret
    exact ⟨_, rfl, Own.nil, Below.refl _ _⟩
  · have h1 : 7 < n := by omega
    clear h
    go_enter Try.func100, Try.ntmps100
    go_wp2
    go_ret
    exact ⟨_, rfl, Own.nil, Below.refl _ _⟩

set_option maxHeartbeats 400000 in
theorem risingI_yes (n : Nat) (w : World) (h : n ≤ 7) :
    Calls Try.prog 100 #[.int .i64 n] w (Made w (rise n)) := by
  go_enter Try.func100, Try.ntmps100
  go_wp2_with (at_make; refine make_ints _ rfl _ _ rfl _ _ n rfl rfl rfl rfl (by omega) ?_)
  intro w2 ho2 hb2
  go_wp2
  go_loopw [15] (fun i wr => ∃ (k : Nat), k ≤ n ∧ i = .int .i64 k ∧ Below w.heap.size w wr ∧ OwS wr w.heap.size w.heap.size n n (iter (fun (a : List Int) k => a.set k (k : Int)) (List.replicate n 0) k))
    (fun i _ => n - (intOf i).toNat)
  case atStart => exact ⟨0, Nat.zero_le _, rfl, hb2, ho2⟩
  case round =>
    obtain ⟨k, hk, rfl, hbr, hr⟩ := hrel
    by_cases hlt : k < n
    · have hfr := hr.frozen k
      have hcur := hr.cell hlt
      go_wp2
      go_roundw
      case rel => exact ⟨k + 1, by omega, by go_num, hbr.setCell (Nat.le_refl _) _, hr.set _ _⟩
      case measure => simp [intOf]; omega
    · obtain rfl : k = n := by omega
      go_wp2
      go_ret
      refine ⟨_, rfl, ?_, hbr⟩
      rw [rise, ← iter_set]
      exact hr.own
end Go.Proofs.Ytpokoknapapdcaa

/- What the program and its model answer when asked whether numbers are an order: both say so exactly if they are. No condition but that the list's cells can be read. -/
namespace Go.Proofs.Ytpokoknapapdcaa
open Go.RowKit

set_option maxHeartbeats 1000000 in
theorem validS_any (ao : Option Addr) (n cap : Nat) (xs : List Int) (w : World) (h : Sl w ao n cap xs) :
    Calls Try.prog 65 #[.slice ao n cap] w (Says w (.bool (decide (Valid xs)))) := by
  have hbig := h.big
  have hlen := hid h.len
  go_enter Try.func65, Try.ntmps65
  go_wp2
  go_loopw [3] (fun i wr => ∃ (k : Nat), k ≤ n ∧ i = .int .i64 k ∧ Below w.heap.size w wr ∧ Hid (∀ j, j < k → 0 ≤ el xs j ∧ el xs j < n ∧ ∀ t, t < j → el xs t ≠ el xs j))
    (fun i _ => n - (intOf i).toNat)
  case atStart => exact ⟨0, Nat.zero_le _, rfl, Below.refl _ _, fun j hj => by omega⟩
  case round =>
    obtain ⟨k, hk, rfl, hbr, hm⟩ := hrel
    by_cases hlt : k < n
    · obtain ⟨b, off, rfl, hblt, hc⟩ := h.row (by omega)
      have hcell := (hbr.cell (p := ⟨b, off + k, none⟩) hblt).trans (hc k hlt)
      by_cases hr : 0 ≤ el xs k ∧ el xs k ≤ (n : Int) - 1
      · obtain ⟨hr0, hr1⟩ := hr
        have hcc := hid hc
        clear hc
        go_wp2
        obtain ⟨wo, hwo⟩ : ∃ wo : World, wo = wr := ⟨_, rfl⟩
        subst hwo
        go_loopw [4] (fun i wr => ∃ (j : Nat), j ≤ k ∧ i = .int .i64 j ∧ Below w.heap.size w wr ∧ Hid (∀ t, t < j → el xs t ≠ el xs k))
          (fun i _ => k - (intOf i).toNat)
        case atStart => exact ⟨0, Nat.zero_le _, rfl, hbr, fun j hj => by omega⟩
        case round =>
          obtain ⟨j, hj, rfl, hbr2, hm2⟩ := hrel
          have hcellk := (hbr2.cell (p := ⟨b, off + k, none⟩) hblt).trans (hcc.out k hlt)
          by_cases hjlt : j < k
          · have hcell2 := (hbr2.cell (p := ⟨b, off + j, none⟩) hblt).trans (hcc.out j (by omega))
            have hi1 : (k : Int) < n := by omega
            have hi2 : (j : Int) < n := by omega
            go_wp2
            go_quiet (fail)
            go_wp2
            · have he : (el xs j == el xs k) = true := by assumption
              go_ret
              exact says_false (fun v => v.ne j k hjlt (by rw [hlen.out]; exact hlt) (not_ne he)) (drewN_below hbr2 _)
            · have he : (el xs j == el xs k) = false := by assumption
              go_roundw
              case rel => exact ⟨j + 1, by omega, by go_num, drewN_below hbr2 _, upto_step hm2.out (is_ne he)⟩
              case measure => simp [intOf]; omega
          · obtain rfl : j = k := by omega
            go_wp2
            go_roundw
            case rel => exact ⟨j + 1, by omega, by go_num, hbr2, upto_step hm.out ⟨hr0, by omega, hm2.out⟩⟩
            case measure => simp [intOf]; omega
      · have hno : Hid (¬ Valid xs) := fun v => hr ⟨v.lo k (by rw [hlen.out]; exact hlt), by have := v.hi k (by rw [hlen.out]; exact hlt); rw [hlen.out] at this; omega⟩
        have hnr := hid hr
        clear hc
        by_cases hr0 : 0 ≤ el xs k
        · have hr1 : ¬ el xs k ≤ (n : Int) - 1 := fun e => hnr.out ⟨hr0, e⟩
          clear hr
          go_wp2
          go_ret
          exact says_false hno.out hbr
        · clear hr
          go_wp2
          go_ret
          exact says_false hno.out hbr
    · obtain rfl : k = n := by omega
      go_wp2
      go_ret
      refine says_bool (decide_eq_decide.2 ⟨fun h7 => ⟨by rw [hlen.out]; omega, fun j hj => (hm.out j (by rw [hlen.out] at hj; exact hj)).1, fun j hj => ?_, fun i j hij hj => (hm.out j (by rw [hlen.out] at hj; exact hj)).2.2 i hij⟩, fun v => ?_⟩) hbr
      · rw [hlen.out] at hj ⊢
        exact (hm.out j hj).2.1
      · have := v.len
        rw [hlen.out] at this
        omega
end Go.Proofs.Ytpokoknapapdcaa

/- The model's functions of one order that make a list: rising, RisingOrder, inverse, InverseOrder, turned, TurnOrder, OppositeOrder. Condition: the list's cells can be read. -/
namespace Go.Proofs.Ytpokoknapapdcaa
open Go.RowKit

theorem own_lit (w : World) : Own (w.alloc (.cells #[] 3)) w.heap.size (.slice (some ⟨w.heap.size, 0, none⟩) 0 0) [] :=
  World.ownsRow_lit w #[] 0 (Nat.le_refl _) (Nat.zero_le _) rfl

theorem own_lit_at {w : World} {B : Nat} (hB : B ≤ w.heap.size) : Own (w.alloc (.cells #[] 3)) B (.slice (some ⟨w.heap.size, 0, none⟩) 0 0) [] := (own_lit w).mono hB

set_option maxHeartbeats 400000 in
theorem rising_any (n : Nat) (w : World) (h : n ≤ 1000) :
    Calls Try.prog 116 #[.int .i64 n] w (Made w (rise n)) := by
  go_enter Try.func116, Try.ntmps116
  go_wp2
  go_loopw [3] (fun v wr => ∃ (k : Nat) (ao : Option Addr) (cap : Nat), k ≤ n ∧ v = .slice ao k cap ∧ Below w.heap.size w wr ∧ Own wr w.heap.size (.slice ao k cap) (rise k))
    (fun v _ => n - lenOf v)
  case atStart => exact ⟨0, _, _, Nat.zero_le _, rfl, (Below.refl _ _).alloc (Nat.le_refl _) _, own_lit w⟩
  case round =>
    obtain ⟨k, ao, cap, hk, rfl, hbr, ho⟩ := hrel
    by_cases hlt : k < n
    · have hsz := hbr.size
      have hl : (rise k).length ≤ 2000000 := by rw [rise_len]; omega
      go_wp2_with (at_builtin; refine app_int _ _ rfl _ _ rfl w.heap.size _ _ rfl ho rfl hl hsz ?_)
      intro u' w' ho' hg'
      have hb' := below_app hbr ho hg'
      obtain ⟨ao', cap', rfl, hs'⟩ := ho'.sl
      rw [← rise_succ, rise_len] at *
      go_wp2
      go_roundw
      case rel => exact ⟨k + 1, _, _, by omega, rfl, hb', ho'⟩
      case measure => simp [lenOf]; omega
    · obtain rfl : k = n := by omega
      go_wp2
      go_ret
      exact ⟨_, rfl, ho, hbr⟩

end Go.Proofs.Ytpokoknapapdcaa

/- Tables and their sums, in the program and in its model: lesserBehind, sum, TableOf, InversionsOf, SignOf. Condition: the list's cells can be read; of sum: few small numbers. -/
namespace Go.Proofs.Ytpokoknapapdcaa
open Go.RowKit

set_option maxHeartbeats 1000000 in
theorem lesser_any (ao : Option Addr) (n cap : Nat) (xs : List Int) (w : World) (h : Sl w ao n cap xs) (h7 : n ≤ 1000) :
    Calls Try.prog 111 #[.slice ao n cap] w (Made w (table xs)) := by
  have hbig := h.big
  have hlen := hid h.len
  go_enter Try.func111, Try.ntmps111
  go_wp2
  go_loopw [3, 4] (fun v i wr => ∃ (k : Nat) (ao' : Option Addr) (cap' : Nat), k ≤ n ∧ v = .slice ao' k cap' ∧ i = .int .i64 k ∧ Below w.heap.size w wr ∧ Own wr w.heap.size (.slice ao' k cap') ((List.range k).map (lb xs)))
    (fun v _ _ => n - lenOf v)
  case atStart => exact ⟨0, _, _, Nat.zero_le _, rfl, rfl, (Below.refl _ _).alloc (Nat.le_refl _) _, own_lit w⟩
  case round =>
    obtain ⟨k, ao', cap', hk, rfl, rfl, hbr, ho⟩ := hrel
    by_cases hlt : k < n
    · obtain ⟨b, off, rfl, hblt, hc⟩ := h.row (by omega)
      have hl : ((List.range k).map (lb xs)).length ≤ 2000000 := by rw [map_range_len]; omega
      have hcc := hid hc
      clear hc
      go_wp2
      obtain ⟨wo, hwo⟩ : ∃ wo : World, wo = wr := ⟨_, rfl⟩
      subst hwo
      go_loopw [5, 6] (fun c j wr => ∃ (t : Nat), t ≤ n - 1 - k ∧ c = .int .i64 (lbP xs k t) ∧ j = .int .i64 ((k : Int) + 1 + t) ∧ Below w.heap.size w wr ∧ Own wr w.heap.size (.slice ao' k cap') ((List.range k).map (lb xs)))
        (fun _ j _ => n - (intOf j).toNat)
      case atStart => exact ⟨0, Nat.zero_le _, rfl, by simp, hbr, ho⟩
      case round =>
        obtain ⟨t, ht, rfl, rfl, hbr, ho⟩ := hrel
        have hbd := lbP_bd xs k t
        have hsz := hbr.size
        by_cases htl : t < n - 1 - k
        · have hcell1 := (hbr.cell (p := ⟨b, off + (k + 1 + t), none⟩) hblt).trans (hcc.out (k + 1 + t) (by omega))
          have hcell2 := (hbr.cell (p := ⟨b, off + k, none⟩) hblt).trans (hcc.out k hlt)
          have hi1 : (k : Int) + 1 + t < n := by omega
          go_wp2
          go_quiet (fail)
          go_wp2
          · have he : el xs (k + 1 + t) < el xs k := by assumption
            go_roundw
            case rel => exact ⟨t + 1, by omega, by rw [lbP_yes he], by go_num, drewN_below hbr _, ho⟩
            case measure => simp [intOf]; omega
          · have he : el xs k ≤ el xs (k + 1 + t) := by assumption
            go_roundw
            case rel => exact ⟨t + 1, by omega, by rw [lbP_no he], by go_num, drewN_below hbr _, ho⟩
            case measure => simp [intOf]; omega
        · obtain rfl : t = n - 1 - k := by omega
          have hi1 : ¬ (k : Int) + 1 + (n - 1 - k : Nat) < n := by omega
          go_wp2_with (at_builtin; refine app_int _ _ rfl _ _ rfl w.heap.size _ _ rfl ho rfl hl hsz ?_)
          intro u' w' ho' hg'
          have hb' := below_app hbr ho hg'
          have e : lbP xs k (n - 1 - k) = lb xs k := by rw [lb, hlen.out]
          rw [e] at ho'
          obtain ⟨ao', cap', rfl, hs'⟩ := ho'.sl
          rw [← map_range_succ (lb xs), map_range_len] at *
          clear e hbd
          go_wp2
          go_roundw
          case rel => exact ⟨k + 1, _, _, by omega, rfl, by go_num, hb', ho'⟩
          case measure => simp [lenOf]; omega
    · obtain rfl : k = n := by omega
      go_wp2
      go_ret
      refine ⟨_, rfl, ?_, hbr⟩
      rw [table, hlen.out]
      exact ho

set_option maxHeartbeats 1000000 in
theorem sum_any (ao : Option Addr) (n cap : Nat) (xs : List Int) (w : World) (h : Sl w ao n cap xs) (h7 : n ≤ 1000) (hs : Hid (∀ j, j < xs.length → 0 ≤ el xs j ∧ el xs j ≤ (1000 : Nat))) :
    Calls Try.prog 110 #[.slice ao n cap] w (Says w (.int .i64 (sumL xs))) := by
  have hbig := h.big
  have hlen := hid h.len
  go_enter Try.func110, Try.ntmps110
  go_wp2
  go_loopw [3, 4] (fun v i wr => ∃ (k : Nat), k ≤ n ∧ v = .int .i64 (sumTo xs k) ∧ i = .int .i64 k ∧ Below w.heap.size w wr)
    (fun _ i _ => n - (intOf i).toNat)
  case atStart => exact ⟨0, Nat.zero_le _, rfl, rfl, Below.refl _ _⟩
  case round =>
    obtain ⟨k, hk, rfl, rfl, hbr⟩ := hrel
    have hbd := sumTo_bd hs.out k (by rw [hlen.out]; exact hk)
    have hb2 : sumTo xs k ≤ 1000000 := Int.le_trans hbd.2 (by have : (k : Int) * (1000 : Nat) ≤ 1000 * (1000 : Nat) := Int.mul_le_mul_of_nonneg_right (by omega) (by omega); omega)
    have hb1 := hbd.1
    clear hbd
    by_cases hlt : k < n
    · obtain ⟨b, off, rfl, hblt, hc⟩ := h.row (by omega)
      have hcell := (hbr.cell (p := ⟨b, off + k, none⟩) hblt).trans (hc k hlt)
      have he := hs.out k (by rw [hlen.out]; exact hlt)
      have he0 := he.1
      have he1 := he.2
      clear hc he
      go_wp2
      go_roundw
      case rel => exact ⟨k + 1, by omega, by rw [sumTo], by go_num, hbr⟩
      case measure => simp [intOf]; omega
    · obtain rfl : k = n := by omega
      go_wp2
      go_ret
      exact says_int (by rw [sumL, hlen.out]) hbr

set_option maxHeartbeats 1000000 in
theorem tableI_any (ao : Option Addr) (n cap : Nat) (xs : List Int) (w : World) (h : Sl w ao n cap xs) :
    Calls Try.prog 67 #[.slice ao n cap] w (Made w (onV xs (table xs))) := by
  have hbig := h.big
  have hlen := hid h.len
  by_cases hv : Valid xs
  · have h7 : n ≤ 7 := by have := hv.len; rw [hlen.out] at this; exact this
    have Hv := hid hv
    go_enter Try.func67, Try.ntmps67
    go_wp2_with fail
    refine (validI_any _ _ _ xs _ h).mono ?_
    rintro e w1 ⟨rfl, hb1⟩
    have hsz := hb1.size
    go_wp2_with (at_make; refine make_ints _ rfl _ _ rfl _ _ n rfl rfl rfl rfl (by omega) ?_)
    intro w2 ho2 hb2
    clear hv
    have hb3 := hb1.trans (hb2.mono hb1.size)
    go_wp2
    go_loopw [16] (fun i wr => ∃ (k : Nat) (zs : List Int), k ≤ n ∧ i = .int .i64 k ∧ Below w.heap.size w wr ∧ OwS wr w1.heap.size w1.heap.size n n zs ∧ Hid (∀ j, j < k → el zs j = lb xs j) ∧ Hid (∀ j, k ≤ j → j < n → el zs j = 0))
      (fun i _ => n - (intOf i).toNat)
    case atStart => exact ⟨0, _, Nat.zero_le _, rfl, hb3, ho2, fun j hj => by omega, fun j _ hj => by simp [el, hj]⟩
    case round =>
      obtain ⟨k, zs, hk, rfl, hbr, hr, hz1, hz2⟩ := hrel
      by_cases hlt : k < n
      · obtain ⟨b, off, rfl, hblt, hc⟩ := h.row (by omega)
        have hcell := (hbr.cell (p := ⟨b, off + k, none⟩) hblt).trans (hc k hlt)
        by_cases hcap : cap = k + 1
        · have hn1 : n = k + 1 := by have := h.le; omega
          have e : el zs k = lb xs k := by rw [hz2.out k (Nat.le_refl _) hlt, lb, hlen.out, hn1, show k + 1 - 1 - k = 0 by omega, lbP_zero]
          have He := hid e
          have Hn := hid hn1
          have hcap2 : (cap : Int) = k + 1 := by omega
          have hz0 : n - (k + 1) = 0 := by omega
          clear e hn1
          go_wp2
          go_rounds 1
          go_roundw
          case rel => exact ⟨k + 1, zs, by omega, by go_num, hbr, hr, upto_step hz1.out He.out, fun j hj hjn => hz2.out j (by omega) hjn⟩
          case measure => simp [intOf]; omega
        · have hcap2 : ¬ (cap : Int) = k + 1 := by omega
          have hcc := hid hc
          clear hc
          have hlk := hid (hz1.out k)
          go_wp2
          obtain ⟨wo, hwo⟩ : ∃ wo : World, wo = wr := ⟨_, rfl⟩
          subst hwo
          go_loopw [26] (fun j wr => ∃ (t : Nat) (zs : List Int), t ≤ n - 1 - k ∧ j = .int .i64 t ∧ Below w.heap.size w wr ∧ OwS wr w1.heap.size w1.heap.size n n zs ∧ Hid (∀ j, j < k → el zs j = lb xs j) ∧ Hid (∀ j, k < j → j < n → el zs j = 0) ∧ el zs k = lbP xs k t)
            (fun j _ => n - 1 - k - (intOf j).toNat)
          case atStart => exact ⟨0, zs, Nat.zero_le _, rfl, hbr, hr, hz1, fun j hj hjn => hz2.out j (by omega) hjn, hz2.out k (Nat.le_refl _) hlt⟩
          case round =>
            obtain ⟨t, zs, ht, rfl, hbr, hr, hz1, hz2, hzk⟩ := hrel
            have hbd := lbP_bd xs k t
            have hzl := hid hr.len
            by_cases htl : t < n - 1 - k
            · have hcell1 : wr.cell? ⟨b, off + (k + 1) + t, none⟩ = some (.int .i64 (el xs (k + 1 + t))) := (hbr.cell (p := ⟨b, off + (k + 1) + t, none⟩) hblt).trans (by have := hcc.out (k + 1 + t) (by omega); rw [← this, Nat.add_assoc off])
              have hfr := hr.frozen k
              have hcur := hr.cell hlt
              rw [hzk] at hcur
              have Hzk := hid hzk
              clear hzk
              go_wp2
              · have he : el xs (k + 1 + t) < el xs k := by assumption
                go_roundw
                case rel =>
                  refine ⟨t + 1, zs.set k (lbP xs k t + 1), by omega, by go_num, hbr.setCell hsz _, hr.set _ _, fun j hj => ?_, fun j hj hjn => ?_, ?_⟩
                  · rw [el_set_ne (by omega)]; exact hz1.out j hj
                  · rw [el_set_ne (by omega)]; exact hz2.out j hj hjn
                  · rw [el_set_same (by rw [hzl.out]; exact hlt), lbP_yes he]
                case measure => simp [intOf]; omega
              · have he : el xs k ≤ el xs (k + 1 + t) := by assumption
                go_roundw
                case rel => exact ⟨t + 1, zs, by omega, by go_num, hbr, hr, hz1, hz2, by rw [lbP_no he]; exact Hzk.out⟩
                case measure => simp [intOf]; omega
            · obtain rfl : t = n - 1 - k := by omega
              have e : lbP xs k (n - 1 - k) = lb xs k := by rw [lb, hlen.out]
              rw [e] at hzk
              have Hzk := hid hzk
              clear hzk e
              go_wp2
              go_roundw
              case rel => exact ⟨k + 1, zs, by omega, by go_num, hbr, hr, upto_step hz1.out Hzk.out, fun j hj hjn => hz2.out j (by omega) hjn⟩
              case measure => simp [intOf]; omega
      · obtain rfl : k = n := by omega
        go_wp2
        go_ret
        refine ⟨_, rfl, ?_, hbr⟩
        have e : zs = table xs := ext_el (by rw [hr.len, table_len, hlen.out]) (fun j hj => by rw [hr.len] at hj; rw [hz1.out j hj, el_table (by rw [hlen.out]; exact hj)])
        rw [onV_yes Hv.out, ← e]
        exact hr.own.mono hsz
  · have Hv := hid hv
    go_enter Try.func67, Try.ntmps67
    go_wp2_with fail
    refine (validI_any _ _ _ xs _ h).mono ?_
    rintro e w1 ⟨rfl, hb1⟩
    go_wp2
    go_ret
    refine ⟨_, rfl, ?_, hb1⟩
    rw [onV_no Hv.out]
    exact Own.nil

theorem table_small {xs : List Int} (h : Valid xs) : ∀ j, j < (table xs).length → 0 ≤ el (table xs) j ∧ el (table xs) j ≤ (1000 : Nat) := fun j hj => by
  have := table_bd xs j hj
  have := h.len
  omega

set_option maxHeartbeats 1000000 in
theorem invsI_any (ao : Option Addr) (n cap : Nat) (xs : List Int) (w : World) (h : Sl w ao n cap xs) :
    Calls Try.prog 24 #[.slice ao n cap] w (Says w (.int .i64 (onVi xs (sumL (table xs)) (-1)))) := by
  have hbig := h.big
  have hlen := hid h.len
  by_cases hv : Valid xs
  · have h7 : n ≤ 7 := by have := hv.len; rw [hlen.out] at this; exact this
    have Hv := hid hv
    go_enter Try.func24, Try.ntmps24
    go_wp2_with fail
    refine (validI_any _ _ _ xs _ h).mono ?_
    rintro e w1 ⟨rfl, hb1⟩
    have hsz := hb1.size
    go_wp2_with fail
    refine (tableI_any _ _ _ xs _ (h.later hb1)).mono ?_
    rintro e w2 ⟨u2, rfl, ho2, hb2⟩
    rw [onV_yes Hv.out] at ho2
    obtain ⟨a2, c2, rfl, hs2⟩ := ho2.sl
    have hl2 : (table xs).length ≤ 7 := by rw [table_len, hlen.out]; omega
    have hts := hid (table_small Hv.out)
    have hb3 := hb1.trans (hb2.mono hsz)
    clear hv
    obtain ⟨ts, Hts⟩ : ∃ ts, Hid (ts = table xs) := ⟨_, rfl⟩
    rw [← Hts.out] at hs2 hl2 hts ⊢
    obtain ⟨m, hm⟩ : ∃ m, ts.length = m := ⟨_, rfl⟩
    rw [hm] at hs2 hl2 ⊢
    have Hm := hid hm
    clear hm ho2
    go_wp2
    go_loopw [3, 12] (fun v i wr => ∃ (k : Nat), k ≤ m ∧ v = .int .i64 (sumTo ts k) ∧ i = .int .i64 k ∧ Below w2.heap.size w2 wr)
      (fun _ i _ => m - (intOf i).toNat)
    case atStart => exact ⟨0, Nat.zero_le _, rfl, rfl, Below.refl _ _⟩
    case round =>
      obtain ⟨k, hk, rfl, rfl, hbr⟩ := hrel
      have hbd := sumTo_bd hts.out k (by rw [Hm.out]; exact hk)
      have hbb2 : sumTo ts k ≤ 1000000 := Int.le_trans hbd.2 (by have : (k : Int) * (1000 : Nat) ≤ 1000 * (1000 : Nat) := Int.mul_le_mul_of_nonneg_right (by omega) (by omega); omega)
      have hbb1 := hbd.1
      clear hbd
      by_cases hlt : k < m
      · obtain ⟨b, off, rfl, hblt, hc⟩ := hs2.row (by omega)
        have hcell := (hbr.cell (p := ⟨b, off + k, none⟩) hblt).trans (hc k hlt)
        have he := hts.out k (by rw [Hm.out]; exact hlt)
        have he0 := he.1
        have he1 := he.2
        clear hc he
        go_wp2
        go_roundw
        case rel => exact ⟨k + 1, by omega, by rw [sumTo], by go_num, hbr⟩
        case measure => simp [intOf]; omega
      · obtain rfl : k = m := by omega
        go_wp2
        go_ret
        rw [onVi_yes Hv.out]
        exact says_int (by rw [← Hts.out, sumL, Hm.out]) (hb3.trans (hbr.mono hb3.size))
  · have Hv := hid hv
    go_enter Try.func24, Try.ntmps24
    go_wp2_with fail
    refine (validI_any _ _ _ xs _ h).mono ?_
    rintro e w1 ⟨rfl, hb1⟩
    go_wp2
    go_ret
    rw [onVi_no Hv.out]
    exact ⟨rfl, hb1⟩

end Go.Proofs.Ytpokoknapapdcaa

/- Descents, major indices and signs, in the program and in its model. Condition: the list's cells can be read. -/
namespace Go.Proofs.Ytpokoknapapdcaa
open Go.RowKit

set_option maxHeartbeats 1000000 in
theorem descents_any (ao : Option Addr) (n cap : Nat) (xs : List Int) (w : World) (h : Sl w ao n cap xs) (h7 : n ≤ 1000) :
    Calls Try.prog 93 #[.slice ao n cap] w (Made w (desc xs)) := by
  have hbig := h.big
  have hlen := hid h.len
  go_enter Try.func93, Try.ntmps93
  go_wp2
  go_loopw [3, 4] (fun v i wr => ∃ (k m : Nat) (ao' : Option Addr) (cap' : Nat), k ≤ n - 1 ∧ v = .slice ao' m cap' ∧ i = .int .i64 ((k : Nat)) ∧ Below w.heap.size w wr ∧ Own wr w.heap.size (.slice ao' m cap') (dsP xs k))
    (fun _ i _ => n - (intOf i).toNat)
  case atStart => exact ⟨0, _, _, _, Nat.zero_le _, rfl, rfl, (Below.refl _ _).alloc (Nat.le_refl _) _, own_lit w⟩
  case round =>
    obtain ⟨k, m, ao', cap', hk, rfl, rfl, hbr, ho⟩ := hrel
    have hsz := hbr.size
    have hl : (dsP xs k).length ≤ 2000000 := by have := dsP_len xs k; omega
    by_cases hlt : k + 1 < n
    · obtain ⟨b, off, rfl, hblt, hc⟩ := h.row (by omega)
      have hcell := (hbr.cell (p := ⟨b, off + k, none⟩) hblt).trans (hc k (by omega))
      have hcell1 := (hbr.cell (p := ⟨b, off + (k + 1), none⟩) hblt).trans (hc (k + 1) hlt)
      have hi1 : (k : Int) + 1 < n := by omega
      have hi2 : (k : Int) < n := by omega
      clear hc
      by_cases he : el xs (k + 1) < el xs k
      · go_wp2_with fail
        go_quiet (fail)
        go_wp2_with (at_builtin; refine app_int _ _ rfl _ _ rfl w.heap.size _ _ rfl (ho.drewN _) rfl hl hsz ?_)
        intro u' w' ho' hg'
        have hb' := below_app (drewN_below hbr _) (ho.drewN _) hg'
        rw [← dsP_yes he] at ho'
        have hl' := hid (rfl : (dsP xs (k + 1)).length = (dsP xs (k + 1)).length)
        obtain ⟨ao', cap', rfl, hs'⟩ := ho'.sl
        go_wp2
        go_roundw
        case rel => exact ⟨k + 1, _, _, _, by omega, rfl, by go_num, hb', ho'⟩
        case measure => simp [intOf]; omega
      · have he' : el xs k ≤ el xs (k + 1) := by omega
        go_wp2_with fail
        go_quiet (fail)
        go_wp2
        go_roundw
        case rel => exact ⟨k + 1, _, _, _, by omega, rfl, by go_num, drewN_below hbr _, by rw [dsP_no he']; exact ho.drewN _⟩
        case measure => simp [intOf]; omega
    · have hk1 : k = n - 1 := by omega
      have Hk1 := hid hk1
      clear hk1
      go_wp2
      go_ret
      refine ⟨_, rfl, ?_, hbr⟩
      rw [desc, hlen.out, ← Hk1.out]
      exact ho

set_option maxHeartbeats 1000000 in
theorem descI_any (ao : Option Addr) (n cap : Nat) (xs : List Int) (w : World) (h : Sl w ao n cap xs) :
    Calls Try.prog 29 #[.slice ao n cap] w (Made w (onV xs (desc xs))) := by
  have hbig := h.big
  have hlen := hid h.len
  by_cases hv : Valid xs
  · have h7 : n ≤ 7 := by have := hv.len; rw [hlen.out] at this; exact this
    have Hv := hid hv
    go_enter Try.func29, Try.ntmps29
    go_wp2_with fail
    refine (validI_any _ _ _ xs _ h).mono ?_
    rintro e w1 ⟨rfl, hb1⟩
    have hsz := hb1.size
    go_wp2
    clear hsz
    go_loopw [3, 4] (fun v i wr => ∃ (k m : Nat) (ao' : Option Addr) (cap' : Nat), k ≤ n - 1 ∧ v = .slice ao' m cap' ∧ i = .int .i64 ((k : Int) + 1) ∧ Below w.heap.size w wr ∧ Own wr w.heap.size (.slice ao' m cap') (dsP xs k))
      (fun _ i _ => n - (intOf i).toNat)
    case atStart => exact ⟨0, _, _, _, Nat.zero_le _, rfl, by simp, hb1.alloc hb1.size _, own_lit_at hb1.size⟩
    case round =>
      obtain ⟨k, m, ao', cap', hk, rfl, rfl, hbr, ho⟩ := hrel
      have hsz := hbr.size
      have hl : (dsP xs k).length ≤ 2000000 := by have := dsP_len xs k; omega
      by_cases hlt : k + 1 < n
      · obtain ⟨b, off, rfl, hblt, hc⟩ := h.row (by omega)
        have hcell := (hbr.cell (p := ⟨b, off + k, none⟩) hblt).trans (hc k (by omega))
        have hcell1 := (hbr.cell (p := ⟨b, off + (k + 1), none⟩) hblt).trans (hc (k + 1) hlt)
        have hi1 : (k : Int) + 1 < n := by omega
        have hi2 : (k : Int) < n := by omega
        clear hc
        by_cases he : el xs (k + 1) < el xs k
        · go_wp2_with fail
          go_quiet (fail)
          go_wp2_with (at_builtin; refine app_int _ _ rfl _ _ rfl w.heap.size _ _ rfl (ho.drewN _) rfl hl hsz ?_)
          intro u' w' ho' hg'
          have hb' := below_app (drewN_below hbr _) (ho.drewN _) hg'
          rw [← dsP_yes he] at ho'
          have hl' := hid (rfl : (dsP xs (k + 1)).length = (dsP xs (k + 1)).length)
          obtain ⟨ao', cap', rfl, hs'⟩ := ho'.sl
          go_wp2
          go_roundw
          case rel => exact ⟨k + 1, _, _, _, by omega, rfl, by go_num, hb', ho'⟩
          case measure => simp [intOf]; omega
        · have he' : el xs k ≤ el xs (k + 1) := by omega
          go_wp2_with fail
          go_quiet (fail)
          go_wp2
          go_roundw
          case rel => exact ⟨k + 1, _, _, _, by omega, rfl, by go_num, drewN_below hbr _, by rw [dsP_no he']; exact ho.drewN _⟩
          case measure => simp [intOf]; omega
      · have hk1 : k = n - 1 := by omega
        have Hk1 := hid hk1
        clear hk1
        go_wp2
        go_ret
        refine ⟨_, rfl, ?_, hbr⟩
        rw [onV_yes Hv.out, desc, hlen.out, ← Hk1.out]
        exact ho
  · have Hv := hid hv
    go_enter Try.func29, Try.ntmps29
    go_wp2_with fail
    refine (validI_any _ _ _ xs _ h).mono ?_
    rintro e w1 ⟨rfl, hb1⟩
    go_wp2
    go_ret
    refine ⟨_, rfl, ?_, hb1⟩
    rw [onV_no Hv.out]
    exact Own.nil

set_option maxHeartbeats 1000000 in
theorem major_any (ao : Option Addr) (n cap : Nat) (xs : List Int) (w : World) (h : Sl w ao n cap xs) (h7 : n ≤ 1000) :
    Calls Try.prog 92 #[.slice ao n cap] w (Says w (.int .i64 (major xs))) := by
  have hbig := h.big
  have hlen := hid h.len
  have hl2 : (desc xs).length ≤ 1000 := by have := desc_len xs; rw [hlen.out] at this; omega
  have hds := hid (desc_small (xs := xs) (by rw [hlen.out]; exact h7))
  have hbd := sumL_bd hds.out hl2
  have hbd1 := hbd.1
  have hbd2 : sumL (desc xs) ≤ 1000000 := by have := hbd.2; omega
  clear hbd
  go_enter Try.func92, Try.ntmps92
  go_wp2_with fail
  refine (descents_any _ _ _ xs _ h h7).mono ?_
  rintro e w2 ⟨u2, rfl, ho2, hb2⟩
  obtain ⟨a2, c2, rfl, hs2⟩ := ho2.sl
  go_wp2_with fail
  refine (sum_any _ _ _ _ _ hs2 hl2 hds).mono ?_
  rintro e w3 ⟨rfl, hb3⟩
  go_wp2
  go_ret
  exact ⟨rfl, hb2.trans (hb3.mono hb2.size)⟩

set_option maxHeartbeats 1000000 in
theorem majorI_any (ao : Option Addr) (n cap : Nat) (xs : List Int) (w : World) (h : Sl w ao n cap xs) :
    Calls Try.prog 25 #[.slice ao n cap] w (Says w (.int .i64 (onVi xs (major xs) (-1)))) := by
  have hbig := h.big
  have hlen := hid h.len
  by_cases hv : Valid xs
  · have h7 : n ≤ 7 := by have := hv.len; rw [hlen.out] at this; exact this
    have Hv := hid hv
    go_enter Try.func25, Try.ntmps25
    go_wp2_with fail
    refine (validI_any _ _ _ xs _ h).mono ?_
    rintro e w1 ⟨rfl, hb1⟩
    have hsz := hb1.size
    go_wp2_with fail
    refine (descI_any _ _ _ xs _ (h.later hb1)).mono ?_
    rintro e w2 ⟨u2, rfl, ho2, hb2⟩
    rw [onV_yes Hv.out] at ho2
    obtain ⟨a2, c2, rfl, hs2⟩ := ho2.sl
    have hl2 : (desc xs).length ≤ 7 := by have := desc_len xs; rw [hlen.out] at this; omega
    have hts := hid (desc_small (xs := xs) (by rw [hlen.out]; omega))
    have hb3 := hb1.trans (hb2.mono hsz)
    clear hv
    obtain ⟨ts, Hts⟩ : ∃ ts, Hid (ts = desc xs) := ⟨_, rfl⟩
    rw [← Hts.out] at hs2 hl2 hts ⊢
    obtain ⟨m, hm⟩ : ∃ m, ts.length = m := ⟨_, rfl⟩
    rw [hm] at hs2 hl2 ⊢
    have Hm := hid hm
    clear hm ho2
    go_wp2
    go_loopw [3, 12] (fun v i wr => ∃ (k : Nat), k ≤ m ∧ v = .int .i64 (sumTo ts k + k) ∧ i = .int .i64 k ∧ Below w2.heap.size w2 wr)
      (fun _ i _ => m - (intOf i).toNat)
    case atStart => exact ⟨0, Nat.zero_le _, rfl, rfl, Below.refl _ _⟩
    case round =>
      obtain ⟨k, hk, rfl, rfl, hbr⟩ := hrel
      have hbd := sumTo_bd hts.out k (by rw [Hm.out]; exact hk)
      have hbb2 : sumTo ts k ≤ 1000000 := Int.le_trans hbd.2 (by have : (k : Int) * (1000 : Nat) ≤ 1000 * (1000 : Nat) := Int.mul_le_mul_of_nonneg_right (by omega) (by omega); omega)
      have hbb1 := hbd.1
      clear hbd
      by_cases hlt : k < m
      · obtain ⟨b, off, rfl, hblt, hc⟩ := hs2.row (by omega)
        have hcell := (hbr.cell (p := ⟨b, off + k, none⟩) hblt).trans (hc k hlt)
        have he := hts.out k (by rw [Hm.out]; exact hlt)
        have he0 := he.1
        have he1 := he.2
        clear hc he
        go_wp2
        go_roundw
        case rel => exact ⟨k + 1, by omega, by rw [sumTo]; congr 1; omega, by go_num, hbr⟩
        case measure => simp [intOf]; omega
      · obtain rfl : k = m := by omega
        go_wp2
        go_ret
        rw [onVi_yes Hv.out]
        exact says_int (by rw [major, ← Hts.out, sumL, Hm.out]) (hb3.trans (hbr.mono hb3.size))
  · have Hv := hid hv
    go_enter Try.func25, Try.ntmps25
    go_wp2_with fail
    refine (validI_any _ _ _ xs _ h).mono ?_
    rintro e w1 ⟨rfl, hb1⟩
    go_wp2
    go_ret
    rw [onVi_no Hv.out]
    exact ⟨rfl, hb1⟩

end Go.Proofs.Ytpokoknapapdcaa

/- What the laws' own small functions answer: equal lists, a number in a list, sums, products. Condition: the lists' cells can be read. -/
namespace Go.Proofs.Ytpokoknapapdcaa
open Go.RowKit

set_option maxHeartbeats 400000 in
theorem equalInts_any (ao : Option Addr) (n cap : Nat) (xs : List Int) (bo : Option Addr) (m cap2 : Nat) (ys : List Int) (w : World) (h : Sl w ao n cap xs) (g : Sl w bo m cap2 ys) :
    Calls Try.prog 15 #[.slice ao n cap, .slice bo m cap2] w (Says w (.bool (decide (xs = ys)))) := by
  have hbig := h.big
  have hbig2 := g.big
  have hlen := hid h.len
  have glen := hid g.len
  by_cases hnm : n = m
  · subst hnm
    go_enter Try.func15, Try.ntmps15
    go_wp2
    go_loopw [5] (fun i wr => ∃ k : Nat, k ≤ n ∧ i = .int .i64 k ∧ Below w.heap.size w wr ∧ Hid (∀ j, j < k → el xs j = el ys j))
      (fun i _ => n - (intOf i).toNat)
    case atStart => exact ⟨0, Nat.zero_le _, rfl, Below.refl _ _, fun j hj => by omega⟩
    case round =>
      obtain ⟨k, hk, rfl, hbr, heq⟩ := hrel
      by_cases hlt : k < n
      · obtain ⟨b, off, rfl, hblt, hc⟩ := h.row (by omega)
        obtain ⟨b2, off2, rfl, hblt2, hc2⟩ := g.row (by omega)
        have hcell := (hbr.cell (p := ⟨b, off + k, none⟩) hblt).trans (hc k hlt)
        have hcell2 := (hbr.cell (p := ⟨b2, off2 + k, none⟩) hblt2).trans (hc2 k hlt)
        clear hc hc2
        have hi1 : (k : Int) < n := by omega
        go_wp2
        go_quiet (fail)
        go_wp2
        · have hne : ¬ el xs k = el ys k := by
            have : (el xs k != el ys k) = true := by assumption
            simpa using this
          go_ret
          exact says_false (fun e => hne (by rw [e])) (drewN_below hbr _)
        · have he : el xs k = el ys k := by
            have : (el xs k != el ys k) = false := by assumption
            simpa using this
          go_roundw
          case rel => exact ⟨k + 1, by omega, by go_num, drewN_below hbr _, fun j hj => by
            by_cases hjk : j = k
            · rw [hjk]; exact he
            · exact heq.out j (by omega)⟩
          case measure => simp [intOf]; omega
      · obtain rfl : k = n := by omega
        go_wp2
        go_ret
        exact says_true (ext_el (by rw [hlen.out, glen.out]) (fun j hj => heq.out j (by rw [hlen.out] at hj; exact hj))) hbr
  · have hne : ¬ (n : Int) = m := by omega
    go_enter Try.func15, Try.ntmps15
    go_wp2
    go_ret
    exact says_false (fun e => hnm (by rw [← hlen.out, ← glen.out, e])) (Below.refl _ _)

set_option maxHeartbeats 1000000 in
theorem total_any (ao : Option Addr) (n cap : Nat) (xs : List Int) (w : World) (h : Sl w ao n cap xs) (h7 : n ≤ 1000) (hs : Hid (∀ j, j < xs.length → 0 ≤ el xs j ∧ el xs j ≤ (1000 : Nat))) :
    Calls Try.prog 18 #[.slice ao n cap] w (Says w (.int .i64 (sumL xs))) := by
  have hbig := h.big
  have hlen := hid h.len
  go_enter Try.func18, Try.ntmps18
  go_wp2
  go_loopw [3, 4] (fun v i wr => ∃ (k : Nat), k ≤ n ∧ v = .int .i64 (sumTo xs k) ∧ i = .int .i64 k ∧ Below w.heap.size w wr)
    (fun _ i _ => n - (intOf i).toNat)
  case atStart => exact ⟨0, Nat.zero_le _, rfl, rfl, Below.refl _ _⟩
  case round =>
    obtain ⟨k, hk, rfl, rfl, hbr⟩ := hrel
    have hbd := sumTo_bd hs.out k (by rw [hlen.out]; exact hk)
    have hb2 : sumTo xs k ≤ 1000000 := Int.le_trans hbd.2 (by have : (k : Int) * (1000 : Nat) ≤ 1000 * (1000 : Nat) := Int.mul_le_mul_of_nonneg_right (by omega) (by omega); omega)
    have hb1 := hbd.1
    clear hbd
    by_cases hlt : k < n
    · obtain ⟨b, off, rfl, hblt, hc⟩ := h.row (by omega)
      have hcell := (hbr.cell (p := ⟨b, off + k, none⟩) hblt).trans (hc k hlt)
      have he := hs.out k (by rw [hlen.out]; exact hlt)
      have he0 := he.1
      have he1 := he.2
      clear hc he
      go_wp2
      go_roundw
      case rel => exact ⟨k + 1, by omega, by rw [sumTo], by go_num, hbr⟩
      case measure => simp [intOf]; omega
    · obtain rfl : k = n := by omega
      go_wp2
      go_ret
      exact says_int (by rw [sumL, hlen.out]) hbr

end Go.Proofs.Ytpokoknapapdcaa

/- The readers by which the laws draw their inputs: whatever the bytes, each pick lies in its range, and each drawn list has few numbers. Condition: the bytes can be read. -/
namespace Go.Proofs.Ytpokoknapapdcaa
open Go.RowKit

/-- A slice of bytes can be read. -/
structure Slb (w : World) (bo : Option Addr) (n cap : Nat) (cs : List Int) : Prop where
  len : cs.length = n
  le : n ≤ cap
  max : cap ≤ maxLen
  bd : ∀ j, j < n → 0 ≤ el cs j ∧ el cs j ≤ 255
  row : 0 < n → ∃ b off, bo = some ⟨b, off, none⟩ ∧ b < w.heap.size ∧ ∀ j, j < n → w.cell? ⟨b, off + j, none⟩ = some (.int .u8 (el cs j))

theorem Slb.big {w : World} {bo : Option Addr} {n cap : Nat} {cs : List Int} (h : Slb w bo n cap cs) : n ≤ 9223372036854775807 := by
  have := h.le
  have := h.max
  unfold maxLen at this
  omega

theorem Slb.below {w w' : World} {B : Nat} {bo : Option Addr} {n cap : Nat} {cs : List Int} (h : Slb w bo n cap cs) (hB : w.heap.size ≤ B) (hb : Below B w w') : Slb w' bo n cap cs := by
  refine ⟨h.len, h.le, h.max, h.bd, fun hn => ?_⟩
  obtain ⟨b, off, rfl, hlt, hc⟩ := h.row hn
  exact ⟨b, off, rfl, Nat.lt_of_lt_of_le hlt hb.size, fun j hj => (hb.cell (p := ⟨b, off + j, none⟩) (Nat.lt_of_lt_of_le hlt hB)).trans (hc j hj)⟩

theorem Slb.take {w : World} {bo : Option Addr} {n cap : Nat} {cs : List Int} (h : Slb w bo n cap cs) {m : Nat} (hm : m ≤ n) : Slb w bo m cap (cs.take m) := by
  refine ⟨by rw [List.length_take, h.len]; omega, by have := h.le; omega, h.max, fun j hj => ?_, fun hn => ?_⟩
  · have e : el (cs.take m) j = el cs j := by simp [el, hj]
    rw [e]; exact h.bd j (by omega)
  · obtain ⟨b, off, rfl, hlt, hc⟩ := h.row (by omega)
    refine ⟨b, off, rfl, hlt, fun j hj => ?_⟩
    have e : el (cs.take m) j = el cs j := by simp [el, hj]
    rw [e]; exact hc j (by omega)

/-- Block R is a reader: of these bytes, which can be read and lie below it, after q picks. -/
structure Rdr (w : World) (R : Nat) (q : Nat) : Prop where
  ex : ∃ bo n cap cs, w.heap[R]? = some (.cells #[.slice bo n cap, .int .i64 (q : Int)] 85 (0, 0)) ∧ n ≤ 2000 ∧ cs.length = n ∧ (∀ j, j < n → 0 ≤ el cs j ∧ el cs j ≤ 255) ∧
    (0 < n → ∃ b off, bo = some ⟨b, off, none⟩ ∧ b < R ∧ ∀ j, j < n → w.cell? ⟨b, off + j, none⟩ = some (.int .u8 (el cs j)))

theorem Rdr.lt {w : World} {R q : Nat} (h : Rdr w R q) : R < w.heap.size := by
  obtain ⟨bo, n, cap, cs, hh, _⟩ := h.ex
  exact (Array.getElem?_eq_some_iff.1 hh).1

/-- A reader stays a reader where it and what lies below it have not turned. -/
theorem Rdr.kept {w w' : World} {R q : Nat} (h : Rdr w R q) (hb : Below (R + 1) w w') : Rdr w' R q := by
  obtain ⟨bo, n, cap, cs, hh, h1, h2, h3, h4⟩ := h.ex
  refine ⟨bo, n, cap, cs, (hb.block R (by omega)).trans hh, h1, h2, h3, fun hn => ?_⟩
  obtain ⟨b, off, rfl, hlt, hc⟩ := h4 hn
  exact ⟨b, off, rfl, hlt, fun j hj => (hb.cell (p := ⟨b, off + j, none⟩) (by show b < R + 1; omega)).trans (hc j hj)⟩

theorem Rdr.below {w w' : World} {R q : Nat} (h : Rdr w R q) (hb : Below w.heap.size w w') : Rdr w' R q := h.kept (hb.mono h.lt)

/-- What a pick turns: the reader alone. -/
def Picked (w : World) (R q : Nat) (lo hi : Int) (e : Ending) (w' : World) : Prop := ∃ v : Int, e = .returned (.int .i64 v) ∧ lo ≤ v ∧ v ≤ hi ∧ Rdr w' R (q + 1) ∧ w.grownBy w' (some R)

set_option maxHeartbeats 400000 in
theorem newReader_any (bo : Option Addr) (n cap : Nat) (cs : List Int) (w : World) (h : Slb w bo n cap cs) :
    Calls Try.prog 60 #[.slice bo n cap] w fun e w' => e = .returned (.pointer (some ⟨w.heap.size, 0, none⟩)) ∧ Rdr w' w.heap.size 0 ∧ Below w.heap.size w w' := by
  have hbig := h.big
  have hcap := h.le
  have hmax : cap ≤ 9223372036854775807 := by have := h.max; unfold maxLen at this; omega
  by_cases hn : n ≤ 2000
  · go_enter Try.func60, Try.ntmps60
    go_wp2
    go_ret
    refine ⟨rfl, ⟨bo, n, cap, cs, heap_alloc_new w _, hn, h.len, h.bd, fun hn => ?_⟩, (Below.refl _ _).alloc (Nat.le_refl _) _⟩
    obtain ⟨b, off, rfl, hlt, hc⟩ := h.row hn
    exact ⟨b, off, rfl, hlt, fun j hj => (World.cell?_alloc_lt (a := ⟨b, off + j, none⟩) _ _ hlt).trans (hc j hj)⟩
  · have ht := h.take (m := 2000) (by omega)
    obtain ⟨b, off, rfl, hlt0, hc0⟩ := h.row (by omega)
    have hc2 : (2000 : Int) ≤ cap := by omega
    clear hc0
    go_enter Try.func60, Try.ntmps60
    go_wp2
    go_ret
    refine ⟨rfl, ⟨_, 2000, cap, cs.take 2000, heap_alloc_new w _, Nat.le_refl _, ht.len, ht.bd, fun hn => ?_⟩, (Below.refl _ _).alloc (Nat.le_refl _) _⟩
    obtain ⟨b, off, hbb, hlt, hc⟩ := ht.row hn
    exact ⟨b, off, hbb, hlt, fun j hj => (World.cell?_alloc_lt (a := ⟨b, off + j, none⟩) _ _ hlt).trans (hc j hj)⟩

theorem set_far {w : World} {R b o o' : Nat} {v : Value} (h : b ≠ R) : (w.setCell ⟨R, o, none⟩ v).cell? ⟨b, o', none⟩ = w.cell? ⟨b, o', none⟩ :=
  World.cell?_setCell_other _ _ _ _ (fun e => h (congrArg Addr.block e).symm)

theorem Rdr.step {w : World} {R q : Nat} (h : Rdr w R q) : Rdr (w.setCell ⟨R, 1, none⟩ (.int .i64 ((q : Int) + 1))) R (q + 1) := by
  obtain ⟨bo, n, cap, cs, hh, h1, h2, h3, h4⟩ := h.ex
  refine ⟨bo, n, cap, cs, ?_, h1, h2, h3, fun hn => ?_⟩
  · have := heap_setCell_same w R 1 _ _ (.int .i64 ((q : Int) + 1)) hh
    rw [this]; simp
  · obtain ⟨b, off, rfl, hlt, hc⟩ := h4 hn
    refine ⟨b, off, rfl, hlt, fun j hj => ?_⟩
    rw [set_far (by omega)]
    exact hc j hj

theorem Rdr.drewN {w : World} {R q : Nat} (h : Rdr w R q) (m : Nat) : Rdr (w.drewN m) R q := ⟨h.ex⟩

theorem xor_nn {a b : Int} (ha : 0 ≤ a) (ha' : a < 4611686018427387904) (hb : 0 ≤ b) (hb' : b < 4611686018427387904) : 0 ≤ bits .xor .i64 a b := by
  obtain ⟨x, rfl⟩ := Int.eq_ofNat_of_zero_le ha
  obtain ⟨y, rfl⟩ := Int.eq_ofNat_of_zero_le hb
  have hx : x ^^^ y < 2 ^ 62 := Nat.xor_lt_two_pow (by omega) (by omega)
  have h1 : (BitVec.ofInt 64 (x : Int)).toNat = x := by
    rw [BitVec.ofInt_natCast, BitVec.toNat_ofNat]; exact Nat.mod_eq_of_lt (by omega)
  have h2 : (BitVec.ofInt 64 (y : Int)).toNat = y := by
    rw [BitVec.ofInt_natCast, BitVec.toNat_ofNat]; exact Nat.mod_eq_of_lt (by omega)
  show 0 ≤ IntKind.i64.wrap ((BitVec.ofInt 64 (x : Int) ^^^ BitVec.ofInt 64 (y : Int)).toNat : Int)
  rw [BitVec.toNat_xor, h1, h2, IntKind.wrap_i64]
  omega

theorem mixed_bd {X m : Int} (h0 : 0 ≤ X) (h1 : X < 4611686018427387904) (hm : 1 ≤ m) : 0 ≤ (bits .xor .i64 X (X / 64)).tmod m ∧ (bits .xor .i64 X (X / 64)).tmod m ≤ m - 1 := by
  have hx := xor_nn h0 h1 (show 0 ≤ X / 64 by omega) (by omega)
  rw [Int.tmod_eq_emod_of_nonneg hx]
  exact ⟨Int.emod_nonneg _ (by omega), by have := Int.emod_lt_of_pos (bits .xor .i64 X (X / 64)) (show 0 < m by omega); omega⟩

theorem pick_bd {a b m : Int} {q n : Nat} (ha : 0 ≤ a) (ha' : a ≤ 255) (hb : 0 ≤ b) (hb' : b ≤ 255) (hq : q ≤ 100000) (hm : 1 ≤ m) :
    0 ≤ (bits .xor .i64 (wrap64 (a * 131 + b * 1117 + q * 29 + wrap64 (wrap64 ((q : Int) / n) * 53))) (wrap64 ((wrap64 (a * 131 + b * 1117 + q * 29 + wrap64 (wrap64 ((q : Int) / n) * 53))).tdiv 64))).tmod m ∧
    (bits .xor .i64 (wrap64 (a * 131 + b * 1117 + q * 29 + wrap64 (wrap64 ((q : Int) / n) * 53))) (wrap64 ((wrap64 (a * 131 + b * 1117 + q * 29 + wrap64 (wrap64 ((q : Int) / n) * 53))).tdiv 64))).tmod m ≤ m - 1 := by
  have z0 : 0 ≤ (q : Int) / n := Int.ediv_nonneg (by omega) (by omega)
  have z1 : (q : Int) / n ≤ q := Int.ediv_le_self _ (by omega)
  generalize (q : Int) / n = z at z0 z1
  rw [IntWalk.wrap64_in z ⟨by omega, by omega⟩, IntWalk.wrap64_in (z * 53) ⟨by omega, by omega⟩, IntWalk.wrap64_in (a * 131 + b * 1117 + q * 29 + z * 53) ⟨by omega, by omega⟩]
  have h0 : 0 ≤ a * 131 + b * 1117 + q * 29 + z * 53 := by omega
  have h1 : a * 131 + b * 1117 + q * 29 + z * 53 < 4611686018427387904 := by omega
  generalize a * 131 + b * 1117 + (q : Int) * 29 + z * 53 = X at h0 h1
  rw [Int.tdiv_eq_ediv_of_nonneg h0, IntWalk.wrap64_in (X / 64) ⟨by omega, by omega⟩]
  exact mixed_bd h0 h1 hm

set_option maxHeartbeats 1000000 in
theorem pick_any (R q : Nat) (m : Int) (w : World) (h : Rdr w R q) (hq : q ≤ 100000) (hm : m ≤ 1000000) :
    Calls Try.prog 85 #[.pointer (some ⟨R, 0, none⟩), .int .i64 m] w (Picked w R q 0 (max m 1 - 1)) := by
  have hst := h.step
  have hgr : w.grownBy (w.setCell ⟨R, 1, none⟩ (.int .i64 ((q : Int) + 1))) (some R) := grown_set
  obtain ⟨bo, n, cap, cs, hh, h1, h2, h3, h4⟩ := h.ex
  have c0 := cell_of_row w R 0 _ _ (0, 0) hh
  have c1 := cell_of_row w R 1 _ _ (0, 0) hh
  have f1 := frozen_of_row w R 1 _ _ hh
  simp only [List.getElem?_toArray, List.getElem?_cons_zero, List.getElem?_cons_succ] at c0 c1
  have hmin := Int.le_max_right m 1
  have Hst := hid hst
  have Hgr := hid hgr
  have H4 := hid h4
  have H3 := hid h3
  clear hst hgr h4 h3 hh h
  by_cases hm1 : m < 1
  · go_enter Try.func85, Try.ntmps85
    go_wp2
    go_ret
    exact ⟨0, rfl, Int.le_refl _, by omega, Hst.out, Hgr.out⟩
  · by_cases hn : n = 0
    · subst hn
      go_enter Try.func85, Try.ntmps85
      go_wp2
      go_ret
      exact ⟨0, rfl, Int.le_refl _, by omega, Hst.out, Hgr.out⟩
    · obtain ⟨b, off, rfl, hlt, hc⟩ := H4.out (by omega)
      have hbR : ¬ b = R := by omega
      by_cases hqn : q < n
      · have hcq := hc q hqn
        have hbd := H3.out q hqn
        have hb0 := hbd.1
        have hb1 := hbd.2
        have hcq' : (w.setCell ⟨R, 1, none⟩ (.int .i64 ((q : Int) + 1))).cell? ⟨b, off + q, none⟩ = some (.int .u8 (el cs q)) := by
          rw [set_far hbR]; exact hcq
        have hmm : max m 1 = m := by omega
        have Hmm := hid hmm
        clear hc hbd hmm
        go_enter Try.func85, Try.ntmps85
        go_wp2
        go_ret
        exact ⟨_, rfl, Int.emod_nonneg _ (by omega), by rw [Hmm.out]; have := Int.emod_lt_of_pos (el cs q) (show 0 < m by omega); omega, Hst.out, Hgr.out⟩
      · obtain ⟨i1, hi1⟩ : ∃ i1 : Nat, i1 = q % n := ⟨_, rfl⟩
        obtain ⟨i2, hi2⟩ : ∃ i2 : Nat, i2 = (q * 7 + 3) % n := ⟨_, rfl⟩
        have hl1 : i1 < n := by rw [hi1]; exact Nat.mod_lt _ (by omega)
        have hl2 : i2 < n := by rw [hi2]; exact Nat.mod_lt _ (by omega)
        have e1 : (q : Int) % n = i1 := by rw [hi1]; exact (Int.natCast_emod q n).symm
        have e2 : ((q : Int) * 7 + 3) % n = i2 := by rw [hi2]; simp
        have hw : ∀ o, (w.setCell ⟨R, 1, none⟩ (.int .i64 ((q : Int) + 1))).cell? ⟨b, o, none⟩ = w.cell? ⟨b, o, none⟩ := fun o => set_far hbR
        have k1 := (hw (off + i1)).trans (hc i1 hl1)
        have k2 := (hw (off + i2)).trans (hc i2 hl2)
        have b1 := H3.out i1 hl1
        have b2 := H3.out i2 hl2
        have b10 := b1.1
        have b11 := b1.2
        have b20 := b2.1
        have b21 := b2.2
        have hmm : max m 1 = m := by omega
        have Hmm := hid hmm
        clear hc hmm hw hi1 hi2 b1 b2
        go_enter Try.func85, Try.ntmps85
        go_wp2
        go_quiet (fail)
        go_wp2
        go_ret
        have hpb := pick_bd (n := n) b10 b11 b20 b21 hq (show 1 ≤ m by omega)
        exact ⟨_, rfl, hpb.1, by rw [Hmm.out]; exact hpb.2, Hst.out.drewN _, grown_drewN Hgr.out _⟩

end Go.Proofs.Ytpokoknapapdcaa

/- Appends in statements whose order of evaluation is open: the law of one append as one step, and how facts on lists fare over the steps. No condition. -/
namespace Go.Proofs.Ytpokoknapapdcaa
open Go.RowKit

theorem Own.alloc {w : World} {B : Nat} {u : Value} {ys : List Int} (h : Own w B u ys) (o : Obj) : Own (w.alloc o) B u ys := World.ownsRow.alloc h o
theorem Own.drew {w : World} {B : Nat} {u : Value} {ys : List Int} (h : Own w B u ys) : Own w.drew B u ys := h
theorem Sl.drew {w : World} {ao : Option Addr} {n cap : Nat} {xs : List Int} (h : Sl w ao n cap xs) : Sl w.drew ao n cap xs := ⟨h.len, h.le, h.max, h.row⟩
theorem Sl.alloc {w : World} {ao : Option Addr} {n cap : Nat} {xs : List Int} (h : Sl w ao n cap xs) (o : Obj) : Sl (w.alloc o) ao n cap xs := h.later ((Below.refl _ _).alloc (Nat.le_refl _) o)
theorem Sl.new (w : World) (x : Int) : Sl (w.alloc (.cells #[.int .i64 x] 3)) (some ⟨w.heap.size, 0, none⟩) 1 1 [x] :=
  ⟨rfl, Nat.le_refl _, by unfold maxLen; omega, fun _ => ⟨_, _, rfl, by simp, fun j hj => by
    obtain rfl : j = 0 := by omega
    simp [el]⟩⟩
theorem Sl.grown {w w' : World} {g n cap : Nat} {xs : List Int} {row : Option Nat} (h : Sl w (some ⟨g, 0, none⟩) n cap xs) (hg : w.grownBy w' row) (hr : row ≠ some g) : Sl w' (some ⟨g, 0, none⟩) n cap xs := by
  refine ⟨h.len, h.le, h.max, fun hn => ?_⟩
  obtain ⟨b, off, he, hlt, hc⟩ := h.row hn
  simp only [Option.some.injEq, Addr.mk.injEq, and_true] at he
  obtain ⟨rfl, rfl⟩ := he
  exact ⟨_, _, rfl, Nat.lt_of_lt_of_le hlt hg.size, fun j hj => hg.cell (hc j hj) (fun e => hr e.symm)⟩

theorem Sl.take {w : World} {ao : Option Addr} {n cap k : Nat} {xs : List Int} (h : Sl w ao n cap xs) (hk : k ≤ n) : Sl w ao k cap (xs.take k) := by
  refine ⟨by rw [List.length_take, h.len]; omega, by have := h.le; omega, h.max, fun hn => ?_⟩
  obtain ⟨b, off, rfl, hlt, hc⟩ := h.row (by omega)
  refine ⟨b, off, rfl, hlt, fun j hj => ?_⟩
  rw [hc j (by omega)]
  simp [el, hj]
theorem Sl.dropIf {w : World} {ao : Option Addr} {n cap k : Nat} {xs : List Int} (h : Sl w ao n cap xs) (hk : k ≤ n) : Sl w (if cap = k then ao else Option.map (fun x => x.add k) ao) (n - k) (cap - k) (xs.drop k) := by
  refine ⟨by rw [List.length_drop, h.len], by have := h.le; omega, by have := h.max; omega, fun hn => ?_⟩
  obtain ⟨b, off, rfl, hlt, hc⟩ := h.row (by omega)
  rw [if_neg (by have := h.le; omega)]
  refine ⟨b, off + k, by rw [Option.map_some, Addr.add_lit], hlt, fun j hj => ?_⟩
  rw [Nat.add_assoc, hc (k + j) (by omega)]
  simp [el]
theorem drop_nil {ao : Option Addr} {cap k : Nat} (h : ao = none → cap = 0) : (if cap = k then ao else Option.map (fun x => x.add k) ao) = none → cap - k = 0 := by
  intro e
  split at e
  · have := h e; omega
  · rw [Option.map_eq_none_iff] at e
    have := h e; omega

/-- append(s, x...) as one step of a region. -/
theorem step_app {ops : Array Oper} {o : Oper} {a : Act} {w : World} {K : Act → World → Prop} {Q : Exit → Act → World → Prop} {E : Prop}
    (hg : o.guard = none) (s x : Operand) (hop : o.op = Op.call { callee := Callee.builtin Builtin.append, args := #[s, x], argTypes := #[24, 24] })
    (W0 : World) (u : Value) (ys : List Int) (hs : a.eval s = u) (hown : Own w W0.heap.size u ys) (ao : Option Addr) (n cap : Nat) (xs : List Int) (hx : a.eval x = .slice ao n cap) (hsl : Sl w ao n cap xs) (hnil : ao = none → cap = 0)
    (hlen : ys.length + n ≤ 2000000) (hb : Below W0.heap.size W0 w)
    (hK : ∀ u' w', Own w' W0.heap.size u' (ys ++ xs) → w.grownBy w' u.ownBlock → Below W0.heap.size W0 w' → K (a.put o.dst u') w') :
    if Region.wanted o (yielded ops a.tmps) = true then Oper.wp Try.prog o a w K Q else E := by
  have hw : Region.wanted o (yielded ops a.tmps) = true := by simp [Region.wanted, hg]
  rw [if_pos hw]
  obtain ⟨i0, hi, hz0, hz1, hz2⟩ := info_parts infoI
  have hl := hsl.len
  have hB := hb.size
  cases ao with
  | none =>
    have hn : n = 0 := by
      rcases Nat.eq_zero_or_pos n with h | h
      · exact h
      · obtain ⟨b, off, hb, _⟩ := hsl.row h
        cases hb
    subst hn
    have hc := hnil rfl
    subst hc
    have hxs : xs = [] := List.eq_nil_of_length_eq_zero hl
    subst hxs
    have hrun := run_append_owned_none (P := Try.prog) (w := w) W0.heap.size 24 o.type 3 i0 1 Try.underlying24 hi u ys.length _ hown
    unfold Oper.wp
    simp [execOp, hop, resolve, invoke, builtin, hs, hx, hrun, Result.andThen]
    exact hK u w (by rw [List.append_nil]; exact hown) (World.grownBy.refl _ _) hb
  | some ad =>
    have hnews : ∀ j t, (xs.map (Value.int .i64))[j]? = some t → w.cell? (ad.add j) = some t := by
      intro j t hj
      have hjn : j < n := by
        have := (List.getElem?_eq_some_iff.1 hj).1
        rw [List.length_map, hl] at this; exact this
      obtain ⟨b, off, hb, _, hc⟩ := hsl.row (by omega)
      obtain rfl := Option.some.inj hb
      rw [Addr.add_lit, hc j hjn]
      rw [List.getElem?_map, List.getElem?_eq_getElem (by omega)] at hj
      rw [el_lt (by omega)]
      exact hj
    obtain ⟨v', w', hrun, hown', hgrow, _⟩ := run_append_own (P := Try.prog) w W0.heap.size 24 o.type 3 i0 (.int .i64 0) 1 8 Try.underlying24 hi hz0 hz1 hz2 rfl (by decide) u ys.length _ hown ad n cap (xs.map (Value.int .i64)) (by simp [hl]) hnews (ints_oneCell _ _) (by unfold maxLen; omega) (by omega) hB
    unfold Oper.wp
    simp [execOp, hop, resolve, invoke, builtin, hs, hx, hrun, Result.andThen]
    refine hK v' w' ?_ hgrow (hb.grown hgrow hB (fun k hk => (hown.blocks k hk).1))
    unfold Own
    rw [List.length_append, List.map_append, hl]
    exact hown'

end Go.Proofs.Ytpokoknapapdcaa

/- More of the readers: one of a list, a value put in, orders and bent orders. Condition: the bytes can be read. -/
namespace Go.Proofs.Ytpokoknapapdcaa
open Go.RowKit

theorem grown_far {w w' : World} {R b o : Nat} {v : Value} (hg : w.grownBy w' (some R)) (hb : b ≠ R) (h : w.cell? ⟨b, o, none⟩ = some v) : w'.cell? ⟨b, o, none⟩ = some v :=
  hg.cell h (fun e => hb (by simpa using e))

/-- What one of a list turns: the reader alone. -/
def Oned (w : World) (R q : Nat) (fs : List Int) (e : Ending) (w' : World) : Prop := ∃ j, j < fs.length ∧ e = .returned (.int .i64 (el fs j)) ∧ Rdr w' R (q + 1) ∧ w.grownBy w' (some R)

set_option maxHeartbeats 400000 in
theorem one_any (R q g n T : Nat) (fs : List Int) (w : World) (h : Rdr w R q) (hq : q ≤ 100000) (ha : Arr w g T fs) (hl : fs.length = n) (hn : 0 < n) (hn2 : n ≤ 1000) (hg : g ≠ R) :
    Calls Try.prog 75 #[.pointer (some ⟨R, 0, none⟩), .slice (some ⟨g, 0, none⟩) n n] w (Oned w R q fs) := by
  have hcell := fun j (hj : j < n) => ha.cell (j := j) (by omega)
  have Hc := hid hcell
  have Hl := hid hl
  clear hcell hl
  go_enter Try.func75, Try.ntmps75
  go_wp2_with fail
  refine (pick_any R q n w h hq (by omega)).mono ?_
  rintro e w1 ⟨v, rfl, hv0, hv1, hr, hgr⟩
  obtain ⟨j, rfl⟩ := Int.eq_ofNat_of_zero_le hv0
  have hj : j < n := by have := Int.max_eq_left (show (1 : Int) ≤ n by omega); omega
  have hc := grown_far hgr hg (Hc.out j hj)
  clear hv0 hv1
  go_wp2
  go_ret
  exact ⟨j, by rw [Hl.out]; exact hj, rfl, hr, hgr⟩

set_option maxHeartbeats 1000000 in
theorem insertAt_any (ao : Option Addr) (n cap : Nat) (xs : List Int) (x : Int) (k : Nat) (w : World) (h : Sl w ao n cap xs) (hnil : ao = none → cap = 0) (hk : k ≤ n) (hn : n ≤ 1000) :
    Calls Try.prog 115 #[.slice ao n cap, .int .i64 x, .int .i64 k] w (Made w (xs.take k ++ [x] ++ xs.drop k)) := by
  have hle := h.le
  have hmax : cap ≤ 9223372036854775807 := by have := h.max; unfold maxLen at this; omega
  have hlen := hid h.len
  have hkc : k ≤ cap := by omega
  go_enter Try.func115, Try.ntmps115
  go_wp2_with fail
  have hlit2 : Own (((w.alloc (.cells #[.int .i64 x] 3)).alloc (.cells #[] 3)).drew) w.heap.size (.slice (some ⟨w.heap.size + 1, 0, none⟩) 0 0) [] := by
    have := own_lit_at (w := w.alloc (.cells #[.int .i64 x] 3)) (B := w.heap.size) (by simp)
    rw [World.size_alloc] at this
    exact this.drew
  go_region_law (first
    | (refine step_app rfl (.tmp 7) (.tmp 10) rfl w (.slice (some ⟨w.heap.size, 0, none⟩) 0 0) [] rfl (by first | exact own_lit_at (Nat.le_refl _) | exact (own_lit_at (Nat.le_refl _)).alloc _) ao k cap (xs.take k) rfl (by first | exact ((h.take hk).drew).alloc _ | exact (((h.take hk).drew).alloc _).alloc _) hnil (by simp; omega) (by go_grown) ?_
       intro u1 w1 ho1 hg1 hb1
       first
         | (have hx1 := ((Sl.new (w.alloc (.cells #[] 3)) x).drew).grown hg1 (fun e => absurd (Option.some.inj e) (by simp)); simp only [World.size_alloc] at hx1)
         | skip)
    | (refine step_app rfl (.tmp 7) (.tmp 10) rfl w (.slice (some ⟨w.heap.size + 1, 0, none⟩) 0 0) [] rfl hlit2 ao k cap (xs.take k) rfl ((((h.take hk).drew).alloc _).alloc _) hnil (by simp; omega) (by go_grown) ?_
       intro u1 w1 ho1 hg1 hb1
       have hx1 := (((Sl.new w x).alloc (.cells #[] 3)).drew).grown hg1 (fun e => absurd (Option.some.inj e) (by simp)))
    | (refine step_app rfl (.tmp 11) (.tmp 13) rfl w u1 (xs.take k) rfl (by first | exact ho1 | exact ho1.alloc _) _ 1 1 [x] rfl (by first | exact Sl.new w1 x | exact hx1) (by simp) (by rw [List.length_take]; omega) (by first | exact hb1 | exact hb1.alloc hb1.size _) ?_
       intro u2 w2 ho2 hg2 hb2)
    | (refine step_app rfl (.tmp 14) (.tmp 17) rfl w u2 (xs.take k ++ [x]) rfl ho2 _ (n - k) (cap - k) (xs.drop k) rfl ((h.below (Nat.le_refl _) hb2).dropIf hk) (drop_nil hnil) (by rw [List.length_append, List.length_take, List.length_singleton]; omega) hb2 ?_
       intro u3 w3 ho3 hg3 hb3))
  all_goals go_wp2
  all_goals go_ret
  all_goals exact ⟨_, rfl, by have := ho3; rw [List.append_assoc] at this; exact this, hb3⟩

end Go.Proofs.Ytpokoknapapdcaa

/- The orders and bent orders that the laws draw: whatever the bytes, a list of at most nine numbers. Condition: the bytes can be read. -/
namespace Go.Proofs.Ytpokoknapapdcaa
open Go.RowKit

theorem grown_of_below {w w' : World} {row : Option Nat} (h : Below w.heap.size w w') : w.grownBy w' row := ⟨h.os, h.tape, h.output, h.size, fun k hk _ => h.block k hk⟩

theorem Own.farR {w : World} {B R : Nat} {u : Value} {ys : List Int} (h : Own w B u ys) (hR : R < B) : u.ownBlock = none ∨ u.ownBlock ≠ some R := by
  cases e : u.ownBlock with
  | none => exact Or.inl rfl
  | some k =>
    refine Or.inr (fun e2 => ?_)
    have := (h.blocks k e).1
    have := Option.some.inj e2
    omega

/-- A call that draws a list of n numbers: it makes a list and turns the reader. -/
def Drew (w : World) (R n Q : Nat) (e : Ending) (w' : World) : Prop := ∃ u ys q, e = .returned u ∧ Own w' w.heap.size u ys ∧ ys.length = n ∧ q ≤ Q ∧ Rdr w' R q ∧ w.grownBy w' (some R)

set_option maxHeartbeats 1000000 in
theorem anOrder_any (R q n : Nat) (w : World) (h : Rdr w R q) (hq : q ≤ 60000) (hn : n ≤ 8) :
    Calls Try.prog 107 #[.pointer (some ⟨R, 0, none⟩), .int .i64 n] w (Drew w R n (q + 8)) := by
  have hlt := h.lt
  go_enter Try.func107, Try.ntmps107
  go_wp2
  go_loopw [5, 6] (fun p x wr => ∃ (k : Nat) (ao : Option Addr) (cap : Nat) (ys : List Int), k ≤ n ∧ p = .slice ao k cap ∧ x = .int .i64 k ∧ Own wr w.heap.size (.slice ao k cap) ys ∧ Rdr wr R (q + k) ∧ w.grownBy wr (some R))
    (fun p _ _ => n - lenOf p)
  case atStart => exact ⟨0, _, _, [], Nat.zero_le _, rfl, rfl, own_lit w, h.below ((Below.refl _ _).alloc (Nat.le_refl _) _), World.grownBy_alloc w _ _⟩
  case round =>
    obtain ⟨k, ao, cap, ys, hk, rfl, rfl, ho, hr, hg⟩ := hrel
    by_cases hlt2 : k < n
    · go_wp2_with fail
      refine (pick_any R (q + k) ((k : Int) + 1) wr hr (by omega) (by omega)).mono ?_
      rintro e w1 ⟨v, rfl, hv0, hv1, hr1, hg1⟩
      obtain ⟨j, rfl⟩ := Int.eq_ofNat_of_zero_le hv0
      have hj : j ≤ k := by have := Int.max_eq_left (show (1 : Int) ≤ (k : Int) + 1 by omega); omega
      have ho1 := ho.kept hg1 (ho.farR hlt)
      have hyl := ho1.read.len
      clear hv0 hv1
      go_wp2_with fail
      refine (insertAt_any ao k cap ys k j w1 ho1.read ho1.nilcap hj (by omega)).mono ?_
      rintro e w2 ⟨u2, rfl, ho2, hb2⟩
      have hl2 : (ys.take j ++ [(k : Int)] ++ ys.drop j).length = k + 1 := by
        rw [List.length_append, List.length_append, List.length_take, List.length_drop, List.length_singleton, hyl]; omega
      have hsz : w.heap.size ≤ w1.heap.size := Nat.le_trans hg.size hg1.size
      have ho3 := ho2.mono hsz
      have hr2 := hr1.below hb2
      have hg2 := grown_trans (grown_trans hg hg1) (grown_of_below (row := some R) hb2)
      obtain ⟨ao2, cap2, rfl, -⟩ := ho3.sl
      rw [hl2] at ho3 ⊢
      clear ho2 hl2 hyl
      go_wp2
      go_roundw
      case rel => exact ⟨k + 1, _, _, _, by omega, rfl, by go_num, ho3, hr2, hg2⟩
      case measure => simp [lenOf]; omega
    · obtain rfl : k = n := by omega
      go_wp2
      go_ret
      exact ⟨_, ys, _, rfl, ho, ho.read.len, by omega, hr, hg⟩

theorem lit_arr (w : World) (fs : List Int) : Arr (w.alloc (.cells (fs.map (Value.int .i64)).toArray 3)) w.heap.size 3 fs := Arr.made w 3 fs

set_option maxHeartbeats 1000000 in
theorem goodOrder_any (R q : Nat) (w : World) (h : Rdr w R q) (hq : q ≤ 50000) :
    Calls Try.prog 88 #[.pointer (some ⟨R, 0, none⟩)] w fun e w' => ∃ n, n ≤ 7 ∧ Drew w R n (q + 9) e w' := by
  have hlt := h.lt
  have ha := lit_arr w [4, 5, 6, 3, 7, 2, 1, 0]
  have hr := h.below ((Below.refl w.heap.size w).alloc (Nat.le_refl _) (.cells ([4, 5, 6, 3, 7, 2, 1, 0].map (Value.int .i64)).toArray 3))
  have Ha := hid ha
  have Hr := hid hr
  clear ha hr
  go_enter Try.func88, Try.ntmps88
  go_wp2_with fail
  refine (one_any R q w.heap.size 8 3 [4, 5, 6, 3, 7, 2, 1, 0] _ Hr.out (by omega) Ha.out rfl (by omega) (by omega) (by omega)).mono ?_
  rintro e w1 ⟨j, hj, rfl, hr1, hg1⟩
  have hv : ∀ j, j < 8 → 0 ≤ el [4, 5, 6, 3, 7, 2, 1, 0] j ∧ el [4, 5, 6, 3, 7, 2, 1, 0] j ≤ 7 := by decide
  obtain ⟨n, hn⟩ := Int.eq_ofNat_of_zero_le (hv j hj).1
  have hn7 : n ≤ 7 := by have := (hv j hj).2; omega
  rw [hn]
  clear hv hn hj
  go_wp2_with fail
  refine (anOrder_any R (q + 1) n w1 hr1 (by omega) (by omega)).mono ?_
  rintro e w2 ⟨u, ys, q2, rfl, ho, hl, hq2, hr2, hg2⟩
  have hsz : w.heap.size ≤ w1.heap.size := Nat.le_trans (by simp) hg1.size
  go_wp2
  go_ret
  exact ⟨n, hn7, _, ys, q2, rfl, ho.mono hsz, hl, hq2, hr2, grown_trans (grown_trans (World.grownBy_alloc w _ _) hg1) hg2⟩

end Go.Proofs.Ytpokoknapapdcaa

/- The bent orders that the laws draw, and the draws themselves: whatever the bytes, lists of at most nine numbers. Condition: the bytes can be read. -/
namespace Go.Proofs.Ytpokoknapapdcaa
open Go.RowKit

/-- Below B all is as it was but for block R. -/
structure ExR (B R : Nat) (w w' : World) : Prop where
  os : w'.os = w.os
  tape : w'.tape = w.tape
  output : w'.output = w.output
  size : w.heap.size ≤ w'.heap.size
  block : ∀ k, k < B → k ≠ R → w'.heap[k]? = w.heap[k]?

theorem ExR.of_grown {B R : Nat} {w w' : World} (h : w.grownBy w' (some R)) (hB : B ≤ w.heap.size) : ExR B R w w' :=
  ⟨h.os, h.tape, h.output, h.size, fun k hk hne => h.block k (by omega) (fun e => hne (Option.some.inj e))⟩
theorem ExR.trans {B R : Nat} {a b c : World} (h : ExR B R a b) (k : ExR B R b c) : ExR B R a c :=
  ⟨k.os.trans h.os, k.tape.trans h.tape, k.output.trans h.output, Nat.le_trans h.size k.size, fun i hi hne => (k.block i hi hne).trans (h.block i hi hne)⟩
theorem ExR.of_row {B R : Nat} {w w' : World} {row : Option Nat} (h : w.grownBy w' row) (hB : B ≤ w.heap.size) (hr : ∀ k, row = some k → B ≤ k) : ExR B R w w' :=
  ⟨h.os, h.tape, h.output, h.size, fun k hk _ => h.block k (by omega) (fun e => by have := hr k e.symm; omega)⟩
theorem grown_exR {R : Nat} {w a b : World} (h : w.grownBy a (some R)) (k : ExR w.heap.size R a b) : w.grownBy b (some R) :=
  ⟨k.os.trans h.os, k.tape.trans h.tape, k.output.trans h.output, Nat.le_trans h.size k.size, fun i hi hne => (k.block i hi (fun e => hne (by rw [e]))).trans (h.block i hi hne)⟩

/-- A list was bent: it is the call's own still, and has at most one number more. -/
def Bent (w : World) (B R n Q : Nat) (e : Ending) (w' : World) : Prop := ∃ u ys q, e = .returned u ∧ Own w' B u ys ∧ ys.length ≤ n ∧ q ≤ Q ∧ Rdr w' R q ∧ ExR B R w w'

theorem Rdr.row {w w' : World} {R q : Nat} {row : Option Nat} (h : Rdr w R q) (hg : w.grownBy w' row) (hr : ∀ k, row = some k → R < k) : Rdr w' R q :=
  h.kept (below_of_grown hg h.lt (fun k hk => hr k hk))

set_option maxHeartbeats 1000000 in
theorem bent_any (B R q : Nat) (ao : Option Addr) (n cap : Nat) (ys : List Int) (w : World) (h : Rdr w R q) (ho : Own w B (.slice ao n cap) ys) (hR : R < B) (hB : B ≤ w.heap.size) (hq : q ≤ 50000) (hn : n ≤ 8) :
    Calls Try.prog 87 #[.pointer (some ⟨R, 0, none⟩), .slice ao n cap] w (Bent w B R 9 (q + 10)) := by
  have hyl := hid ho.read.len
  go_enter Try.func87, Try.ntmps87
  go_wp2_with fail
  refine (pick_any R q 30 w h (by omega) (by omega)).mono ?_
  rintro e w1 ⟨v, rfl, hv0, hv1, hr1, hg1⟩
  have ho1 := ho.kept hg1 (ho.farR hR)
  have hx1 := ExR.of_grown (B := B) hg1 hB
  have hB1 : B ≤ w1.heap.size := Nat.le_trans hB hg1.size
  by_cases e0 : v = 0
  · subst e0
    by_cases hn0 : n = 0
    · subst hn0
      clear hv0 hv1
      go_wp2
      go_ret
      exact ⟨_, ys, _, rfl, ho1, by rw [hyl.out]; omega, by omega, hr1, hx1⟩
    · clear hv0 hv1
      have hnp : (0 : Int) < n := by omega
      go_wp2_with fail
      refine (pick_any R (q + 1) n w1 hr1 (by omega) (by omega)).mono ?_
      rintro e w2 ⟨v2, rfl, hv0, hv1, hr2, hg2⟩
      obtain ⟨j, rfl⟩ := Int.eq_ofNat_of_zero_le hv0
      have hj : j < n := by have := Int.max_eq_left (show (1 : Int) ≤ n by omega); omega
      have ho2 := ho1.kept hg2 (ho1.farR hR)
      have hx2 := hx1.trans (ExR.of_grown (B := B) hg2 hB1)
      have hB2 : B ≤ w2.heap.size := Nat.le_trans hB1 hg2.size
      have ha := lit_arr w2 [0, -1, 7, 4611686018427387904]
      have hr3 := hr2.below ((Below.refl w2.heap.size w2).alloc (Nat.le_refl _) (.cells ([0, -1, 7, 4611686018427387904].map (Value.int .i64)).toArray 3))
      have Ha := hid ha
      have Hr := hid hr3
      have hRw := hr2.lt
      clear hv0 hv1 ha hr3
      go_wp2_with fail
      refine (one_any R (q + 2) w2.heap.size 4 3 [0, -1, 7, 4611686018427387904] _ Hr.out (by omega) Ha.out rfl (by omega) (by omega) (by omega)).mono ?_
      rintro e w3 ⟨j3, hj3, rfl, hr3, hg3⟩
      have ho3 := (ho2.below (Nat.le_refl _) ((Below.refl w2.heap.size w2).alloc (Nat.le_refl _) (.cells ([0, -1, 7, 4611686018427387904].map (Value.int .i64)).toArray 3))).kept hg3 (Own.farR (ho2.below (Nat.le_refl _) ((Below.refl w2.heap.size w2).alloc (Nat.le_refl _) (.cells ([0, -1, 7, 4611686018427387904].map (Value.int .i64)).toArray 3))) hR)
      have hx3 := hx2.trans ((ExR.of_row (row := none) (World.grownBy_alloc w2 (.cells ([0, -1, 7, 4611686018427387904].map (Value.int .i64)).toArray 3) none) hB2 (fun k hk => by cases hk)).trans (ExR.of_grown (B := B) hg3 (Nat.le_trans hB2 (by simp))))
      rcases ho3.place with ⟨e1, rfl⟩ | ⟨g, cap', e1, hs3⟩
      · simp only [Value.slice.injEq] at e1
        omega
      · simp only [Value.slice.injEq] at e1
        obtain ⟨rfl, e2, rfl⟩ := e1
        rw [← e2] at hs3
        clear e2
        have hfr := hs3.frozen j
        have hcur := hs3.cell hj
        have hlt3 := hs3.lt
        obtain ⟨z, hz⟩ : ∃ z, z = el [0, -1, 7, 4611686018427387904] j3 := ⟨_, rfl⟩
        rw [← hz]
        clear hz hj3
        go_wp2
        go_ret
        exact ⟨_, ys.set j z, _, rfl, (hs3.set j z).own, by rw [List.length_set, hyl.out]; omega, by omega, hr3.row (grown_set (g := g) (j := j)) (fun k hk => by have := Option.some.inj hk; omega), hx3.trans (ExR.of_row (grown_set (g := g) (j := j)) (by omega) (fun k hk => by have := Option.some.inj hk; omega))⟩
  · by_cases e1 : v = 1
    · subst e1
      clear hv0 hv1
      have hl1 : ys.length ≤ 2000000 := by rw [hyl.out]; omega
      go_wp2_with (at_builtin; refine app_int _ _ rfl _ _ rfl B _ _ rfl ho1 rfl hl1 hB1 ?_)
      intro u' w' ho' hg'
      go_wp2
      go_ret
      exact ⟨_, _, q + 1, rfl, ho', by rw [List.length_append, hyl.out, List.length_singleton]; omega, by omega, hr1.row hg' (fun k hk => by have := (ho1.blocks k hk).1; omega), hx1.trans (ExR.of_row hg' hB1 (fun k hk => (ho1.blocks k hk).1))⟩
    · by_cases e2 : v = 2
      · subst e2
        clear hv0 hv1
        go_wp2_with fail
        refine (anOrder_any R (q + 1) 8 w1 hr1 (by omega) (by omega)).mono ?_
        rintro e w2 ⟨u, zs, q2, rfl, ho2, hl, hq2, hr2, hg2⟩
        go_wp2
        go_ret
        exact ⟨_, zs, q2, rfl, ho2.mono hB1, by omega, by omega, hr2, hx1.trans (ExR.of_grown (B := B) hg2 hB1)⟩
      · clear hv0 hv1
        go_wp2
        go_ret
        exact ⟨_, ys, _, rfl, ho1, by rw [hyl.out]; omega, by omega, hr1, hx1⟩

/-- A call that draws a list of at most m numbers: it makes a list and turns the reader. -/
def DrewU (w : World) (R m Q : Nat) (e : Ending) (w' : World) : Prop := ∃ u ys q, e = .returned u ∧ Own w' w.heap.size u ys ∧ ys.length ≤ m ∧ q ≤ Q ∧ Rdr w' R q ∧ w.grownBy w' (some R)

set_option maxHeartbeats 400000 in
theorem someOrder_any (R q : Nat) (w : World) (h : Rdr w R q) (hq : q ≤ 40000) :
    Calls Try.prog 62 #[.pointer (some ⟨R, 0, none⟩)] w (DrewU w R 9 (q + 20)) := by
  have hlt := h.lt
  go_enter Try.func62, Try.ntmps62
  go_wp2_with fail
  refine (goodOrder_any R q w h (by omega)).mono ?_
  rintro e w1 ⟨n, hn, u, ys, q1, rfl, ho, hl, hq1, hr1, hg1⟩
  obtain ⟨a1, c1, rfl, -⟩ := ho.sl
  rw [hl] at ho ⊢
  clear hl
  go_wp2_with fail
  refine (bent_any w.heap.size R q1 a1 n c1 ys w1 hr1 ho hlt hg1.size (by omega) (by omega)).mono ?_
  rintro e w2 ⟨u2, ys2, q2, rfl, ho2, hl2, hq2, hr2, hx2⟩
  go_wp2
  go_ret
  exact ⟨_, ys2, q2, rfl, ho2, hl2, by omega, hr2, grown_exR hg1 hx2⟩

/-- What a law's draw of one list leaves: a list of at most nine numbers; nothing that was there has turned. -/
def Drawn (w : World) (e : Ending) (w' : World) : Prop := ∃ u ys, e = .returned u ∧ Own w' w.heap.size u ys ∧ ys.length ≤ 9 ∧ Below w.heap.size w w'

theorem below_reader {w w1 w2 : World} (h : Below w.heap.size w w1) (hg : w1.grownBy w2 (some w.heap.size)) : Below w.heap.size w w2 :=
  h.grown hg h.size (fun k hk => by have := Option.some.inj hk; omega)

end Go.Proofs.Ytpokoknapapdcaa

