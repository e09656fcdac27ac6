/- Texts of this claim put into one: Pure, Kit, Mirror, Ops, Map, Ctr, Fin, ValidI, Ord1I, Valid, Ord1S, App2, OwnL, FinInv, MirCy, Vt, MirT, Reg, OfT, Cir, MirC, FinSum, FinPairsC, Prs, Cnt, Tab, Desc, LawFn, MirR, Rank, FinAll, Fast. -/
import Derived.WalkKit
import Derived.ProofKit
import Derived.Handy
import Derived.Outline
import Derived.WalkLawsBesides
import Derived.WalkSpells
import Derived.Deep.QuietTactic
import Derived.BigQuiet
import Derived.ChangeKeysEq
import Derived.Laws.AppendOwnNone
import Derived.Test.YtjgaglfinpeeoacChecked
import Derived.MapKept
import Derived.Carry
import Derived.Laws.Alloc2
import Derived.Laws.Rows
import Derived.Laws.EntriesVeiled
import Derived.Laws.AppendOwn
import Derived.Deep.RegionLaw
import Derived.Deep.LoopGhost
/- The plain mathematics of orders: which lists of numbers are orders, and that there are finitely many of them, so that what is to be shown of all orders may be reckoned. No condition. -/
namespace Go.Proofs.Ytjgaglfinpeeoac

/-- The number at place k. -/
def el (xs : List Int) (k : Nat) : Int := xs.getD k 0

theorem el_lt {xs : List Int} {k : Nat} (h : k < xs.length) : el xs k = xs[k] := by simp [el, h]
theorem el_set_same {xs : List Int} {k : Nat} {v : Int} (h : k < xs.length) : el (xs.set k v) k = v := by simp [el, h]
theorem el_set_ne {xs : List Int} {j k : Nat} {v : Int} (h : k ≠ j) : el (xs.set k v) j = el xs j := by simp [el, List.getD, h]
theorem take_el {xs : List Int} {k : Nat} (h : k < xs.length) : xs.take (k + 1) = xs.take k ++ [el xs k] := by
  rw [List.take_succ_eq_append_getElem h, el_lt h]
theorem ext_el {xs ys : List Int} (h : xs.length = ys.length) (hj : ∀ j, j < xs.length → el xs j = el ys j) : xs = ys := by
  apply List.ext_getElem h
  intro j h1 h2
  have := hj j h1
  rwa [el_lt h1, el_lt h2] at this

/-- The numbers are an order: at most seven, each of 0, 1, .. once. -/
structure Valid (xs : List Int) : Prop where
  len : xs.length ≤ 7
  lo : ∀ j, j < xs.length → 0 ≤ el xs j
  hi : ∀ j, j < xs.length → el xs j < xs.length
  ne : ∀ i j, i < j → j < xs.length → el xs i ≠ el xs j

theorem valid_iff (xs : List Int) : Valid xs ↔ (xs.length ≤ 7 ∧ (∀ j, j < xs.length → 0 ≤ el xs j) ∧ (∀ j, j < xs.length → el xs j < xs.length) ∧ ∀ j, j < xs.length → ∀ i, i < j → el xs i ≠ el xs j) :=
  ⟨fun h => ⟨h.len, h.lo, h.hi, fun j hj i hij => h.ne i j hij hj⟩, fun h => ⟨h.1, h.2.1, h.2.2.1, fun i j hij hj => h.2.2.2 j hj i hij⟩⟩
instance (xs : List Int) : Decidable (Valid xs) := decidable_of_iff _ (valid_iff xs).symm

/-- Lists of equal length, place by place: what the walks learn, step by step. -/
theorem upto_step {P : Nat → Prop} {k : Nat} (h : ∀ j, j < k → P j) (hk : P k) : ∀ j, j < k + 1 → P j := fun j hj => by
  by_cases e : j = k
  · rw [e]; exact hk
  · exact h j (by omega)
theorem not_ne {a b : Int} (h : (a == b) = true) : a = b := by simpa using h
theorem is_ne {a b : Int} (h : (a == b) = false) : a ≠ b := by simpa using h
theorem nn_ne {a b : Int} (h : (a != b) = true) : a ≠ b := by simpa using h
theorem nn_eq {a b : Int} (h : (a != b) = false) : a = b := by simpa using h

def rng : Nat → List Int
  | 0 => []
  | n + 1 => rng n ++ [(n : Int)]

/-- All lists that take f of the numbers av, each once. -/
def perms : Nat → List Int → List (List Int)
  | 0, _ => [[]]
  | f + 1, av => av.flatMap fun x => (perms f (av.erase x)).map (x :: ·)

/-- All orders of n values. -/
def orders (n : Nat) : List (List Int) := perms n (rng n)

/-- All orders of at most seven values. -/
def allUpTo (m : Nat) : List (List Int) := (List.range (m + 1)).flatMap orders

theorem mem_rng (n : Nat) (x : Int) : x ∈ rng n ↔ 0 ≤ x ∧ x < n := by
  induction n with
  | zero => simp [rng]
  | succ n ih => simp [rng, ih]; omega

theorem mem_perms : ∀ (xs av : List Int), (∀ x ∈ xs, x ∈ av) → xs.Nodup → xs ∈ perms xs.length av := by
  intro xs
  induction xs with
  | nil => intro av _ _; simp [perms]
  | cons x xs ih =>
    intro av hsub hnd
    rw [List.length_cons]
    simp only [perms, List.mem_flatMap, List.mem_map]
    rw [List.nodup_cons] at hnd
    refine ⟨x, hsub x (by simp), xs, ih _ ?_ hnd.2, rfl⟩
    intro y hy
    have hyx : y ≠ x := fun e => hnd.1 (e ▸ hy)
    exact (List.mem_erase_of_ne hyx).2 (hsub y (by simp [hy]))

theorem Valid.nodup {xs : List Int} (h : Valid xs) : xs.Nodup := by
  rw [List.nodup_iff_pairwise_ne, List.pairwise_iff_getElem]
  intro i j hi hj hij
  have := h.ne i j hij hj
  rwa [el_lt hi, el_lt hj] at this

theorem Valid.mem {xs : List Int} (h : Valid xs) {x : Int} (hx : x ∈ xs) : 0 ≤ x ∧ x < xs.length := by
  obtain ⟨j, hj, rfl⟩ := List.mem_iff_getElem.1 hx
  have h1 := h.lo j hj
  have h2 := h.hi j hj
  rw [el_lt hj] at h1 h2
  exact ⟨h1, h2⟩

theorem Valid.in_orders {xs : List Int} (h : Valid xs) : xs ∈ orders xs.length :=
  mem_perms xs _ (fun _ hx => (mem_rng _ _).2 (h.mem hx)) h.nodup

theorem Valid.in_all {xs : List Int} (h : Valid xs) : xs ∈ allUpTo 7 := by
  unfold allUpTo
  rw [List.mem_flatMap]
  exact ⟨xs.length, by have := h.len; simp; omega, h.in_orders⟩

/-- What a reckoning shows of every order holds of every order. -/
theorem Valid.all {xs : List Int} (h : Valid xs) {p : List Int → Bool} (hp : (allUpTo 7).all p = true) : p xs = true :=
  List.all_eq_true.1 hp xs h.in_all

theorem Valid.all' {xs : List Int} (h : Valid xs) {m : Nat} (hm : xs.length ≤ m) {p : List Int → Bool} (hp : (allUpTo m).all p = true) : p xs = true := by
  refine List.all_eq_true.1 hp xs ?_
  unfold allUpTo
  rw [List.mem_flatMap]
  exact ⟨xs.length, by simp; omega, h.in_orders⟩

theorem count_take {xs : List Int} {k : Nat} (h : k < xs.length) (v : Int) : (xs.take (k + 1)).count v = (xs.take k).count v + if el xs k = v then 1 else 0 := by
  rw [take_el h, List.count_append, List.count_singleton]
  simp

theorem count_two {xs : List Int} {i j : Nat} (hij : i < j) (hj : j < xs.length) (h : el xs i = el xs j) : 2 ≤ xs.count (el xs j) := by
  have h1 : xs.count (el xs j) = (xs.take j).count (el xs j) + (xs.drop j).count (el xs j) := by rw [← List.count_append, List.take_append_drop]
  have h2 : 0 < (xs.take j).count (el xs j) := by
    rw [List.count_pos_iff, ← h, el_lt (by omega)]
    exact List.mem_take_iff_getElem.2 ⟨i, by omega, rfl⟩
  have h3 : 0 < (xs.drop j).count (el xs j) := by
    rw [List.count_pos_iff, el_lt hj]
    exact List.mem_drop_iff_getElem.2 ⟨0, by simpa using hj, rfl⟩
  omega

/-- State a after k steps. -/
def iter {α : Type} (f : α → Nat → α) (a : α) : Nat → α
  | 0 => a
  | k + 1 => f (iter f a k) k

theorem iter_len {f : List Int → Nat → List Int} (hf : ∀ a k, (f a k).length = a.length) (a : List Int) (k : Nat) : (iter f a k).length = a.length := by
  induction k with
  | zero => rfl
  | succ k ih => rw [iter, hf, ih]

theorem iter_app {g : Nat → Int} (n : Nat) : iter (fun a k => a ++ [g k]) [] n = (List.range n).map g := by
  induction n with
  | zero => rfl
  | succ n ih => rw [iter, ih, List.range_succ, List.map_append]; rfl

theorem map_range_len {g : Nat → Int} (n : Nat) : ((List.range n).map g).length = n := by simp
theorem el_map {g : Nat → Int} {n j : Nat} (h : j < n) : el ((List.range n).map g) j = g j := by simp [el, h]

theorem iter_set {g : Nat → Int} (n : Nat) : iter (fun a k => a.set k (g k)) (List.replicate n 0) n = (List.range n).map g := by
  have key : ∀ k, k ≤ n → (iter (fun a k => a.set k (g k)) (List.replicate n 0) k).length = n ∧ ∀ j, j < k → el (iter (fun a k => a.set k (g k)) (List.replicate n 0) k) j = g j := by
    intro k
    induction k with
    | zero => intro _; exact ⟨by simp [iter], fun j hj => by omega⟩
    | succ k ih =>
      intro hk
      obtain ⟨h1, h2⟩ := ih (by omega)
      refine ⟨by simp [iter, h1], fun j hj => ?_⟩
      rw [iter]
      by_cases e : j = k
      · rw [e, el_set_same (by rw [h1]; omega)]
      · rw [el_set_ne (by omega), h2 j (by omega)]
  refine ext_el (by rw [(key n (Nat.le_refl _)).1]; simp) (fun j hj => ?_)
  rw [(key n (Nat.le_refl _)).1] at hj
  rw [(key n (Nat.le_refl _)).2 j hj, el_map hj]

end Go.Proofs.Ytjgaglfinpeeoac

/- Words for what the walks say of memory: a slice of numbers that is read, a slice that a call has made, and how both fare in later worlds. No condition. -/
namespace Go.Proofs.Ytjgaglfinpeeoac
open Go.RowKit

/-- The slice value with address ao, length n and capacity cap reads as the numbers xs. -/
structure Sl (w : World) (ao : Option Addr) (n cap : Nat) (xs : List Int) : Prop where
  len : xs.length = n
  le : n ≤ cap
  max : cap ≤ maxLen
  row : 0 < n → ∃ b off, ao = some ⟨b, off, none⟩ ∧ b < w.heap.size ∧ ∀ j, j < n → w.cell? ⟨b, off + j, none⟩ = some (.int .i64 (el xs j))

/-- What a call has made: the slice value u owns the numbers ys, in a block from B on. -/
def Own (w : World) (B : Nat) (u : Value) (ys : List Int) : Prop := w.ownsRow B 3 1 u ys.length (ys.map (Value.int .i64))

/-- The same with its place known: block g, length n, capacity cap. -/
def OwS (w : World) (B g n cap : Nat) (ys : List Int) : Prop := w.ownsRow B 3 1 (.slice (some ⟨g, 0, none⟩) n cap) n (ys.map (Value.int .i64))

theorem OwS.len {w : World} {B g n cap : Nat} {ys : List Int} (h : OwS w B g n cap ys) : ys.length = n := by
  have := h.1
  simpa using this

theorem OwS.own {w : World} {B g n cap : Nat} {ys : List Int} (h : OwS w B g n cap ys) : Own w B (.slice (some ⟨g, 0, none⟩) n cap) ys := by
  have := h.len
  subst this
  exact h

theorem OwS.cell {w : World} {B g n cap : Nat} {ys : List Int} (h : OwS w B g n cap ys) {j : Nat} (hj : j < n) : w.cell? ⟨g, j, none⟩ = some (.int .i64 (el ys j)) := by
  have h1 := World.ownsRow.cellAt h j (by omega)
  rw [h1]
  have := h.len
  simp [el, show j < ys.length by omega]

theorem OwS.frozen {w : World} {B g n cap : Nat} {ys : List Int} (h : OwS w B g n cap ys) (j : Nat) : w.frozen? ⟨g, j, none⟩ = false := World.ownsRow.frozenAt h j

theorem OwS.set {w : World} {B g n cap : Nat} {ys : List Int} (h : OwS w B g n cap ys) (j : Nat) (v : Int) : OwS (w.setCell ⟨g, j, none⟩ (.int .i64 v)) B g n cap (ys.set j v) := by
  have := (World.ownsRow.stored h j (.int .i64 v)).1
  rwa [← List.map_set] at this

theorem OwS.lt {w : World} {B g n cap : Nat} {ys : List Int} (h : OwS w B g n cap ys) : B ≤ g ∧ g < w.heap.size := World.ownsRow.lt h g rfl

theorem OwS.sl {w : World} {B g n cap : Nat} {ys : List Int} (h : OwS w B g n cap ys) : Sl w (some ⟨g, 0, none⟩) n cap ys := by
  have h0 := h
  rcases h.2 with ⟨h1, _⟩ | ⟨g', cap', cur, hv, hB, hg, h1, h2, h3, h4⟩
  · simp at h1
  · simp only [Value.slice.injEq, Option.some.injEq, Addr.mk.injEq, and_true, true_and] at hv
    obtain ⟨rfl, rfl⟩ := hv
    exact ⟨h.len, h1, h2, fun _ => ⟨g, 0, rfl, h0.lt.2, fun j hj => by rw [Nat.zero_add]; exact h0.cell hj⟩⟩

theorem OwS.drewN {w : World} {B g n cap : Nat} {ys : List Int} (h : OwS w B g n cap ys) (m : Nat) : OwS (w.drewN m) B g n cap ys := h

/-- A store into another block. -/
theorem OwS.other {w : World} {B g n cap : Nat} {ys : List Int} (h : OwS w B g n cap ys) {a : Addr} (ha : a.block ≠ g) (v : Value) : OwS (w.setCell a v) B g n cap ys := by
  refine ⟨h.1, ?_⟩
  rcases h.2 with ⟨h1, _⟩ | ⟨g', cap', cur, hv, hB, hg, r⟩
  · simp at h1
  · have : g' = g := by simp at hv; omega
    subst this
    exact Or.inr ⟨g', cap', cur, hv, hB, by rw [Below.heap_setCell _ _ _ _ (by omega)]; exact hg, r⟩

theorem Sl.later {w w' : World} {ao : Option Addr} {n cap : Nat} {xs : List Int} (h : Sl w ao n cap xs) (hb : Below w.heap.size w w') : Sl w' ao n cap xs := by
  refine ⟨h.len, h.le, h.max, fun hn => ?_⟩
  obtain ⟨b, off, rfl, hlt, hc⟩ := h.row hn
  exact ⟨b, off, rfl, Nat.lt_of_lt_of_le hlt hb.size, fun j hj => (hb.cell hlt).trans (hc j hj)⟩

theorem Sl.below {B : Nat} {w w' : World} {ao : Option Addr} {n cap : Nat} {xs : List Int} (h : Sl w ao n cap xs) (hB : w.heap.size ≤ B) (hb : Below B w w') : Sl w' ao n cap xs := h.later (hb.mono hB)

theorem Sl.nil {w : World} : Sl w none 0 0 [] := ⟨rfl, Nat.le_refl _, Nat.zero_le _, fun h => by omega⟩

theorem Sl.big {w : World} {ao : Option Addr} {n cap : Nat} {xs : List Int} (h : Sl w ao n cap xs) : n ≤ 9223372036854775807 := by
  have := h.le
  have := h.max
  unfold maxLen at this
  omega

theorem Own.place {w : World} {B : Nat} {u : Value} {ys : List Int} (h : Own w B u ys) : (u = .slice none 0 0 ∧ ys = []) ∨ ∃ g cap, u = .slice (some ⟨g, 0, none⟩) ys.length cap ∧ OwS w B g ys.length cap ys := by
  have h0 := h
  rcases h.2 with ⟨rfl, h2⟩ | ⟨g, cap, cur, rfl, hB, hg, h1, h2, h3, h4⟩
  · exact Or.inl ⟨rfl, List.eq_nil_of_length_eq_zero h2⟩
  · exact Or.inr ⟨g, cap, rfl, h0⟩

theorem Own.sl {w : World} {B : Nat} {u : Value} {ys : List Int} (h : Own w B u ys) : ∃ ao cap, u = .slice ao ys.length cap ∧ Sl w ao ys.length cap ys := by
  rcases h.place with ⟨rfl, rfl⟩ | ⟨g, cap, rfl, h1⟩
  · exact ⟨none, 0, rfl, Sl.nil⟩
  · exact ⟨_, cap, rfl, h1.sl⟩

theorem Own.read {w : World} {B : Nat} {ao : Option Addr} {n cap : Nat} {ys : List Int} (h : Own w B (.slice ao n cap) ys) : Sl w ao n cap ys := by
  rcases h.place with ⟨e, rfl⟩ | ⟨g, cap', e, h1⟩
  · simp only [Value.slice.injEq] at e
    obtain ⟨rfl, rfl, rfl⟩ := e
    exact Sl.nil
  · simp only [Value.slice.injEq] at e
    obtain ⟨rfl, rfl, rfl⟩ := e
    exact h1.sl

theorem Own.nilcap {w : World} {B : Nat} {ao : Option Addr} {n cap : Nat} {ys : List Int} (h : Own w B (.slice ao n cap) ys) : ao = none → cap = 0 := by
  rintro rfl
  rcases h.place with ⟨e, rfl⟩ | ⟨g, cap', e, h1⟩
  · simp only [Value.slice.injEq] at e
    exact e.2.2
  · simp at e

theorem Own.below {B B' : Nat} {w w' : World} {u : Value} {ys : List Int} (h : Own w B u ys) (hB : w.heap.size ≤ B') (hb : Below B' w w') : Own w' B u ys := by
  refine ⟨h.1, ?_⟩
  rcases h.2 with h2 | ⟨g, cap, cur, hv, hg, hh, r⟩
  · exact Or.inl h2
  · exact Or.inr ⟨g, cap, cur, hv, hg, (hb.block g (Nat.lt_of_lt_of_le (Array.getElem?_eq_some_iff.1 hh).1 hB)).trans hh, r⟩

theorem Own.mono {B B' : Nat} {w : World} {u : Value} {ys : List Int} (h : Own w B u ys) (hB : B' ≤ B) : Own w B' u ys := by
  refine ⟨h.1, ?_⟩
  rcases h.2 with h2 | ⟨g, cap, cur, hv, hg, r⟩
  · exact Or.inl h2
  · exact Or.inr ⟨g, cap, cur, hv, Nat.le_trans hB hg, r⟩

theorem Own.drewN {w : World} {B : Nat} {u : Value} {ys : List Int} (h : Own w B u ys) (m : Nat) : Own (w.drewN m) B u ys := h

theorem Own.nil {w : World} {B : Nat} : Own w B (.slice none 0 0) [] := World.ownsRow_nil _ _ _ _

theorem drewN_below {B : Nat} {a w : World} (h : Below B a w) (m : Nat) : Below B a (w.drewN m) := ⟨h.os, h.tape, h.output, h.size, h.block⟩

theorem grown_trans {a b c : World} {row : Option Nat} (h : a.grownBy b row) (k : b.grownBy c row) : a.grownBy c row :=
  ⟨k.os.trans h.os, k.tape.trans h.tape, k.output.trans h.output, Nat.le_trans h.size k.size, fun i hi hr => (k.block i (Nat.lt_of_lt_of_le hi h.size) hr).trans (h.block i hi hr)⟩
theorem grown_set {w : World} {g j : Nat} {v : Value} : w.grownBy (w.setCell ⟨g, j, none⟩ v) (some g) :=
  ⟨rfl, rfl, rfl, by simp [World.setCell], fun k _ hk => Below.heap_setCell _ _ _ _ (fun e => hk (by rw [e]))⟩
theorem grown_drewN {a b : World} {row : Option Nat} (h : a.grownBy b row) (m : Nat) : a.grownBy (b.drewN m) row := ⟨h.os, h.tape, h.output, h.size, h.block⟩
theorem below_of_grown {w w' : World} {row : Option Nat} {B : Nat} (h : w.grownBy w' row) (hB : B ≤ w.heap.size) (hr : ∀ k, row = some k → B ≤ k) : Below B w w' :=
  (Below.refl B w).grown h hB hr
theorem Own.kept {w w' : World} {B : Nat} {u : Value} {ys : List Int} {row : Option Nat} (h : Own w B u ys) (hg : w.grownBy w' row) (hne : u.ownBlock = none ∨ u.ownBlock ≠ row) : Own w' B u ys := World.ownsRow.kept h hg hne
theorem Own.blocks {w : World} {B : Nat} {u : Value} {ys : List Int} (h : Own w B u ys) : ∀ k, u.ownBlock = some k → B ≤ k ∧ k < w.heap.size := World.ownsRow.lt h

/-- What two calls have made lies apart. -/
theorem Own.apart {w1 w2 : World} {B1 B2 : Nat} {u1 u2 : Value} {y1 y2 : List Int} (h1 : Own w1 B1 u1 y1) (h2 : Own w2 B2 u2 y2) (hB : w1.heap.size ≤ B2) : u1.ownBlock = none ∨ u1.ownBlock ≠ u2.ownBlock := by
  cases e : u1.ownBlock with
  | none => exact Or.inl rfl
  | some k =>
    refine Or.inr (fun e2 => ?_)
    have := (h1.blocks k e).2
    have := (h2.blocks k e2.symm).1
    omega
theorem Own.apart' {w1 w2 : World} {B1 B2 : Nat} {u1 u2 : Value} {y1 y2 : List Int} (h1 : Own w1 B1 u1 y1) (h2 : Own w2 B2 u2 y2) (hB : w2.heap.size ≤ B1) : u1.ownBlock = none ∨ u1.ownBlock ≠ u2.ownBlock := by
  cases e : u1.ownBlock with
  | none => exact Or.inl rfl
  | some k =>
    refine Or.inr (fun e2 => ?_)
    have := (h1.blocks k e).1
    have := (h2.blocks k e2.symm).2
    omega

/-- k, k + 1, .. : n numbers. -/
def marks (k : Int) (n : Nat) : List Int := (List.range n).map fun i => k + (i : Nat)
theorem marks_len (k : Int) (n : Nat) : (marks k n).length = n := by simp [marks]
theorem el_marks {k : Int} {n j : Nat} (h : j < n) : el (marks k n) j = k + j := by simp [marks, el, h]
theorem marks_ext {xs : List Int} {k : Int} {n : Nat} (h : xs.length = n) (hj : ∀ j, j < n → el xs j = k + j) : xs = marks k n :=
  ext_el (by rw [h, marks_len]) (fun j hl => by rw [hj j (by omega), el_marks (by omega)])

/-- A call made a slice of the numbers ys, and turned nothing that was there. -/
def Made (w : World) (ys : List Int) (e : Ending) (w' : World) : Prop := ∃ u, e = .returned u ∧ Own w' w.heap.size u ys ∧ Below w.heap.size w w'

/-- A call made a slice of the numbers ys, said b beside it, and turned nothing that was there. -/
def Made2 (w : World) (ys : List Int) (b : Bool) (e : Ending) (w' : World) : Prop := ∃ u, e = .returned (.tuple #[u, .bool b]) ∧ Own w' w.heap.size u ys ∧ Below w.heap.size w w'

/-- A call answered v, and turned nothing that was there. -/
def Says (w : World) (v : Value) (e : Ending) (w' : World) : Prop := e = .returned v ∧ Below w.heap.size w w'

theorem made2_yes {p : Prop} [Decidable p] {w w' : World} {ys : List Int} {u : Value} (h : p) (ho : Own w' w.heap.size u ys) (hb : Below w.heap.size w w') : Made2 w ys (decide p) (.returned (.tuple #[u, .bool true])) w' :=
  ⟨u, by rw [decide_eq_true h], ho, hb⟩
theorem made2_no {p : Prop} [Decidable p] {w w' : World} {ys : List Int} (h : ¬ p) (hy : ys = []) (hb : Below w.heap.size w w') : Made2 w ys (decide p) (.returned (.tuple #[.slice none 0 0, .bool false])) w' :=
  ⟨_, by rw [decide_eq_false h], by rw [hy]; exact Own.nil, hb⟩
theorem says_to {P : Program} {f : FuncId} {a : Array Value} {w : World} {v v' : Int} (h : Calls P f a w (Says w (.int .i64 v))) (e : v = v') : Calls P f a w (Says w (.int .i64 v')) := e ▸ h
theorem says_tob {P : Program} {f : FuncId} {a : Array Value} {w : World} {v v' : Bool} (h : Calls P f a w (Says w (.bool v))) (e : v = v') : Calls P f a w (Says w (.bool v')) := e ▸ h
theorem made_to {P : Program} {f : FuncId} {a : Array Value} {w : World} {v v' : List Int} (h : Calls P f a w (Made w v)) (e : v = v') : Calls P f a w (Made w v') := e ▸ h
theorem says_true {p : Prop} [Decidable p] {w w' : World} (h : p) (hb : Below w.heap.size w w') : Says w (.bool (decide p)) (.returned (.bool true)) w' := ⟨by rw [decide_eq_true h], hb⟩
theorem says_false {p : Prop} [Decidable p] {w w' : World} (h : ¬ p) (hb : Below w.heap.size w w') : Says w (.bool (decide p)) (.returned (.bool false)) w' := ⟨by rw [decide_eq_false h], hb⟩
theorem says_bool {w w' : World} {a b : Bool} (h : a = b) (hb : Below w.heap.size w w') : Says w (.bool b) (.returned (.bool a)) w' := ⟨by rw [h], hb⟩
theorem says_str {w w' : World} {a b : ByteArray} (h : a = b) (hb : Below w.heap.size w w') : Says w (.string b) (.returned (.string a)) w' := ⟨by rw [h], hb⟩
theorem says_int {w w' : World} {a b : Int} (h : a = b) (hb : Below w.heap.size w w') : Says w (.int .i64 b) (.returned (.int .i64 a)) w' := ⟨by rw [h], hb⟩
theorem hid {p : Prop} (h : p) : Hid p := h

theorem ret_eq {a b : Value} (h : a = b) : Ending.returned a = .returned b := by rw [h]

/-- The length of the slice in a slot: for a loop's measure. -/
def lenOf : Value → Nat | .slice _ n _ => n | _ => 0

/-- What was appended to is the call's own. -/
theorem below_app {w wr w' : World} {u : Value} {ys : List Int} (hb : Below w.heap.size w wr) (ho : Own wr w.heap.size u ys) (hg : wr.grownBy w' u.ownBlock) : Below w.heap.size w w' :=
  hb.grown hg hb.size (fun k hk => (ho.blocks k hk).1)

/-- Block g is an array that holds the numbers fs. -/
def Arr (w : World) (g T : Nat) (fs : List Int) : Prop := w.heap[g]? = some (.cells (fs.map (Value.int .i64)).toArray T (0, 0))

theorem Arr.lt {w : World} {g T : Nat} {fs : List Int} (h : Arr w g T fs) : g < w.heap.size := (Array.getElem?_eq_some_iff.1 h).1
theorem Arr.cell {w : World} {g T : Nat} {fs : List Int} (h : Arr w g T fs) {j : Nat} (hj : j < fs.length) : w.cell? ⟨g, j, none⟩ = some (.int .i64 (el fs j)) := by
  rw [cell_of_row w g j _ T (0, 0) h]
  simp [el, hj]
theorem Arr.frozen {w : World} {g T : Nat} {fs : List Int} (h : Arr w g T fs) (j : Nat) : w.frozen? ⟨g, j, none⟩ = false := frozen_of_row w g j _ T h
theorem Arr.set {w : World} {g T : Nat} {fs : List Int} (h : Arr w g T fs) (j : Nat) (v : Int) : Arr (w.setCell ⟨g, j, none⟩ (.int .i64 v)) g T (fs.set j v) := by
  have := heap_setCell_same w g j _ T (.int .i64 v) h
  rw [Arr, this]
  simp [List.map_set]
theorem Arr.other {w : World} {g T : Nat} {fs : List Int} (h : Arr w g T fs) {a : Addr} (ha : a.block ≠ g) (v : Value) : Arr (w.setCell a v) g T fs := by
  rw [Arr, Below.heap_setCell _ _ _ _ (by omega)]; exact h
theorem Arr.drewN {w : World} {g T : Nat} {fs : List Int} (h : Arr w g T fs) (m : Nat) : Arr (w.drewN m) g T fs := h
theorem Arr.below {B : Nat} {w w' : World} {g T : Nat} {fs : List Int} (h : Arr w g T fs) (hg : g < B) (hb : Below B w w') : Arr w' g T fs := (hb.block g hg).trans h
theorem Arr.alloc {w : World} {g T : Nat} {fs : List Int} (h : Arr w g T fs) (o : Obj) : Arr (w.alloc o) g T fs := (Below.heap_alloc w o g h.lt).trans h
theorem Arr.made (w : World) (T : Nat) (fs : List Int) : Arr (w.alloc (.cells (fs.map (Value.int .i64)).toArray T)) w.heap.size T fs := heap_alloc_new w _

section
variable {P : Program} (w : World)
theorem run_items (d e : Nat) (xs ys : List Int) (he : P.underlying e = some (.int .i64)) (is : List Nat) (hx : ∀ i ∈ is, i < xs.length) (hy : ∀ i ∈ is, i < ys.length) :
    (Op.eqItems (d + 1) e 1 (xs.map (Value.int .i64)).toArray (ys.map (Value.int .i64)).toArray is).run P w = .ok (is.all fun i => el xs i == el ys i) w := by
  induction is with
  | nil => simp [Op.eqItems]
  | cons i is ih =>
    have hxi := hx i (by simp)
    have hyi := hy i (by simp)
    have px : (part e (xs.map (Value.int .i64)).toArray (i * 1)).run P w = .ok (.int .i64 (el xs i)) w := by
      simp [part, isAgg, run_underlying he, el, hxi]
    have py : (part e (ys.map (Value.int .i64)).toArray (i * 1)).run P w = .ok (.int .i64 (el ys i)) w := by
      simp [part, isAgg, run_underlying he, el, hyi]
    have pe := run_equalIn_int (P := P) w d e .i64 .i64 (el xs i) (el ys i) he
    simp only [Op.eqItems, Sem.run_bind, px, py, pe, Result.andThen_ok, List.all_cons]
    cases hb : (el xs i == el ys i)
    · simp
    · simp only [Bool.not_true, Bool.false_eq_true, if_false, Bool.true_and]
      exact ih (fun j hj => hx j (by simp [hj])) (fun j hj => hy j (by simp [hj]))

theorem run_eql_arr (t e n : Nat) {i : TypeInfo} (xs ys : List Int) (hu : P.underlying t = some (.array n e)) (hi : P.info? e = some i) (hc : P.cellsOf e = 1) (he : P.underlying e = some (.int .i64)) (hx : xs.length = n) (hy : ys.length = n) :
    (binOp .eql t (.agg (xs.map (Value.int .i64)).toArray) (.agg (ys.map (Value.int .i64)).toArray)).run P w = .ok (.bool (decide (xs = ys))) w := by
  rw [run_eql_struct, run_equalIn_array w 9999 _ _ hu hi, hc, run_items w 9998 e xs ys he _ (fun i hi => by have := List.mem_range.1 hi; omega) (fun i hi => by have := List.mem_range.1 hi; omega)]
  simp only [Result.andThen_ok]
  congr 2
  rw [Bool.eq_iff_iff, List.all_eq_true, decide_eq_true_iff]
  constructor
  · intro h
    exact ext_el (by omega) (fun j hj => by have := h j (by simp; omega); simpa using this)
  · intro h i _
    simp [h]
end

end Go.Proofs.Ytjgaglfinpeeoac

/- The lists and numbers that the functions give, as plain functions of lists. No condition. -/
namespace Go.Proofs.Ytjgaglfinpeeoac

/-- What a function of orders gives: a list for an order, nil for other numbers. -/
def onV (xs ys : List Int) : List Int := if Valid xs then ys else []
theorem onV_yes {xs ys : List Int} (h : Valid xs) : onV xs ys = ys := if_pos h
theorem onV_no {xs ys : List Int} (h : ¬ Valid xs) : onV xs ys = [] := if_neg h

/-! The lists that the functions make. -/
def rise (n : Nat) : List Int := (List.range n).map fun (k : Nat) => (k : Int)
theorem map_range_succ (g : Nat → Int) (k : Nat) : (List.range (k + 1)).map g = (List.range k).map g ++ [g k] := by simp [List.range_succ]
theorem rise_len (n : Nat) : (rise n).length = n := by simp [rise]
theorem rise_succ (n : Nat) : rise (n + 1) = rise n ++ [(n : Int)] := by simp [rise, List.range_succ]
def inv (xs : List Int) : List Int := iter (fun (a : List Int) k => a.set (el xs k).toNat (k : Int)) (List.replicate xs.length 0) xs.length
def turn (xs : List Int) : List Int := (List.range xs.length).map fun k => el xs (xs.length - 1 - k)
def turnI (xs : List Int) : List Int := iter (fun a k => a.set (xs.length - 1 - k) (el xs k)) (List.replicate xs.length 0) xs.length
def opp (xs : List Int) : List Int := (List.range xs.length).map fun k => (xs.length : Int) - 1 - el xs k

theorem inv_len (xs : List Int) (k : Nat) : (iter (fun (a : List Int) k => a.set (el xs k).toNat (k : Int)) (List.replicate xs.length 0) k).length = xs.length :=
  (iter_len (fun _ _ => List.length_set) _ k).trans List.length_replicate
theorem turnI_len (xs : List Int) (k : Nat) : (iter (fun a k => a.set (xs.length - 1 - k) (el xs k)) (List.replicate xs.length 0) k).length = xs.length :=
  (iter_len (fun _ _ => List.length_set) _ k).trans List.length_replicate

theorem turnI_eq (xs : List Int) : turnI xs = turn xs := by
  have key : ∀ k, k ≤ xs.length → ∀ j, j < xs.length → xs.length - 1 - j < k → el (iter (fun a k => a.set (xs.length - 1 - k) (el xs k)) (List.replicate xs.length 0) k) j = el xs (xs.length - 1 - j) := by
    intro k
    induction k with
    | zero => intro _ j _ hj; omega
    | succ k ih =>
      intro hk j hj hjk
      rw [iter]
      by_cases e : xs.length - 1 - k = j
      · subst e
        rw [el_set_same (by rw [turnI_len]; exact hj)]
        congr 1; omega
      · rw [el_set_ne e, ih (by omega) j hj (by omega)]
  refine ext_el (by rw [turnI, turnI_len, turn, map_range_len]) (fun j hj => ?_)
  rw [turnI, turnI_len] at hj
  rw [turnI, key _ (Nat.le_refl _) j hj (by omega), turn, el_map hj]

/-- How many of the first k numbers have the property. -/
def cntP (p : Nat → Bool) : Nat → Int
  | 0 => 0
  | k + 1 => if p k then cntP p k + 1 else cntP p k
theorem cntP_bd (p : Nat → Bool) (k : Nat) : 0 ≤ cntP p k ∧ cntP p k ≤ k := by
  induction k with
  | zero => exact ⟨Int.le_refl _, Int.le_refl _⟩
  | succ k ih => rw [cntP]; split <;> omega
theorem cntP_yes {p : Nat → Bool} {k : Nat} (h : p k = true) : cntP p (k + 1) = cntP p k + 1 := by rw [cntP, if_pos h]
theorem cntP_no {p : Nat → Bool} {k : Nat} (h : p k = false) : cntP p (k + 1) = cntP p k := by rw [cntP, h]; simp

/-- How many lesser numbers stand behind place i, among the first t behind it. -/
def lbP (xs : List Int) (i t : Nat) : Int := cntP (fun j => decide (el xs (i + 1 + j) < el xs i)) t
def lb (xs : List Int) (i : Nat) : Int := lbP xs i (xs.length - 1 - i)
theorem lbP_bd (xs : List Int) (i t : Nat) : 0 ≤ lbP xs i t ∧ lbP xs i t ≤ t := cntP_bd _ _
theorem lbP_zero (xs : List Int) (i : Nat) : lbP xs i 0 = 0 := rfl
theorem lbP_yes {xs : List Int} {i t : Nat} (h : el xs (i + 1 + t) < el xs i) : lbP xs i (t + 1) = lbP xs i t + 1 := cntP_yes (by simpa using h)
theorem lbP_no {xs : List Int} {i t : Nat} (h : el xs i ≤ el xs (i + 1 + t)) : lbP xs i (t + 1) = lbP xs i t := cntP_no (by simpa using h)
def table (xs : List Int) : List Int := (List.range xs.length).map (lb xs)
theorem table_len (xs : List Int) : (table xs).length = xs.length := map_range_len _
theorem el_table {xs : List Int} {j : Nat} (h : j < xs.length) : el (table xs) j = lb xs j := el_map h
theorem lb_bd (xs : List Int) (i : Nat) : 0 ≤ lb xs i ∧ lb xs i ≤ xs.length := by
  have := lbP_bd xs i (xs.length - 1 - i)
  unfold lb
  omega
theorem table_bd (xs : List Int) : ∀ j, j < (table xs).length → 0 ≤ el (table xs) j ∧ el (table xs) j ≤ xs.length := fun j hj => by
  rw [table_len] at hj
  rw [el_table hj]
  exact lb_bd xs j

/-- The sum of the first k numbers. -/
def sumTo (xs : List Int) : Nat → Int
  | 0 => 0
  | k + 1 => sumTo xs k + el xs k
def sumL (xs : List Int) : Int := sumTo xs xs.length
theorem sumTo_bd {xs : List Int} {M : Nat} (h : ∀ j, j < xs.length → 0 ≤ el xs j ∧ el xs j ≤ M) : ∀ k, k ≤ xs.length → 0 ≤ sumTo xs k ∧ sumTo xs k ≤ k * M := by
  intro k
  induction k with
  | zero => intro _; simp [sumTo]
  | succ k ih =>
    intro hk
    have h1 := ih (by omega)
    have h2 := h k (by omega)
    rw [sumTo]
    have e : ((k + 1 : Nat) : Int) * M = k * M + M := by rw [Int.natCast_add, Int.add_mul]; simp
    omega
/-- What a function of orders answers: a number for an order, another one for other numbers. -/
def onVi (xs : List Int) (v d : Int) : Int := if Valid xs then v else d
theorem onVi_yes {xs : List Int} {v d : Int} (h : Valid xs) : onVi xs v d = v := if_pos h
theorem onVi_no {xs : List Int} {v d : Int} (h : ¬ Valid xs) : onVi xs v d = d := if_neg h

/-- The places among the first k behind which a lesser number stands. -/
def dsP (xs : List Int) : Nat → List Int
  | 0 => []
  | k + 1 => if el xs (k + 1) < el xs k then dsP xs k ++ [(k : Int)] else dsP xs k
def desc (xs : List Int) : List Int := dsP xs (xs.length - 1)
theorem dsP_yes {xs : List Int} {k : Nat} (h : el xs (k + 1) < el xs k) : dsP xs (k + 1) = dsP xs k ++ [(k : Int)] := by rw [dsP, if_pos h]
theorem dsP_no {xs : List Int} {k : Nat} (h : el xs k ≤ el xs (k + 1)) : dsP xs (k + 1) = dsP xs k := by rw [dsP, if_neg (by omega)]
theorem dsP_len (xs : List Int) (k : Nat) : (dsP xs k).length ≤ k := by
  induction k with
  | zero => simp [dsP]
  | succ k ih =>
    rw [dsP]
    split
    · rw [List.length_append, List.length_singleton]; omega
    · omega
theorem dsP_mem (xs : List Int) (k : Nat) : ∀ x ∈ dsP xs k, 0 ≤ x ∧ x < k := by
  induction k with
  | zero => intro x hx; simp [dsP] at hx
  | succ k ih =>
    intro x hx
    rw [dsP] at hx
    split at hx
    · rw [List.mem_append, List.mem_singleton] at hx
      rcases hx with hx | hx
      · have := ih x hx; omega
      · omega
    · have := ih x hx; omega
theorem el_mem {xs : List Int} {j : Nat} (h : j < xs.length) : el xs j ∈ xs := by rw [el_lt h]; exact List.getElem_mem h
theorem desc_len (xs : List Int) : (desc xs).length ≤ xs.length - 1 := dsP_len _ _
theorem desc_small {xs : List Int} (h : xs.length ≤ 1000) : ∀ j, j < (desc xs).length → 0 ≤ el (desc xs) j ∧ el (desc xs) j ≤ (1000 : Nat) := fun j hj => by
  have : 0 ≤ el (desc xs) j ∧ el (desc xs) j < (xs.length - 1 : Nat) := dsP_mem xs _ _ (el_mem hj)
  omega
def major (xs : List Int) : Int := sumL (desc xs) + (desc xs).length
theorem sumL_bd {xs : List Int} {M L : Nat} (h : ∀ j, j < xs.length → 0 ≤ el xs j ∧ el xs j ≤ M) (hl : xs.length ≤ L) : 0 ≤ sumL xs ∧ sumL xs ≤ L * M := by
  have h1 := sumTo_bd h xs.length (Nat.le_refl _)
  refine ⟨h1.1, Int.le_trans h1.2 (Int.mul_le_mul_of_nonneg_right (by omega) (by omega))⟩
def sgn (xs : List Int) : Int := 1 - 2 * (sumL (table xs) % 2)

/-- One list moved up by a, and another one moved up by b behind it. -/
def up (xs : List Int) (a : Int) : List Int := (List.range xs.length).map fun j => el xs j + a
def join (xs : List Int) (a : Int) (ys : List Int) (b : Int) : List Int := up xs a ++ up ys b
theorem up_len (xs : List Int) (a : Int) : (up xs a).length = xs.length := map_range_len _
theorem up_zero (xs : List Int) : up xs 0 = xs := ext_el (up_len xs 0) (fun j hj => by rw [up_len] at hj; rw [up, el_map hj]; omega)
theorem up_app (xs : List Int) (g : Nat → Int) (k : Nat) : xs ++ (List.range (k + 1)).map g = (xs ++ (List.range k).map g) ++ [g k] := by rw [map_range_succ, List.append_assoc]
/-- Two orders that may be put behind each other. -/
def Two (xs ys : List Int) : Prop := Valid xs ∧ Valid ys ∧ xs.length + ys.length ≤ 7
instance (xs ys : List Int) : Decidable (Two xs ys) := inferInstanceAs (Decidable (_ ∧ _ ∧ _))
def onT (xs ys zs : List Int) : List Int := if Two xs ys then zs else []
theorem onT_yes {xs ys zs : List Int} (h : Two xs ys) : onT xs ys zs = zs := if_pos h
theorem onT_no {xs ys zs : List Int} (h : ¬ Two xs ys) : onT xs ys zs = [] := if_neg h

/-- Two orders of one length. -/
def Mat (xs ys : List Int) : Prop := Valid xs ∧ Valid ys ∧ xs.length = ys.length
instance (xs ys : List Int) : Decidable (Mat xs ys) := inferInstanceAs (Decidable (_ ∧ _ ∧ _))
def onM (xs ys zs : List Int) : List Int := if Mat xs ys then zs else []
theorem onM_yes {xs ys zs : List Int} (h : Mat xs ys) : onM xs ys zs = zs := if_pos h
theorem onM_no {xs ys zs : List Int} (h : ¬ Mat xs ys) : onM xs ys zs = [] := if_neg h
def comp (xs ys : List Int) : List Int := (List.range ys.length).map fun k => el xs (el ys k).toNat

/-- The numbers are the table of an order. -/
structure VT (ts : List Int) : Prop where
  len : ts.length ≤ 7
  lo : ∀ j, j < ts.length → 0 ≤ el ts j
  hi : ∀ j, j < ts.length → el ts j ≤ (ts.length : Int) - 1 - j
theorem vt_iff (ts : List Int) : VT ts ↔ (ts.length ≤ 7 ∧ (∀ j, j < ts.length → 0 ≤ el ts j) ∧ ∀ j, j < ts.length → el ts j ≤ (ts.length : Int) - 1 - j) :=
  ⟨fun h => ⟨h.len, h.lo, h.hi⟩, fun h => ⟨h.1, h.2.1, h.2.2⟩⟩
instance (ts : List Int) : Decidable (VT ts) := decidable_of_iff _ (vt_iff ts).symm

end Go.Proofs.Ytjgaglfinpeeoac

/- The walk's laws for the lists of numbers that the functions make: make, append of one number, and lists that a step builds. No condition. -/
namespace Go.Proofs.Ytjgaglfinpeeoac
open Go.RowKit

theorem infoI : (Try.prog.info? 3).map (fun i => (i.zero, i.size, i.bytes)) = some (some (.int .i64 0), 1, 8) := by kernel_rfl

/-- make([]int, n). -/
theorem make_ints (w : World) {ops : Array Oper} {rest : List Oper} {o : Oper} {a : Act} {Q : Exit → Act → World → Prop}
    (hg : o.guard = none) (l c : Operand) (hop : o.op = Op.makeSlice 28 l c) (L C : Int) (n : Nat) (hl : a.eval l = .int .i64 L) (hc : a.eval c = .int .i64 C) (hL : L = (n : Int)) (hC : C = (n : Int)) (hn : n ≤ 2000000)
    (hK : ∀ w', OwS w' w.heap.size w.heap.size n n (List.replicate n 0) → Below w.heap.size w w' → wpList Try.prog ops Q rest (a.put o.dst (.slice (some ⟨w.heap.size, 0, none⟩) n n)) w') :
    wpList Try.prog ops Q (o :: rest) a w := by
  obtain ⟨i0, hi, hz0, hz1, hz2⟩ := info_parts infoI
  refine wpList_make_full w hg l c 28 hop w.heap.size 3 i0 (.int .i64 0) 1 Try.underlying28 hi hz0 hz1 _ _ _ _ n hl hc hL hC (by rw [hz2]; omega) (by unfold maxLen; omega) (Nat.le_refl _) ?_
  intro w' hown hgrow
  refine hK w' ?_ ((Below.refl _ _).grown hgrow (Nat.le_refl _) (fun k hk => by simp at hk))
  unfold OwS
  have e : (madeCells (Value.cells (.int .i64 0)) (n * 1)).toList = (List.replicate n (0 : Int)).map (Value.int .i64) := by
    rw [Nat.mul_one, show Value.cells (.int .i64 0) = #[Value.int .i64 0] from rfl, toList_madeCells_one, List.map_replicate]
  rw [← e]; exact hown

/-- append(out, v), out the call's own. -/
theorem app_int (w : World) (v : Int) {ops : Array Oper} {rest : List Oper} {o : Oper} {a : Act} {Q : Exit → Act → World → Prop}
    (hg : o.guard = none) (s x : Operand) (hop : o.op = Op.call { callee := Callee.builtin Builtin.append, args := #[s, x], argTypes := #[28, 28] })
    (B : Nat) (u : Value) (ys : List Int) (hs : a.eval s = u) (hown : Own w B u ys) (hx : a.eval x = .slice (some ⟨w.heap.size, 0, none⟩) 1 1) (hlen : ys.length ≤ 2000000) (hB : B ≤ w.heap.size)
    (hK : ∀ u' w', Own w' B u' (ys ++ [v]) → w.grownBy w' u.ownBlock → wpList Try.prog ops Q rest (a.put o.dst u') w') :
    wpList Try.prog ops Q (o :: rest) a (w.alloc (.cells #[.int .i64 v] 3)) := by
  obtain ⟨i0, hi, hz0, hz1, hz2⟩ := info_parts infoI
  refine wpList_append_own _ hg s x 28 hop B 3 i0 (.int .i64 0) 1 8 Try.underlying28 hi hz0 hz1 hz2 rfl (by decide) u ys.length _ hs (World.ownsRow.alloc hown _) ⟨w.heap.size, 0, none⟩ 1 1 [.int .i64 v] hx rfl ?_ ?_ ?_ ?_ ?_ ?_
  · intro j t hj
    match j, hj with
    | 0, hj => simp at hj; subst hj; simp [Addr.add]
  · intro t ht; simp at ht; subst ht; rfl
  · unfold maxLen; omega
  · omega
  · simp; omega
  · intro v' w' hown' hgrow _
    refine hK v' w' ?_ (grown_trans (World.grownBy_alloc w _ _) hgrow)
    unfold Own
    rw [List.length_append, List.map_append]
    exact hown'

/-- append(out, p...), out the call's own, p whatever list of numbers. -/
theorem app_list (w : World) {ops : Array Oper} {rest : List Oper} {o : Oper} {a : Act} {Q : Exit → Act → World → Prop}
    (hg : o.guard = none) (s x : Operand) (hop : o.op = Op.call { callee := Callee.builtin Builtin.append, args := #[s, x], argTypes := #[28, 28] })
    (B : Nat) (u : Value) (ys : List Int) (hs : a.eval s = u) (hown : Own w B u ys) (ao : Option Addr) (n cap : Nat) (xs : List Int) (hx : a.eval x = .slice ao n cap) (hsl : Sl w ao n cap xs) (hnil : ao = none → cap = 0)
    (hlen : ys.length + n ≤ 2000000) (hB : B ≤ w.heap.size)
    (hK : ∀ u' w', Own w' B u' (ys ++ xs) → w.grownBy w' u.ownBlock → wpList Try.prog ops Q rest (a.put o.dst u') w') :
    wpList Try.prog ops Q (o :: rest) a w := by
  obtain ⟨i0, hi, hz0, hz1, hz2⟩ := info_parts infoI
  have hl := hsl.len
  cases ao with
  | none =>
    have hn : n = 0 := by
      rcases Nat.eq_zero_or_pos n with h | h
      · exact h
      · obtain ⟨b, off, hb, _⟩ := hsl.row h
        cases hb
    subst hn
    have hc := hnil rfl
    subst hc
    have hxs : xs = [] := List.eq_nil_of_length_eq_zero hl
    subst hxs
    refine wpList_append_own_none hg s x 28 hop B 3 i0 1 Try.underlying28 hi u ys.length _ hs hown hx ?_
    refine hK u w ?_ (World.grownBy.refl _ _)
    rw [List.append_nil]; exact hown
  | some ad =>
    refine wpList_append_own _ hg s x 28 hop B 3 i0 (.int .i64 0) 1 8 Try.underlying28 hi hz0 hz1 hz2 rfl (by decide) u ys.length _ hs hown ad n cap (xs.map (Value.int .i64)) hx (by simp [hl]) ?_ (ints_oneCell _ _) ?_ ?_ ?_ ?_
    · intro j t hj
      have hjn : j < n := by
        have := (List.getElem?_eq_some_iff.1 hj).1
        rw [List.length_map, hl] at this; exact this
      obtain ⟨b, off, hb, _, hc⟩ := hsl.row (by omega)
      obtain rfl := Option.some.inj hb
      rw [Addr.add_lit, hc j hjn]
      rw [List.getElem?_map, List.getElem?_eq_getElem (by omega)] at hj
      rw [el_lt (by omega)]
      exact hj
    · unfold maxLen; omega
    · omega
    · exact hB
    · intro v' w' hown' hgrow _
      refine hK v' w' ?_ hgrow
      unfold Own
      rw [List.length_append, List.map_append, hl]
      exact hown'

/-- make([]int, 0, n). -/
theorem make_cap (w : World) {ops : Array Oper} {rest : List Oper} {o : Oper} {a : Act} {Q : Exit → Act → World → Prop}
    (hg : o.guard = none) (l c : Operand) (hop : o.op = Op.makeSlice 28 l c) (C : Int) (n : Nat) (hl : a.eval l = .int .i64 0) (hc : a.eval c = .int .i64 C) (hC : C = (n : Int)) (hn : n ≤ 2000000)
    (hK : ∀ w', Own w' w.heap.size (.slice (some ⟨w.heap.size, 0, none⟩) 0 n) [] → Below w.heap.size w w' → wpList Try.prog ops Q rest (a.put o.dst (.slice (some ⟨w.heap.size, 0, none⟩) 0 n)) w') :
    wpList Try.prog ops Q (o :: rest) a w := by
  obtain ⟨i0, hi, hz0, hz1, hz2⟩ := info_parts infoI
  refine wpList_make_own w hg l c 28 hop w.heap.size 3 i0 (.int .i64 0) 1 Try.underlying28 hi hz0 hz1 _ _ _ n hl hc hC (by rw [hz2]; omega) (by unfold maxLen; omega) (Nat.le_refl _) ?_
  intro w' hown hgrow
  exact hK w' hown ((Below.refl _ _).grown hgrow (Nat.le_refl _) (fun k hk => by simp at hk))

end Go.Proofs.Ytjgaglfinpeeoac

/- Maps from texts that a call has made: what they hold, an entry put in, and a look-up. No condition. -/
namespace Go.Proofs.Ytjgaglfinpeeoac
open Go.RowKit

/-- Block b is a map that holds the entries L, in the order in which they came. -/
def MapAt (w : World) (b : Nat) (L : List (ByteArray × Value)) : Prop :=
  ∃ es clk, w.heap[b]? = some (.map es clk) ∧ es.toList.map (fun e : MapEntry => (e.key, e.val)) = L.map (fun p => (Value.string p.1, p.2))
theorem MapAt.lt {w : World} {b : Nat} {L : List (ByteArray × Value)} (h : MapAt w b L) : b < w.heap.size := by
  obtain ⟨es, clk, h1, _⟩ := h
  exact (Array.getElem?_eq_some_iff.1 h1).1
theorem MapAt.kept {w w' : World} {b : Nat} {L : List (ByteArray × Value)} (h : MapAt w b L) (hb : Below w.heap.size w w') : MapAt w' b L := by
  have hlt := h.lt
  obtain ⟨es, clk, h1, h2⟩ := h
  exact ⟨es, clk, (hb.block b hlt).trans h1, h2⟩
theorem MapAt.made (w : World) : MapAt (w.alloc (.map #[] 0)) w.heap.size [] := ⟨#[], 0, heap_alloc_new w _, rfl⟩

theorem find_no (s : ByteArray) : ∀ (es : List MapEntry) (L : List (ByteArray × Value)) (i : Nat), es.map (fun e : MapEntry => (e.key, e.val)) = L.map (fun p => (Value.string p.1, p.2)) → (∀ p ∈ L, p.1 ≠ s) → Instr.findNow .string (.string s) es i = some none := by
  intro es
  induction es with
  | nil => intro L i _ _; rfl
  | cons e es ih =>
    intro L i h hn
    cases L with
    | nil => simp at h
    | cons p L =>
      simp only [List.map_cons, List.cons.injEq, Prod.mk.injEq] at h
      have hne : (s == p.1) = false := by
        rw [Bool.eq_false_iff]
        exact fun e => hn p (by simp) ((MapKept.bytes_beq _ _).1 e).symm
      have h3 : Instr.sameNow .string (.string s) e.key = some false := by rw [h.1.1]; show some (s == p.1) = some false; rw [hne]
      rw [Instr.findNow, h3]
      exact ih L (i + 1) h.2 (fun q hq => hn q (by simp [hq]))
theorem find_yes (s : ByteArray) (v : Value) : ∀ (es : List MapEntry) (A B : List (ByteArray × Value)) (i : Nat), es.map (fun e : MapEntry => (e.key, e.val)) = (A ++ (s, v) :: B).map (fun p => (Value.string p.1, p.2)) → (∀ p ∈ A, p.1 ≠ s) → ∃ j, Instr.findNow .string (.string s) es i = some (some (j, v)) := by
  intro es
  induction es with
  | nil => intro A B i h _; simp at h
  | cons e es ih =>
    intro A B i h hn
    cases A with
    | nil =>
      simp only [List.nil_append, List.map_cons, List.cons.injEq, Prod.mk.injEq] at h
      have h3 : Instr.sameNow .string (.string s) e.key = some true := by rw [h.1.1]; show some (s == s) = some true; rw [(MapKept.bytes_beq s s).2 rfl]
      rw [Instr.findNow, h3]
      exact ⟨i, by rw [h.1.2]⟩
    | cons p A =>
      simp only [List.cons_append, List.map_cons, List.cons.injEq, Prod.mk.injEq] at h
      have hne : (s == p.1) = false := by
        rw [Bool.eq_false_iff]
        exact fun e => hn p (by simp) ((MapKept.bytes_beq _ _).1 e).symm
      have h3 : Instr.sameNow .string (.string s) e.key = some false := by rw [h.1.1]; show some (s == p.1) = some false; rw [hne]
      rw [Instr.findNow, h3]
      exact ih A B (i + 1) h.2 (fun q hq => hn q (by simp [hq]))

section
variable {P : Program} {w : World} {b : Nat} {L : List (ByteArray × Value)} {mt kt et : TypeId}
theorem run_put (hm : P.underlying mt = some (.map kt et)) (hk : P.underlying kt = some .string) (h : MapAt w b L) (s : ByteArray) (v : Value) (hn : ∀ p ∈ L, p.1 ≠ s) :
    ∃ w', (Instr.mapUpdate mt (.map (some b)) (.string s) v).run P w = .ok () w' ∧ MapAt w' b (L ++ [(s, v)]) ∧ w.grownBy w' (some b) := by
  obtain ⟨es, clk, h1, h2⟩ := h
  have hf := find_no s es.toList L 0 h2 hn
  have hc : (Instr.checkKey false 10000 kt (.string s)).run P w = .ok () w := MapKept.run_checkKey (k := .string s) hk (by simp [MapKept.IsKey]) false 9999
  refine ⟨{ w with heap := w.heap.setIfInBounds b (.map (es.push { key := .string s, val := v, born := clk }) (clk + 1)) }, ?_, ?_, ?_⟩
  · simp [Instr.mapUpdate, run_underlying hm, MapKept.run_getObj_map h1, hc, MapKept.run_findKey hk hf, MapKept.run_setObj_map _ h1, Result.andThen]
  · exact ⟨_, _, (MapKept.heap_set h1).1, by simp [h2]⟩
  · exact ⟨rfl, rfl, rfl, by simp, fun k _ hk => (MapKept.heap_set h1).2 k (fun e => hk (by rw [e]))⟩
theorem run_see (hm : P.underlying mt = some (.map kt et)) (hk : P.underlying kt = some .string) (A B : List (ByteArray × Value)) (s : ByteArray) (v : Value) (h : MapAt w b (A ++ (s, v) :: B)) (hn : ∀ p ∈ A, p.1 ≠ s) :
    (Instr.lookup mt (.map (some b)) (.string s) true).run P w = .ok (.tuple #[v, .bool true]) w := by
  obtain ⟨es, clk, h1, h2⟩ := h
  obtain ⟨j, hf⟩ := find_yes s v es.toList A B 0 h2 hn
  have hc := fun e => MapKept.run_checkKey (P := P) (w := w) (k := .string s) hk (by simp [MapKept.IsKey]) e 9999
  simp [Instr.lookup, run_underlying hm, MapKept.run_getObj_map h1, hc, MapKept.run_findKey hk hf, Result.andThen]
theorem run_unseen (hm : P.underlying mt = some (.map kt et)) (hk : P.underlying kt = some .string) (z : Value) (hz : (zeroValue et).run P w = .ok z w) (s : ByteArray) (h : MapAt w b L) (hn : ∀ p ∈ L, p.1 ≠ s) :
    (Instr.lookup mt (.map (some b)) (.string s) true).run P w = .ok (.tuple #[z, .bool false]) w := by
  obtain ⟨es, clk, h1, h2⟩ := h
  have hf := find_no s es.toList L 0 h2 hn
  have hc := fun e => MapKept.run_checkKey (P := P) (w := w) (k := .string s) hk (by simp [MapKept.IsKey]) e 9999
  simp [Instr.lookup, run_underlying hm, MapKept.run_getObj_map h1, hc, MapKept.run_findKey hk hf, Result.andThen, hz]
end

/-- m[s] = v, in a map's literal, s a new key. -/
theorem put_law {P : Program} (w : World) {ops : Array Oper} {rest : List Oper} {o : Oper} {a : Act} {Q : Exit → Act → World → Prop} (hg : o.guard = none) (m k x : Operand) (mt kt et : TypeId) (hop : o.op = Op.insert mt m k x)
    (hm : P.underlying mt = some (.map kt et)) (hk : P.underlying kt = some .string) (b : Nat) (L : List (ByteArray × Value)) (h : MapAt w b L) (s : ByteArray) (v : Value) (e1 : a.eval m = .map (some b)) (e2 : a.eval k = .string s) (e3 : a.eval x = v) (hn : ∀ p ∈ L, p.1 ≠ s)
    (hK : ∀ w', MapAt w' b (L ++ [(s, v)]) → w.grownBy w' (some b) → wpList P ops Q rest (a.put o.dst undef) w') : wpList P ops Q (o :: rest) a w := by
  obtain ⟨w', hr, h2, h3⟩ := run_put (P := P) hm hk h s v hn
  refine wpList_plain hg fun K hK' => ?_
  unfold Oper.wp
  simp [execOp, hop, e1, e2, e3, hr, Result.andThen]
  exact hK' _ _ (hK w' h2 h3)

end Go.Proofs.Ytjgaglfinpeeoac

/- Counters by their names: what is counted. No condition. -/
namespace Go.Proofs.Ytjgaglfinpeeoac
open Go.RowKit

/-- A cell of its own that holds a function. -/
def BoxAt (w : World) (b : Nat) (g : FuncId) (t : TypeId) : Prop := w.heap[b]? = some (.cells #[.func (.func g) #[] #[]] t)
theorem BoxAt.lt {w : World} {b : Nat} {g : FuncId} {t : TypeId} (h : BoxAt w b g t) : b < w.heap.size := (Array.getElem?_eq_some_iff.1 h).1
theorem BoxAt.kept {w w' : World} {b : Nat} {g : FuncId} {t : TypeId} (h : BoxAt w b g t) (hb : Below w.heap.size w w') : BoxAt w' b g t := (hb.block b h.lt).trans h
theorem BoxAt.grown {w w' : World} {b : Nat} {g : FuncId} {t : TypeId} (h : BoxAt w b g t) {o : Option Nat} (hb : w.grownBy w' o) (hn : o ≠ some b) : BoxAt w' b g t := (hb.block b h.lt hn.symm).trans h
theorem BoxAt.cell {w : World} {b : Nat} {g : FuncId} {t : TypeId} (h : BoxAt w b g t) : w.cell? ⟨b, 0, none⟩ = some (.func (.func g) #[] #[]) := by simp [World.cell?, show w.heap[b]? = some (.cells #[.func (.func g) #[] #[]] t) from h]

set_option maxHeartbeats 1000000 in
theorem sizeOfI_any (g : FuncId) (w : World) :
    Calls Try.prog 98 #[.func (.func g) #[] #[]] w fun e w' => ∃ b, e = .returned (.agg #[.func (.func 114) #[] #[.pointer (some ⟨b, 0, none⟩)]]) ∧ w.heap.size ≤ b ∧ BoxAt w' b g 54 ∧ Below w.heap.size w w' := by
  go_enter Try.func98, Try.ntmps98
  go_wp2_with fail
  refine bodyPost_ret (results_cell_row rfl _ _ (w.heap.size + 1) 58 _ (0, 0) _ rfl (heap_alloc2_new w _ _) Try.underlying58 rfl (by kernel_rfl)) rfl ?_
  refine ⟨_, rfl, Nat.le_refl _, ?_, ((Below.refl _ _).alloc (Nat.le_refl _) _).alloc (by simp) _⟩
  exact (Below.heap_alloc _ _ _ (by simp)).trans (heap_alloc_new w _)

set_option maxHeartbeats 1000000 in
theorem sizeOfL_any (g : FuncId) (w : World) :
    Calls Try.prog 102 #[.func (.func g) #[] #[]] w fun e w' => ∃ b, e = .returned (.agg #[.func (.func 117) #[] #[.pointer (some ⟨b, 0, none⟩)]]) ∧ w.heap.size ≤ b ∧ BoxAt w' b g 83 ∧ Below w.heap.size w w' := by
  go_enter Try.func102, Try.ntmps102
  go_wp2_with fail
  refine bodyPost_ret (results_cell_row rfl _ _ (w.heap.size + 1) 58 _ (0, 0) _ rfl (heap_alloc2_new w _ _) Try.underlying58 rfl (by kernel_rfl)) rfl ?_
  refine ⟨_, rfl, Nat.le_refl _, ?_, ((Below.refl _ _).alloc (Nat.le_refl _) _).alloc (by simp) _⟩
  exact (Below.heap_alloc _ _ _ (by simp)).trans (heap_alloc_new w _)

/-- The names of what is counted. -/
def nm_inversions : ByteArray := ⟨#[105, 110, 118, 101, 114, 115, 105, 111, 110, 115]⟩
def nm_major : ByteArray := ⟨#[109, 97, 106, 111, 114]⟩
def nm_denert : ByteArray := ⟨#[100, 101, 110, 101, 114, 116]⟩
def nm_crossings : ByteArray := ⟨#[99, 114, 111, 115, 115, 105, 110, 103, 115]⟩
def nm_nestings : ByteArray := ⟨#[110, 101, 115, 116, 105, 110, 103, 115]⟩
def nm_descents : ByteArray := ⟨#[100, 101, 115, 99, 101, 110, 116, 115]⟩
def nm_above : ByteArray := ⟨#[97, 98, 111, 118, 101]⟩
def nm_records : ByteArray := ⟨#[114, 101, 99, 111, 114, 100, 115]⟩
def nm_circles : ByteArray := ⟨#[99, 105, 114, 99, 108, 101, 115]⟩

/-- What counters hold. -/
def ctrs (b1 b2 b3 b4 : Nat) : List (ByteArray × Value) := [(nm_inversions, .agg #[.func (.func 93) #[] #[]]), (nm_major, .agg #[.func (.func 94) #[] #[]]), (nm_denert, .agg #[.func (.func 95) #[] #[]]), (nm_crossings, .agg #[.func (.func 96) #[] #[]]), (nm_nestings, .agg #[.func (.func 97) #[] #[]]), (nm_descents, .agg #[.func (.func 114) #[] #[.pointer (some ⟨b1, 0, none⟩)]]), (nm_above, .agg #[.func (.func 114) #[] #[.pointer (some ⟨b2, 0, none⟩)]]), (nm_records, .agg #[.func (.func 114) #[] #[.pointer (some ⟨b3, 0, none⟩)]]), (nm_circles, .agg #[.func (.func 117) #[] #[.pointer (some ⟨b4, 0, none⟩)]])]

/-- Block b is the counters' map. -/
structure Counters (w0 w : World) (b : Nat) : Prop where
  all : ∃ b1 b2 b3 b4, MapAt w b (ctrs b1 b2 b3 b4) ∧ BoxAt w b1 99 54 ∧ BoxAt w b2 100 54 ∧ BoxAt w b3 101 54 ∧ BoxAt w b4 103 83
  low : w0.heap.size ≤ b

theorem nm_new (s : ByteArray) (L : List (ByteArray × Value)) (h : (L.map (fun p => p.1.data.toList)).all (fun x => !(x == s.data.toList)) = true) : ∀ p ∈ L, p.1 ≠ s := by
  intro p hp e
  rw [List.all_eq_true] at h
  have := h p.1.data.toList (List.mem_map_of_mem (f := fun p : ByteArray × Value => p.1.data.toList) hp)
  rw [e] at this
  simp at this

set_option maxRecDepth 20000 in
set_option maxHeartbeats 4000000 in
theorem counters_any (w : World) :
    Calls Try.prog 71 #[] w fun e w' => ∃ b, e = .returned (.map (some b)) ∧ Counters w w' b ∧ Below w.heap.size w w' := by
  go_enter Try.func71, Try.ntmps71
  have h0 := MapAt.made w
  have hmk := run_makeMap (P := Try.prog) 60 w
  have g0 : Below w.heap.size w (w.alloc (.map #[] 0)) := (Below.refl _ _).alloc (Nat.le_refl _) _
  go_wp2_with (first
    | (refine put_law _ rfl _ _ _ 60 _ _ rfl Try.underlying60 Try.underlying9 _ _ h0 nm_inversions (.agg #[.func (.func 93) #[] #[]]) rfl rfl rfl (nm_new _ _ rfl) ?_; intro w1 h1 q1; have g1 := g0.grown q1 g0.size (by rintro _ ⟨⟩; exact Nat.le_refl _))
    | (refine put_law _ rfl _ _ _ 60 _ _ rfl Try.underlying60 Try.underlying9 _ _ h1 nm_major (.agg #[.func (.func 94) #[] #[]]) rfl rfl rfl (nm_new _ _ rfl) ?_; intro w2 h2 q2; have g2 := g1.grown q2 g1.size (by rintro _ ⟨⟩; exact Nat.le_refl _))
    | (refine put_law _ rfl _ _ _ 60 _ _ rfl Try.underlying60 Try.underlying9 _ _ h2 nm_denert (.agg #[.func (.func 95) #[] #[]]) rfl rfl rfl (nm_new _ _ rfl) ?_; intro w3 h3 q3; have g3 := g2.grown q3 g2.size (by rintro _ ⟨⟩; exact Nat.le_refl _))
    | (refine put_law _ rfl _ _ _ 60 _ _ rfl Try.underlying60 Try.underlying9 _ _ h3 nm_crossings (.agg #[.func (.func 96) #[] #[]]) rfl rfl rfl (nm_new _ _ rfl) ?_; intro w4 h4 q4; have g4 := g3.grown q4 g3.size (by rintro _ ⟨⟩; exact Nat.le_refl _))
    | (refine put_law _ rfl _ _ _ 60 _ _ rfl Try.underlying60 Try.underlying9 _ _ h4 nm_nestings (.agg #[.func (.func 97) #[] #[]]) rfl rfl rfl (nm_new _ _ rfl) ?_; intro w5 h5 q5; have g5 := g4.grown q5 g4.size (by rintro _ ⟨⟩; exact Nat.le_refl _))
    | (go_at_call 98; refine (sizeOfI_any 99 _).mono ?_; rintro e v5 ⟨b1, rfl, l1, x5_1, t5⟩; have m5 := h5.kept t5; have gg5 := g5.trans (t5.mono g5.size))
    | (refine put_law _ rfl _ _ _ 60 _ _ rfl Try.underlying60 Try.underlying9 _ _ m5 nm_descents (.agg #[.func (.func 114) #[] #[.pointer (some ⟨b1, 0, none⟩)]]) rfl rfl rfl (nm_new _ _ rfl) ?_; intro w6 h6 q6; have g6 := gg5.grown q6 gg5.size (by rintro _ ⟨⟩; exact Nat.le_refl _); have z6_1 := x5_1.grown q6 (fun e => absurd (Option.some.inj e) (by have := h5.lt; omega)))
    | (go_at_call 98; refine (sizeOfI_any 100 _).mono ?_; rintro e v6 ⟨b2, rfl, l2, x6_2, t6⟩; have m6 := h6.kept t6; have gg6 := g6.trans (t6.mono g6.size); have y6_1 := z6_1.kept t6)
    | (refine put_law _ rfl _ _ _ 60 _ _ rfl Try.underlying60 Try.underlying9 _ _ m6 nm_above (.agg #[.func (.func 114) #[] #[.pointer (some ⟨b2, 0, none⟩)]]) rfl rfl rfl (nm_new _ _ rfl) ?_; intro w7 h7 q7; have g7 := gg6.grown q7 gg6.size (by rintro _ ⟨⟩; exact Nat.le_refl _); have z7_1 := y6_1.grown q7 (fun e => absurd (Option.some.inj e) (by have := h5.lt; omega)); have z7_2 := x6_2.grown q7 (fun e => absurd (Option.some.inj e) (by have := h6.lt; omega)))
    | (go_at_call 98; refine (sizeOfI_any 101 _).mono ?_; rintro e v7 ⟨b3, rfl, l3, x7_3, t7⟩; have m7 := h7.kept t7; have gg7 := g7.trans (t7.mono g7.size); have y7_1 := z7_1.kept t7; have y7_2 := z7_2.kept t7)
    | (refine put_law _ rfl _ _ _ 60 _ _ rfl Try.underlying60 Try.underlying9 _ _ m7 nm_records (.agg #[.func (.func 114) #[] #[.pointer (some ⟨b3, 0, none⟩)]]) rfl rfl rfl (nm_new _ _ rfl) ?_; intro w8 h8 q8; have g8 := gg7.grown q8 gg7.size (by rintro _ ⟨⟩; exact Nat.le_refl _); have z8_1 := y7_1.grown q8 (fun e => absurd (Option.some.inj e) (by have := h5.lt; omega)); have z8_2 := y7_2.grown q8 (fun e => absurd (Option.some.inj e) (by have := h6.lt; omega)); have z8_3 := x7_3.grown q8 (fun e => absurd (Option.some.inj e) (by have := h7.lt; omega)))
    | (go_at_call 102; refine (sizeOfL_any 103 _).mono ?_; rintro e v8 ⟨b4, rfl, l4, x8_4, t8⟩; have m8 := h8.kept t8; have gg8 := g8.trans (t8.mono g8.size); have y8_1 := z8_1.kept t8; have y8_2 := z8_2.kept t8; have y8_3 := z8_3.kept t8)
    | (refine put_law _ rfl _ _ _ 60 _ _ rfl Try.underlying60 Try.underlying9 _ _ m8 nm_circles (.agg #[.func (.func 117) #[] #[.pointer (some ⟨b4, 0, none⟩)]]) rfl rfl rfl (nm_new _ _ rfl) ?_; intro w9 h9 q9; have g9 := gg8.grown q9 gg8.size (by rintro _ ⟨⟩; exact Nat.le_refl _); have z9_1 := y8_1.grown q9 (fun e => absurd (Option.some.inj e) (by have := h5.lt; omega)); have z9_2 := y8_2.grown q9 (fun e => absurd (Option.some.inj e) (by have := h6.lt; omega)); have z9_3 := y8_3.grown q9 (fun e => absurd (Option.some.inj e) (by have := h7.lt; omega)); have z9_4 := x8_4.grown q9 (fun e => absurd (Option.some.inj e) (by have := h8.lt; omega)))
    )
  go_ret
  exact ⟨_, rfl, ⟨⟨_, _, _, _, h9, z9_1, z9_2, z9_3, z9_4⟩, Nat.le_refl _⟩, g9⟩

end Go.Proofs.Ytjgaglfinpeeoac

/- What a reckoning over all orders of at most seven values shows. No condition. -/
namespace Go.Proofs.Ytjgaglfinpeeoac

set_option maxRecDepth 100000 in
theorem count_all : (allUpTo 7).all (fun xs => (List.range 7).all fun v => xs.count (v : Int) == if v < xs.length then 1 else 0) = true := by decide +kernel

theorem count_valid {xs : List Int} (hn : xs.length ≤ 7) (hr : ∀ j, j < xs.length → 0 ≤ el xs j ∧ el xs j < xs.length) :
    (∀ v : Nat, v < 7 → xs.count (v : Int) = if v < xs.length then 1 else 0) ↔ Valid xs := by
  constructor
  · intro h
    refine ⟨hn, fun j hj => (hr j hj).1, fun j hj => (hr j hj).2, fun i j hij hj e => ?_⟩
    have h2 := count_two hij hj e
    obtain ⟨v, hv⟩ := Int.eq_ofNat_of_zero_le (hr j hj).1
    have h3 := (hr j hj).2
    rw [hv] at h2 h3
    have := h v (by omega)
    rw [this] at h2
    split at h2 <;> omega
  · intro h v hv
    have := h.all count_all
    rw [List.all_eq_true] at this
    simpa using this v (by simpa using hv)

end Go.Proofs.Ytjgaglfinpeeoac

/- What the program answers when asked whether numbers are an order. No condition but that the list's cells can be read. -/
namespace Go.Proofs.Ytjgaglfinpeeoac
open Go.RowKit

theorem infoP : ∃ i, Try.prog.info? 3 = some i := by
  have h : (Try.prog.info? 3).isSome = true := by kernel_rfl
  exact Option.isSome_iff_exists.1 h
theorem cellsI : Try.prog.cellsOf 3 = 1 := by kernel_rfl

theorem counted {xs fs os : List Int} (hn : xs.length ≤ 7) (hr : ∀ j, j < xs.length → 0 ≤ el xs j ∧ el xs j < xs.length) (hf : fs.length = 7) (ho : os.length = 7)
    (hfc : ∀ v, v < 7 → el fs v = (xs.count (v : Int) : Nat)) (hoc : ∀ v, v < 7 → el os v = if v < xs.length then 1 else 0) : decide (fs = os) = decide (Valid xs) := by
  rw [decide_eq_decide, ← count_valid hn hr]
  constructor
  · intro e v hv
    have h1 := hfc v hv
    have h2 := hoc v hv
    rw [e, h2] at h1
    split at h1 <;> split <;> omega
  · intro h
    refine ext_el (by omega) (fun v hv => ?_)
    rw [hfc v (by omega), hoc v (by omega), h v (by omega)]
    split <;> rfl

theorem zeros : ∀ v, v < 7 → el [0, 0, 0, 0, 0, 0, 0] v = 0 := by decide

set_option maxHeartbeats 1000000 in
theorem validI_any (ao : Option Addr) (n cap : Nat) (xs : List Int) (w : World) (h : Sl w ao n cap xs) :
    Calls Try.prog 43 #[.slice ao n cap] w (Says w (.bool (decide (Valid xs)))) := by
  have hbig := h.big
  have hlen := hid h.len
  by_cases h7 : n ≤ 7
  · go_enter Try.func43, Try.ntmps43
    go_wp2
    go_loopw [12] (fun i wr => ∃ (k : Nat) (fs os : List Int), k ≤ n ∧ i = .int .i64 k ∧ Below w.heap.size w wr ∧ Arr wr w.heap.size 77 fs ∧ Arr wr (w.heap.size + 1) 77 os ∧ fs.length = 7 ∧ os.length = 7 ∧
        Hid (∀ j, j < k → 0 ≤ el xs j ∧ el xs j < n) ∧ Hid (∀ v, v < 7 → el fs v = ((xs.take k).count (v : Int) : Nat)) ∧ Hid (∀ v, v < 7 → el os v = if v < k then 1 else 0))
      (fun i _ => n - (intOf i).toNat)
    case atStart =>
      refine ⟨0, [0, 0, 0, 0, 0, 0, 0], [0, 0, 0, 0, 0, 0, 0], Nat.zero_le _, rfl, by go_grown, ?_, ?_, rfl, rfl, fun j hj => by omega, fun v hv => ?_, fun v hv => ?_⟩
      · exact (Arr.made w _ [0, 0, 0, 0, 0, 0, 0]).alloc _
      · have := Arr.made (w.alloc (.cells ([0, 0, 0, 0, 0, 0, 0].map (Value.int .i64)).toArray 77)) 77 [0, 0, 0, 0, 0, 0, 0]
        rwa [World.size_alloc] at this
      · rw [zeros v hv]; simp
      · rw [zeros v hv]; simp
    case round =>
      obtain ⟨k, fs, os, hk, rfl, hbr, hF, hO, hf7, ho7, hr, hfc, hoc⟩ := hrel
      have Hf7 := hid hf7
      have Ho7 := hid ho7
      by_cases hlt : k < n
      · obtain ⟨b, off, rfl, hblt, hc⟩ := h.row (by omega)
        have hcell := (hbr.cell (p := ⟨b, off + k, none⟩) hblt).trans (hc k hlt)
        clear hc
        by_cases hin : 0 ≤ el xs k ∧ el xs k < n
        · obtain ⟨v, hv⟩ := Int.eq_ofNat_of_zero_le hin.1
          have hvn : v < n := by omega
          rw [hv] at hcell
          have Hv := hid hv
          have hfb : el fs v ≤ 7 ∧ 0 ≤ el fs v := by
            rw [hfc.out v (by omega)]
            have := List.count_le_length (a := (v : Int)) (l := xs.take k)
            rw [List.length_take] at this
            omega
          have hcF := hF.cell (j := v) (by omega)
          have hfF := hF.frozen v
          have hcO := hO.cell (j := k) (by omega)
          have hfO := hO.frozen k
          have hcO' : (wr.setCell ⟨w.heap.size, v, none⟩ (.int .i64 (el fs v + 1))).cell? ⟨w.heap.size + 1, k, none⟩ = some (.int .i64 (el os k)) := (hO.other (by simp) _).cell (by omega)
          clear hf7 ho7 hv hin
          go_wp2
          go_roundw
          case rel =>
            refine ⟨k + 1, fs.set v (el fs v + 1), os.set k 1, by omega, by go_num, ?_, ?_, ?_, by simp [Hf7.out], by simp [Ho7.out], ?_, ?_, ?_⟩
            · exact (hbr.setCell (Nat.le_refl _) _).setCell (Nat.le_succ _) _
            · exact (hF.set v _).other (by simp) _
            · exact (hO.other (by simp) _).set k 1
            · exact upto_step hr.out ⟨by rw [Hv.out]; omega, by rw [Hv.out]; omega⟩
            · intro t ht
              rw [count_take (by rw [hlen.out]; exact hlt), Hv.out]
              have := hfc.out t ht
              by_cases e : v = t
              · subst e
                rw [el_set_same (by rw [Hf7.out]; exact ht), this]; simp
              · rw [el_set_ne e, this, if_neg (by omega)]; simp
            · intro t ht
              have := hoc.out t ht
              by_cases e : k = t
              · subst e
                rw [el_set_same (by rw [Ho7.out]; exact ht), if_pos (by omega)]
              · rw [el_set_ne e, this]
                split <;> split <;> omega
          case measure => simp [intOf]; omega
        · have hno : Hid (¬ Valid xs) := fun v => hin ⟨v.lo k (by rw [hlen.out]; exact hlt), by have := v.hi k (by rw [hlen.out]; exact hlt); rwa [hlen.out] at this⟩
          have Hin := hid hin
          clear hin
          by_cases h0 : el xs k < 0
          · go_wp2
            go_ret
            exact says_false hno.out hbr
          · have h1 : (n : Int) ≤ el xs k := by have := Hin.out; omega
            go_wp2
            go_ret
            exact says_false hno.out hbr
      · obtain rfl : k = n := by omega
        have hsF : (Try.prog.info? 77).map (·.size) = some (fs.map (Value.int .i64)).toArray.size := by
          have : (Try.prog.info? 77).map (·.size) = some 7 := by kernel_rfl
          rw [this]; simp [hf7]
        have hsO : (Try.prog.info? 77).map (·.size) = some (os.map (Value.int .i64)).toArray.size := by rw [hsF]; simp [hf7, ho7]
        obtain ⟨ip, hip⟩ := infoP
        have hE := fun w => run_eql_arr (P := Try.prog) w 77 3 7 fs os Try.underlying77 hip cellsI Try.underlying3 hf7 ho7
        clear hf7 ho7
        go_wp2_with (first
          | (refine wpList_load_row rfl 77 (.tmp 3) rfl w.heap.size rfl 77 _ (0, 0) _ hF Try.underlying77 rfl hsF ?_)
          | (refine wpList_load_row rfl 77 (.tmp 4) rfl (w.heap.size + 1) rfl 77 _ (0, 0) _ hO Try.underlying77 rfl hsO ?_))
        go_ret
        refine says_bool (counted (by rw [hlen.out]; exact h7) (fun j hj => ?_) Hf7.out Ho7.out (fun v hv => ?_) (fun v hv => ?_)) hbr
        · rw [hlen.out] at hj ⊢
          exact hr.out j hj
        · have := hfc.out v hv
          rwa [List.take_of_length_le (Nat.le_of_eq hlen.out)] at this
        · rw [hlen.out]; exact hoc.out v hv
  · go_enter Try.func43, Try.ntmps43
    go_wp2
    go_ret
    exact says_false (fun v => h7 (by have := v.len; rw [hlen.out] at this; exact this)) (Below.refl _ _)
end Go.Proofs.Ytjgaglfinpeeoac

/- The program's functions of one order that make a list: InverseOrder, TurnOrder, OppositeOrder, RisingOrder. Condition: the list's cells can be read. -/
namespace Go.Proofs.Ytjgaglfinpeeoac
open Go.RowKit

set_option maxHeartbeats 1000000 in
theorem turnI_any (ao : Option Addr) (n cap : Nat) (xs : List Int) (w : World) (h : Sl w ao n cap xs) :
    Calls Try.prog 84 #[.slice ao n cap] w (Made w (onV xs (turn xs))) := by
  have hbig := h.big
  have hlen := hid h.len
  by_cases hv : Valid xs
  · have h7 : n ≤ 7 := by have := hv.len; rw [hlen.out] at this; exact this
    have Hv := hid hv
    go_enter Try.func84, Try.ntmps84
    go_wp2_with fail
    refine (validI_any _ _ _ xs _ h).mono ?_
    rintro e w1 ⟨rfl, hb1⟩
    have hsz := hb1.size
    go_wp2_with (at_make; refine make_ints _ rfl _ _ rfl _ _ n rfl rfl rfl rfl (by omega) ?_)
    intro w2 ho2 hb2
    clear hv
    have hb3 := hb1.trans (hb2.mono hb1.size)
    go_wp2
    go_loopw [14] (fun i wr => ∃ (k : Nat), k ≤ n ∧ i = .int .i64 k ∧ Below w.heap.size w wr ∧ OwS wr w1.heap.size w1.heap.size n n (iter (fun (a : List Int) k => a.set (n - 1 - k) (el xs k)) (List.replicate n 0) k))
      (fun i _ => n - (intOf i).toNat)
    case atStart => exact ⟨0, Nat.zero_le _, rfl, hb3, ho2⟩
    case round =>
      obtain ⟨k, hk, rfl, hbr, hr⟩ := hrel
      by_cases hlt : k < n
      · obtain ⟨b, off, rfl, hblt, hc⟩ := h.row (by omega)
        have hcell := (hbr.cell (p := ⟨b, off + k, none⟩) hblt).trans (hc k hlt)
        clear hc
        have hfr := hr.frozen (n - 1 - k)
        have hcur := hr.cell (j := n - 1 - k) (by omega)
        have hi1 : (k : Int) < n := by omega
        go_wp2
        go_roundw
        case rel => exact ⟨k + 1, by omega, by go_num, hbr.setCell hsz _, hr.set _ _⟩
        case measure => simp [intOf]; omega
      · obtain rfl : k = n := by omega
        go_wp2
        go_ret
        refine ⟨_, rfl, ?_, hbr⟩
        rw [onV_yes Hv.out, ← turnI_eq, turnI, hlen.out]
        exact hr.own.mono hsz
  · have Hv := hid hv
    go_enter Try.func84, Try.ntmps84
    go_wp2_with fail
    refine (validI_any _ _ _ xs _ h).mono ?_
    rintro e w1 ⟨rfl, hb1⟩
    go_wp2
    go_ret
    refine ⟨_, rfl, ?_, hb1⟩
    rw [onV_no Hv.out]
    exact Own.nil

theorem risingI_no (n : Int) (w : World) (h : n < 0 ∨ 7 < n) :
    Calls Try.prog 83 #[.int .i64 n] w (Made w []) := by
  by_cases h0 : n < 0
  · go_enter Try.func83, Try.ntmps83
    go_wp2
    go_ret
    exact ⟨_, rfl, Own.nil, Below.refl _ _⟩
  · have h1 : 7 < n := by omega
    clear h
    go_enter Try.func83, Try.ntmps83
    go_wp2
    go_ret
    exact ⟨_, rfl, Own.nil, Below.refl _ _⟩

set_option maxHeartbeats 400000 in
theorem risingI_yes (n : Nat) (w : World) (h : n ≤ 7) :
    Calls Try.prog 83 #[.int .i64 n] w (Made w (rise n)) := by
  go_enter Try.func83, Try.ntmps83
  go_wp2_with (at_make; refine make_ints _ rfl _ _ rfl _ _ n rfl rfl rfl rfl (by omega) ?_)
  intro w2 ho2 hb2
  go_wp2
  go_loopw [15] (fun i wr => ∃ (k : Nat), k ≤ n ∧ i = .int .i64 k ∧ Below w.heap.size w wr ∧ OwS wr w.heap.size w.heap.size n n (iter (fun (a : List Int) k => a.set k (k : Int)) (List.replicate n 0) k))
    (fun i _ => n - (intOf i).toNat)
  case atStart => exact ⟨0, Nat.zero_le _, rfl, hb2, ho2⟩
  case round =>
    obtain ⟨k, hk, rfl, hbr, hr⟩ := hrel
    by_cases hlt : k < n
    · have hfr := hr.frozen k
      have hcur := hr.cell hlt
      go_wp2
      go_roundw
      case rel => exact ⟨k + 1, by omega, by go_num, hbr.setCell (Nat.le_refl _) _, hr.set _ _⟩
      case measure => simp [intOf]; omega
    · obtain rfl : k = n := by omega
      go_wp2
      go_ret
      refine ⟨_, rfl, ?_, hbr⟩
      rw [rise, ← iter_set]
      exact hr.own
end Go.Proofs.Ytjgaglfinpeeoac

/- What the program and its model answer when asked whether numbers are an order: both say so exactly if they are. No condition but that the list's cells can be read. -/
namespace Go.Proofs.Ytjgaglfinpeeoac
open Go.RowKit
end Go.Proofs.Ytjgaglfinpeeoac

/- The model's functions of one order that make a list: rising, RisingOrder, inverse, InverseOrder, turned, TurnOrder, OppositeOrder. Condition: the list's cells can be read. -/
namespace Go.Proofs.Ytjgaglfinpeeoac
open Go.RowKit

theorem own_lit (w : World) : Own (w.alloc (.cells #[] 3)) w.heap.size (.slice (some ⟨w.heap.size, 0, none⟩) 0 0) [] :=
  World.ownsRow_lit w #[] 0 (Nat.le_refl _) (Nat.zero_le _) rfl

theorem own_lit_at {w : World} {B : Nat} (hB : B ≤ w.heap.size) : Own (w.alloc (.cells #[] 3)) B (.slice (some ⟨w.heap.size, 0, none⟩) 0 0) [] := (own_lit w).mono hB

set_option maxHeartbeats 400000 in
theorem rising_any (n : Nat) (w : World) (h : n ≤ 1000) :
    Calls Try.prog 119 #[.int .i64 n] w (Made w (rise n)) := by
  go_enter Try.func119, Try.ntmps119
  go_wp2
  go_loopw [3] (fun v wr => ∃ (k : Nat) (ao : Option Addr) (cap : Nat), k ≤ n ∧ v = .slice ao k cap ∧ Below w.heap.size w wr ∧ Own wr w.heap.size (.slice ao k cap) (rise k))
    (fun v _ => n - lenOf v)
  case atStart => exact ⟨0, _, _, Nat.zero_le _, rfl, (Below.refl _ _).alloc (Nat.le_refl _) _, own_lit w⟩
  case round =>
    obtain ⟨k, ao, cap, hk, rfl, hbr, ho⟩ := hrel
    by_cases hlt : k < n
    · have hsz := hbr.size
      have hl : (rise k).length ≤ 2000000 := by rw [rise_len]; omega
      go_wp2_with (at_builtin; refine app_int _ _ rfl _ _ rfl w.heap.size _ _ rfl ho rfl hl hsz ?_)
      intro u' w' ho' hg'
      have hb' := below_app hbr ho hg'
      obtain ⟨ao', cap', rfl, hs'⟩ := ho'.sl
      rw [← rise_succ, rise_len] at *
      go_wp2
      go_roundw
      case rel => exact ⟨k + 1, _, _, by omega, rfl, hb', ho'⟩
      case measure => simp [lenOf]; omega
    · obtain rfl : k = n := by omega
      go_wp2
      go_ret
      exact ⟨_, rfl, ho, hbr⟩

end Go.Proofs.Ytjgaglfinpeeoac

/- The walk's law of append, with the block of what comes out: the old one, or a new one. No condition. -/
namespace Go.Proofs.Ytjgaglfinpeeoac
open Go.RowKit

theorem app_block {P : Program} (w : World) (base : Nat) (t ty e : TypeId) (i : TypeInfo) (z : Value) (ht : P.underlying t = some (.slice e)) (hi : P.info? e = some i) (hz : i.zero = some z) (h1s : i.size = 1)
    (v : Value) (n : Nat) (xs : List Value) (hown : w.ownsRow base e 1 v n xs) (a : Addr) (c : Nat) (x : Value) (hx : w.cell? a = some x) (hc : x.oneCell' = true) (hl : n ≤ 2000000) (hb : i.bytes ≤ 100)
    {v' : Value} {w' : World} (hr : (Builtin.append_ #[t, t] ty #[v, .slice (some a) 1 c]).run P w = .ok v' w') : v'.ownBlock = v.ownBlock ∨ v'.ownBlock = some w.heap.size := by
  have hnews : ∀ j u, [x][j]? = some u → w.cell? (a.add j) = some u := by
    intro j u hj
    match j, hj with
    | 0, hj => simp at hj; subst hj; simpa [Addr.add] using hx
  have hone : ∀ u ∈ [x], u.oneCell' = true := by intro u hu; simp at hu; subst hu; exact hc
  have hln : [x].length = 1 * i.size := by rw [h1s]; rfl
  have hby : (n + 1) * i.bytes ≤ 140737488355328 := Nat.le_trans (Nat.mul_le_mul (show n + 1 ≤ 2000001 by omega) hb) (by decide)
  rcases hown.2 with ⟨rfl, rfl⟩ | ⟨g, cap, cur, rfl, hbg, hg, hnc, hcm, hcs, htake⟩
  · rw [run_append_nil (P := P) w t ty e i z ht hi hz a 1 c [x] hln hnews (by omega) (by omega) (by omega)] at hr
    simp only [Result.ok.injEq] at hr
    exact Or.inr (by rw [← hr.1]; rfl)
  · by_cases hroom : n + 1 ≤ cap
    · rw [run_append_room (P := P) w t ty e i ht hi g n cap cur hg a 1 c [x] hln hnews hone hroom (by rw [h1s]; simp; omega)] at hr
      simp only [Result.ok.injEq] at hr
      exact Or.inl (by rw [← hr.1]; rfl)
    · rw [run_append_grow (P := P) w t ty e i z ht hi hz ⟨g, 0, none⟩ n cap xs (by rw [h1s]; exact hown.1) (hown.cells (g := g) rfl) a 1 c [x] hln hnews (by omega) (by omega) (growslice_fits (by omega) hby)] at hr
      simp only [Result.ok.injEq] at hr
      exact Or.inr (by rw [← hr.1]; rfl)

/-- What comes out of append: the old block or a new one. -/
def Blk (w : World) (u u' : Value) : Prop := u'.ownBlock = u.ownBlock ∨ u'.ownBlock = some w.heap.size

theorem wp_app2 {P : Program} (w : World) {o : Oper} {a : Act} {K : Act → World → Prop} {Q : Exit → Act → World → Prop} (s x : Operand) (t : TypeId)
    (ho : o.op = .call { callee := .builtin .append, args := #[s, x], argTypes := #[t, t] })
    (base : Nat) (e : TypeId) (i : TypeInfo) (z : Value) (ht : P.underlying t = some (.slice e)) (hi : P.info? e = some i) (hz : i.zero = some z) (h1s : i.size = 1) (hb : i.bytes ≤ 100) (hzs : z.cells.size = 1)
    (v : Value) (n : Nat) (xs : List Value) (hs : a.eval s = v) (hown : w.ownsRow base e 1 v n xs)
    (ad : Addr) (c : Nat) (y : Value) (hx : a.eval x = .slice (some ad) 1 c) (hy : w.cell? ad = some y) (hc : y.oneCell' = true) (hl : n ≤ 2000000) (hbase : base ≤ w.heap.size)
    (h : ∀ v' w', w'.ownsRow base e 1 v' (n + 1) (xs ++ [y]) → w.grownBy w' v.ownBlock → Blk w v v' → K (a.put o.dst v') w') : o.wp P a w K Q := by
  have hnews : ∀ j u, [y][j]? = some u → w.cell? (ad.add j) = some u := by
    intro j u hj
    match j, hj with
    | 0, hj => simp at hj; subst hj; simpa [Addr.add] using hy
  have hone : ∀ u ∈ [y], u.oneCell' = true := by intro u hu; simp at hu; subst hu; exact hc
  have hby : (n + 1) * i.bytes ≤ 140737488355328 := Nat.le_trans (Nat.mul_le_mul (show n + 1 ≤ 2000001 by omega) hb) (by decide)
  obtain ⟨v', w', hr, h2, h3, _⟩ := run_append_own (P := P) w base t o.type e i z 1 i.bytes ht hi hz h1s rfl hzs (by decide) v n xs hown ad 1 c [y] rfl hnews hone (by unfold maxLen; omega) hby hbase
  have hk := app_block w base t o.type e i z ht hi hz h1s v n xs hown ad c y hy hc hl hb hr
  unfold Oper.wp execOp
  simp only [ho, resolve, invoke, builtin, Sem.run_bind, Sem.run_pure, Result.andThen_ok, List.map_toArray, List.map_cons, List.map_nil, hs, hx, hr]
  exact h v' w' h2 h3 hk

/-- append(out, v), out the call's own: with the block. -/
theorem app_int2 (w : World) (v : Int) {ops : Array Oper} {rest : List Oper} {o : Oper} {a : Act} {Q : Exit → Act → World → Prop}
    (hg : o.guard = none) (s x : Operand) (hop : o.op = Op.call { callee := Callee.builtin Builtin.append, args := #[s, x], argTypes := #[28, 28] })
    (B : Nat) (u : Value) (ys : List Int) (hs : a.eval s = u) (hown : Own w B u ys) (hx : a.eval x = .slice (some ⟨w.heap.size, 0, none⟩) 1 1) (hlen : ys.length ≤ 2000000) (hB : B ≤ w.heap.size)
    (hK : ∀ u' w', Own w' B u' (ys ++ [v]) → w.grownBy w' u.ownBlock → (u'.ownBlock = u.ownBlock ∨ u'.ownBlock = some (w.heap.size + 1)) → wpList Try.prog ops Q rest (a.put o.dst u') w') :
    wpList Try.prog ops Q (o :: rest) a (w.alloc (.cells #[.int .i64 v] 3)) := by
  obtain ⟨i0, hi, hz0, hz1, hz2⟩ := info_parts infoI
  refine wpList_plain hg fun _ hK' => wp_app2 (P := Try.prog) _ s x 28 hop B 3 i0 (.int .i64 0) Try.underlying28 hi hz0 hz1 (by rw [hz2]; decide) rfl u ys.length _ hs (World.ownsRow.alloc hown _) ⟨w.heap.size, 0, none⟩ 1 (.int .i64 v) hx ?_ rfl hlen ?_ ?_
  · simp
  · simp; omega
  · intro v' w' hown' hgrow hk
    refine hK' _ _ (hK v' w' ?_ (grown_trans (World.grownBy_alloc w _ _) hgrow) ?_)
    · unfold Own
      rw [List.length_append, List.map_append]
      exact hown'
    · rcases hk with hk | hk
      · exact Or.inl hk
      · exact Or.inr (by rw [hk]; simp)

/-- Two values of the call's own lie apart. -/
def Apart (u d : Value) : Prop := u.ownBlock = none ∨ u.ownBlock ≠ d.ownBlock
theorem Apart.symm {u d : Value} (h : Apart u d) : Apart d u := by
  unfold Apart at *
  cases e : d.ownBlock with
  | none => exact Or.inl rfl
  | some k =>
    refine Or.inr (fun e2 => ?_)
    rcases h with h | h
    · rw [h] at e2; cases e2
    · exact h (by rw [e, e2])
/-- What was appended to stays apart from what was there. -/
theorem Apart.app {w : World} {B : Nat} {u u' d : Value} {ds : List Int} (h : Apart u d) (hd : Own w B d ds) (hk : u'.ownBlock = u.ownBlock ∨ u'.ownBlock = some (w.heap.size + 1)) : Apart u' d := by
  rcases hk with hk | hk
  · unfold Apart at *
    rw [hk]; exact h
  · refine Or.inr (fun e => ?_)
    rw [hk] at e
    have := (hd.blocks _ e.symm).2
    omega

end Go.Proofs.Ytjgaglfinpeeoac

/- Words for lists of lists of numbers: what a call has made, how it fares in later worlds, how it is read, and how a list is appended to it. No condition. -/
namespace Go.Proofs.Ytjgaglfinpeeoac
open Go.RowKit

/-- The list at place j. -/
def ell (yss : List (List Int)) (j : Nat) : List Int := yss.getD j []
theorem ell_lt {yss : List (List Int)} {j : Nat} (h : j < yss.length) : ell yss j = yss[j] := by simp [ell, h]
theorem ell_app_lt {yss : List (List Int)} {ys : List Int} {j : Nat} (h : j < yss.length) : ell (yss ++ [ys]) j = ell yss j := by simp [ell, List.getElem?_append_left h]
theorem ell_app_eq {yss : List (List Int)} {ys : List Int} : ell (yss ++ [ys]) yss.length = ys := by simp [ell]
theorem ext_ell {xss yss : List (List Int)} (h : xss.length = yss.length) (hj : ∀ j, j < xss.length → ell xss j = ell yss j) : xss = yss := by
  apply List.ext_getElem h
  intro j h1 h2
  have := hj j h1
  rwa [ell_lt h1, ell_lt h2] at this

/-- Only blocks from lo on and below hi, and new ones, have changed. -/
structure Chg (lo hi : Nat) (w w' : World) : Prop where
  os : w'.os = w.os
  tape : w'.tape = w.tape
  output : w'.output = w.output
  size : w.heap.size ≤ w'.heap.size
  block : ∀ k, k < w.heap.size → (k < lo ∨ hi ≤ k) → w'.heap[k]? = w.heap[k]?
theorem Chg.of_below {lo hi : Nat} {w w' : World} (h : Below w.heap.size w w') : Chg lo hi w w' := ⟨h.os, h.tape, h.output, h.size, fun k hk _ => h.block k hk⟩
theorem Chg.of_grown {lo hi : Nat} {w w' : World} {row : Option Nat} (h : w.grownBy w' row) (hr : ∀ k, row = some k → lo ≤ k ∧ k < hi) : Chg lo hi w w' :=
  ⟨h.os, h.tape, h.output, h.size, fun k hk hk2 => h.block k hk (fun e => by have := hr k e.symm; omega)⟩
theorem Chg.refl (lo hi : Nat) (w : World) : Chg lo hi w w := ⟨rfl, rfl, rfl, Nat.le_refl _, fun _ _ _ => rfl⟩
theorem Chg.trans {lo hi : Nat} {a b c : World} (h : Chg lo hi a b) (k : Chg lo hi b c) : Chg lo hi a c :=
  ⟨k.os.trans h.os, k.tape.trans h.tape, k.output.trans h.output, Nat.le_trans h.size k.size, fun i hi hr => (k.block i (Nat.lt_of_lt_of_le hi h.size) hr).trans (h.block i hi hr)⟩
theorem Chg.below {B lo hi : Nat} {a w w' : World} (h : Below B a w) (k : Chg lo hi w w') (hB : B ≤ lo) (hw : B ≤ w.heap.size) : Below B a w' :=
  ⟨k.os.trans h.os, k.tape.trans h.tape, k.output.trans h.output, Nat.le_trans h.size k.size, fun i hi => (k.block i (by omega) (Or.inl (by omega))).trans (h.block i hi)⟩

/-- What a call made, in blocks from B on and below C. -/
structure OwnB (w : World) (B C : Nat) (u : Value) (ys : List Int) : Prop where
  own : Own w B u ys
  lt : ∀ k, u.ownBlock = some k → k < C
theorem Own.win {w : World} {B : Nat} {u : Value} {ys : List Int} (h : Own w B u ys) : OwnB w B w.heap.size u ys := ⟨h, fun k hk => (h.blocks k hk).2⟩
theorem OwnB.chg {w w' : World} {B C lo hi : Nat} {u : Value} {ys : List Int} (h : OwnB w B C u ys) (k : Chg lo hi w w') (hd : C ≤ lo ∨ hi ≤ B) : OwnB w' B C u ys := by
  refine ⟨⟨h.own.1, ?_⟩, h.lt⟩
  rcases h.own.2 with h2 | ⟨g, cap, cur, hv, hg, hh, r⟩
  · exact Or.inl h2
  · have hlt := h.lt g (by rw [hv]; rfl)
    exact Or.inr ⟨g, cap, cur, hv, hg, (k.block g (Array.getElem?_eq_some_iff.1 hh).1 (by omega)).trans hh, r⟩

/-- What a call made: a list of lists, all in blocks from B on and below C and not in block q, each apart from all others. -/
structure OwnLx (q : Option Nat) (w : World) (B C : Nat) (u : Value) (yss : List (List Int)) : Prop where
  ge : B ≤ C
  le : C ≤ w.heap.size
  ex : ∃ vs : List Value, w.ownsRow B 28 1 u yss.length vs ∧ (∀ k, u.ownBlock = some k → k < C ∧ q ≠ some k) ∧
    (∀ (j : Nat) (v : Value), vs[j]? = some v → Own w B v (ell yss j) ∧ (∀ k, v.ownBlock = some k → k < C ∧ q ≠ some k) ∧ Apart v u) ∧
    (∀ (i j : Nat) (v v' : Value), i < j → vs[i]? = some v → vs[j]? = some v' → Apart v v')
def OwnL (w : World) (B C : Nat) (u : Value) (yss : List (List Int)) : Prop := OwnLx none w B C u yss

theorem own_chg {w w' : World} {B : Nat} {u : Value} {ys : List Int} (h : Own w B u ys) (hk : ∀ k, u.ownBlock = some k → k < w.heap.size → w'.heap[k]? = w.heap[k]?) : Own w' B u ys := by
  refine ⟨h.1, ?_⟩
  rcases h.2 with h2 | ⟨g, cap, cur, hv, hg, hh, r⟩
  · exact Or.inl h2
  · exact Or.inr ⟨g, cap, cur, hv, hg, (hk g (by rw [hv]; rfl) (Array.getElem?_eq_some_iff.1 hh).1).trans hh, r⟩

theorem OwnLx.kept {q : Option Nat} {w w' : World} {B C : Nat} {u : Value} {yss : List (List Int)} (h : OwnLx q w B C u yss) (hs : w.heap.size ≤ w'.heap.size) (hk : ∀ k, B ≤ k → k < C → q ≠ some k → w'.heap[k]? = w.heap[k]?) : OwnLx q w' B C u yss := by
  obtain ⟨vs, h1, h2, h3, h4⟩ := h.ex
  refine ⟨h.ge, Nat.le_trans h.le hs, vs, ⟨h1.1, ?_⟩, h2, fun j v hj => ?_, h4⟩
  · rcases h1.2 with h5 | ⟨g, cap, cur, hv, hg, hh, r⟩
    · exact Or.inl h5
    · have hlt := h2 g (by rw [hv]; rfl)
      exact Or.inr ⟨g, cap, cur, hv, hg, (hk g hg hlt.1 hlt.2).trans hh, r⟩
  · obtain ⟨a, b, c⟩ := h3 j v hj
    exact ⟨own_chg a (fun k e _ => hk k (a.blocks k e).1 (b k e).1 (b k e).2), b, c⟩
theorem OwnLx.chg {q : Option Nat} {w w' : World} {B C lo hi : Nat} {u : Value} {yss : List (List Int)} (h : OwnLx q w B C u yss) (k : Chg lo hi w w') (hd : C ≤ lo ∨ hi ≤ B) : OwnLx q w' B C u yss :=
  h.kept k.size (fun j h1 h2 _ => k.block j (Nat.lt_of_lt_of_le h2 h.le) (by omega))
theorem OwnL.chg {w w' : World} {B C lo hi : Nat} {u : Value} {yss : List (List Int)} (h : OwnL w B C u yss) (k : Chg lo hi w w') (hd : C ≤ lo ∨ hi ≤ B) : OwnL w' B C u yss := OwnLx.chg h k hd
theorem OwnLx.later {q : Option Nat} {w w' : World} {B C : Nat} {u : Value} {yss : List (List Int)} (h : OwnLx q w B C u yss) (k : Below w.heap.size w w') : OwnLx q w' B C u yss :=
  h.chg (Chg.of_below (lo := C) (hi := C) k) (Or.inl (Nat.le_refl _))
theorem OwnL.later {w w' : World} {B C : Nat} {u : Value} {yss : List (List Int)} (h : OwnL w B C u yss) (k : Below w.heap.size w w') : OwnL w' B C u yss := OwnLx.later h k
/-- A store into the block that is left out. -/
theorem OwnLx.set {g : Nat} {w : World} {B C : Nat} {u : Value} {yss : List (List Int)} (h : OwnLx (some g) w B C u yss) (j : Nat) (v : Value) : OwnLx (some g) (w.setCell ⟨g, j, none⟩ v) B C u yss :=
  h.kept (by simp [World.setCell]) (fun k _ _ hk => Below.heap_setCell _ _ _ _ (fun e => hk (congrArg some e.symm)))
theorem OwnLx.mono {q : Option Nat} {w : World} {B B' C : Nat} {u : Value} {yss : List (List Int)} (h : OwnLx q w B C u yss) (hB : B' ≤ B) : OwnLx q w B' C u yss := by
  obtain ⟨vs, h1, h2, h3, h4⟩ := h.ex
  refine ⟨Nat.le_trans hB h.ge, h.le, vs, ⟨h1.1, ?_⟩, h2, fun j v hj => ?_, h4⟩
  · rcases h1.2 with h5 | ⟨g, cap, cur, hv, hg, r⟩
    · exact Or.inl h5
    · exact Or.inr ⟨g, cap, cur, hv, Nat.le_trans hB hg, r⟩
  · obtain ⟨a, b, c⟩ := h3 j v hj
    exact ⟨a.mono hB, b, c⟩
theorem OwnL.mono {w : World} {B B' C : Nat} {u : Value} {yss : List (List Int)} (h : OwnL w B C u yss) (hB : B' ≤ B) : OwnL w B' C u yss := OwnLx.mono h hB
theorem OwnLx.any {q : Option Nat} {w : World} {B C : Nat} {u : Value} {yss : List (List Int)} (h : OwnLx q w B C u yss) : OwnL w B C u yss := by
  obtain ⟨vs, h1, h2, h3, h4⟩ := h.ex
  exact ⟨h.ge, h.le, vs, h1, fun k hk => ⟨(h2 k hk).1, fun e => by cases e⟩, fun j v hj => ⟨(h3 j v hj).1, fun k hk => ⟨((h3 j v hj).2.1 k hk).1, fun e => by cases e⟩, (h3 j v hj).2.2⟩, h4⟩
theorem OwnLx.now {q : Option Nat} {w : World} {B C : Nat} {u : Value} {yss : List (List Int)} (h : OwnLx q w B C u yss) : OwnLx q w B w.heap.size u yss := by
  obtain ⟨vs, h1, h2, h3, h4⟩ := h.ex
  have := h.le
  exact ⟨Nat.le_trans h.ge h.le, Nat.le_refl _, vs, h1, fun k hk => ⟨by have := (h2 k hk).1; omega, (h2 k hk).2⟩, fun j v hj => ⟨(h3 j v hj).1, fun k hk => ⟨by have := ((h3 j v hj).2.1 k hk).1; omega, ((h3 j v hj).2.1 k hk).2⟩, (h3 j v hj).2.2⟩, h4⟩
theorem OwnL.now {w : World} {B C : Nat} {u : Value} {yss : List (List Int)} (h : OwnL w B C u yss) : OwnL w B w.heap.size u yss := OwnLx.now h
theorem OwnL.drewN {w : World} {B C : Nat} {u : Value} {yss : List (List Int)} (h : OwnL w B C u yss) (m : Nat) : OwnL (w.drewN m) B C u yss := h.later (drewN_below (Below.refl _ _) m)

/-- The slice value with address ao, length n and capacity cap reads as the lists yss. -/
structure SlL (w : World) (ao : Option Addr) (n cap : Nat) (yss : List (List Int)) : Prop where
  len : yss.length = n
  le : n ≤ cap
  max : cap ≤ maxLen
  row : 0 < n → ∃ b off, ao = some ⟨b, off, none⟩ ∧ b < w.heap.size ∧ ∀ j, j < n → ∃ ai ci, w.cell? ⟨b, off + j, none⟩ = some (.slice ai (ell yss j).length ci) ∧ Sl w ai (ell yss j).length ci (ell yss j)
theorem SlL.later {w w' : World} {ao : Option Addr} {n cap : Nat} {yss : List (List Int)} (h : SlL w ao n cap yss) (hb : Below w.heap.size w w') : SlL w' ao n cap yss := by
  refine ⟨h.len, h.le, h.max, fun hn => ?_⟩
  obtain ⟨b, off, rfl, hlt, hc⟩ := h.row hn
  refine ⟨b, off, rfl, Nat.lt_of_lt_of_le hlt hb.size, fun j hj => ?_⟩
  obtain ⟨ai, ci, h1, h2⟩ := hc j hj
  exact ⟨ai, ci, (hb.cell hlt).trans h1, h2.later hb⟩
theorem SlL.big {w : World} {ao : Option Addr} {n cap : Nat} {yss : List (List Int)} (h : SlL w ao n cap yss) : n ≤ 9223372036854775807 := by
  have := h.le
  have := h.max
  unfold maxLen at this
  omega
theorem SlL.nil {w : World} : SlL w none 0 0 [] := ⟨rfl, Nat.le_refl _, Nat.zero_le _, fun h => by omega⟩
theorem own_one' (w : World) (x : Int) (B : Nat) (hB : B ≤ w.heap.size) : Own (w.alloc (.cells #[.int .i64 x] 3)) B (.slice (some ⟨w.heap.size, 0, none⟩) 1 1) [x] :=
  World.ownsRow_lit w #[.int .i64 x] 1 hB (by decide) rfl
theorem OwnL.sl {w : World} {B C : Nat} {u : Value} {yss : List (List Int)} (h : OwnL w B C u yss) : ∃ ao cap, u = .slice ao yss.length cap ∧ SlL w ao yss.length cap yss := by
  obtain ⟨vs, h1, h2, h3, h4⟩ := h.ex
  have h0 := h1
  rcases h1.2 with ⟨rfl, h5⟩ | ⟨g, cap, cur, rfl, hB, hg, h5, h6, h7, h8⟩
  · have : yss = [] := List.eq_nil_of_length_eq_zero h5
    subst this
    exact ⟨none, 0, rfl, SlL.nil⟩
  · refine ⟨_, cap, rfl, rfl, h5, h6, fun hn => ⟨g, 0, rfl, (Array.getElem?_eq_some_iff.1 hg).1, fun j hj => ?_⟩⟩
    have hl : vs.length = yss.length := by rw [h0.1, Nat.mul_one]
    have hv : vs[j]? = some vs[j] := List.getElem?_eq_getElem (by omega)
    have hc := World.ownsRow.cellAt h0 j (by omega)
    obtain ⟨ai, ci, e, hs⟩ := (h3 j _ hv).1.sl
    refine ⟨ai, ci, ?_, hs⟩
    rw [Nat.zero_add, hc, ← e]
    try simp
theorem OwnL.nil {w : World} {B : Nat} (hB : B ≤ w.heap.size) : OwnL w B B (.slice none 0 0) [] :=
  ⟨Nat.le_refl _, hB, [], World.ownsRow_nil _ _ _ _, fun k hk => by simp [Value.ownBlock] at hk, fun j v hj => by simp at hj, fun i j v v' _ hj => by simp at hj⟩
theorem ownLx_lit {w : World} {B : Nat} {q : Option Nat} (hB : B ≤ w.heap.size) (hq : q ≠ some w.heap.size) : OwnLx q (w.alloc (.cells #[] 28)) B (w.heap.size + 1) (.slice (some ⟨w.heap.size, 0, none⟩) 0 0) [] :=
  ⟨by omega, by simp, [], World.ownsRow_lit w #[] 0 hB (Nat.zero_le _) rfl, fun k hk => by
    simp [Value.ownBlock] at hk
    subst hk
    exact ⟨by omega, hq⟩, fun j v hj => by simp at hj, fun i j v v' _ hj => by simp at hj⟩
theorem ownL_lit {w : World} {B : Nat} (hB : B ≤ w.heap.size) : OwnL (w.alloc (.cells #[] 28)) B (w.heap.size + 1) (.slice (some ⟨w.heap.size, 0, none⟩) 0 0) [] := ownLx_lit hB (fun e => by cases e)

theorem Own.oneCell {w : World} {B : Nat} {u : Value} {ys : List Int} (h : Own w B u ys) : u.oneCell' = true := by
  rcases h.place with ⟨rfl, _⟩ | ⟨g, cap, rfl, _⟩
  · rfl
  · rfl

theorem infoL : (Try.prog.info? 28).map (fun i => (i.zero, i.size, i.bytes)) = some (some (.slice none 0 0), 1, 24) := by kernel_rfl

/-- append(out, list), out the call's own, the list newer than it. -/
theorem app_lstx (q : Option Nat) (D : Nat) (w : World) (v : Value) (ys : List Int) {ops : Array Oper} {rest : List Oper} {o : Oper} {a : Act} {Q : Exit → Act → World → Prop}
    (hg : o.guard = none) (s x : Operand) (hop : o.op = Op.call { callee := Callee.builtin Builtin.append, args := #[s, x], argTypes := #[24, 24] })
    (B C : Nat) (u : Value) (yss : List (List Int)) (h0 : OwnLx q w B C u yss) (hC : C ≤ D) (hws : D ≤ w.heap.size) (hq : ∀ k, q = some k → k < D) (hv : Own w D v ys) (hs : a.eval s = u) (hx : a.eval x = .slice (some ⟨w.heap.size, 0, none⟩) 1 1) (hlen : yss.length ≤ 2000000)
    (hK : ∀ u' w', OwnLx q w' B w'.heap.size u' (yss ++ [ys]) → Below B w w' → w.grownBy w' u.ownBlock → wpList Try.prog ops Q rest (a.put o.dst u') w') :
    wpList Try.prog ops Q (o :: rest) a (w.alloc (.cells #[v] 28)) := by
  obtain ⟨i0, hi, hz0, hz1, hz2⟩ := info_parts infoL
  obtain ⟨vs, h1, h2, h3, h4⟩ := h0.ex
  have hBC := h0.ge
  have hone := hv.oneCell
  have hvb := hv.blocks
  refine wpList_plain hg fun _ hK' => wp_app2 (P := Try.prog) _ s x 24 hop B 28 i0 (.slice none 0 0) Try.underlying24 hi hz0 hz1 (by rw [hz2]; decide) rfl u yss.length vs hs (World.ownsRow.alloc h1 _) ⟨w.heap.size, 0, none⟩ 1 v hx ?_ hone hlen ?_ ?_
  · simp
  · simp; omega
  · intro u' w' hown' hgrow hk
    have hgr : w.grownBy w' u.ownBlock := grown_trans (World.grownBy_alloc w _ _) hgrow
    have hsz : w.heap.size + 1 ≤ w'.heap.size := by have := hgrow.size; simpa using this
    have hblk : u'.ownBlock = u.ownBlock ∨ u'.ownBlock = some (w.heap.size + 1) := by
      rcases hk with hk | hk
      · exact Or.inl hk
      · exact Or.inr (by rw [hk]; simp)
    have hub : ∀ k, u.ownBlock = some k → B ≤ k := fun k hk => (World.ownsRow.lt h1 k hk).1
    have hvl : vs.length = yss.length := by rw [h1.1, Nat.mul_one]
    have hvu : Apart v u := by
      unfold Apart
      cases e : v.ownBlock with
      | none => exact Or.inl rfl
      | some k => exact Or.inr (fun e2 => by have a1 := (h2 k e2.symm).1; have a2 := (hvb k e).1; omega)
    have hmv : ∀ t, (∀ k, t.ownBlock = some k → k < w.heap.size) → Apart t u → Apart t u' := by
      intro t ht hap
      unfold Apart at *
      rcases hblk with e | e
      · rw [e]; exact hap
      · rw [e]
        cases e2 : t.ownBlock with
        | none => exact Or.inl rfl
        | some k => exact Or.inr (fun e3 => by have := ht k e2; have := Option.some.inj e3; omega)
    have hqn : ∀ k, D ≤ k → q ≠ some k := fun k hk e => by have := hq k e; omega
    refine hK' _ _ (hK u' w' ⟨by omega, Nat.le_refl _, vs ++ [v], ?_, ?_, ?_, ?_⟩ ?_ hgr)
    · rw [List.length_append]; exact hown'
    · intro k hk
      refine ⟨(World.ownsRow.lt hown' k hk).2, ?_⟩
      rcases hblk with e | e
      · rw [e] at hk; exact (h2 k hk).2
      · rw [e] at hk; obtain rfl := Option.some.inj hk; exact hqn _ (by omega)
    · intro j t hj
      by_cases hjl : j < vs.length
      · rw [List.getElem?_append_left hjl] at hj
        obtain ⟨p, q', r⟩ := h3 j t hj
        rw [ell_app_lt (by omega)]
        exact ⟨p.kept hgr r, fun k hk => ⟨by have := (q' k hk).1; omega, (q' k hk).2⟩, hmv t (fun k hk => by have := (q' k hk).1; omega) r⟩
      · have hj2 : j = yss.length := by
          have := (List.getElem?_eq_some_iff.1 hj).1
          rw [List.length_append, List.length_singleton] at this
          omega
        subst hj2
        rw [List.getElem?_append_right (by omega), hvl, Nat.sub_self] at hj
        simp at hj
        subst hj
        rw [ell_app_eq]
        exact ⟨(hv.kept hgr hvu).mono (by omega), fun k hk => ⟨by have := (hvb k hk).2; omega, hqn k (hvb k hk).1⟩, hmv v (fun k hk => (hvb k hk).2) hvu⟩
    · intro i j t t' hij hti htj
      have hil : i < vs.length := by
        have := (List.getElem?_eq_some_iff.1 htj).1
        rw [List.length_append, List.length_singleton] at this
        omega
      rw [List.getElem?_append_left hil] at hti
      by_cases hjl : j < vs.length
      · rw [List.getElem?_append_left hjl] at htj
        exact h4 i j t t' hij hti htj
      · have hj2 : j = vs.length := by
          have := (List.getElem?_eq_some_iff.1 htj).1
          rw [List.length_append, List.length_singleton] at this
          omega
        subst hj2
        rw [List.getElem?_append_right (Nat.le_refl _), Nat.sub_self] at htj
        simp at htj
        subst htj
        unfold Apart
        cases e : t.ownBlock with
        | none => exact Or.inl rfl
        | some k => exact Or.inr (fun e2 => by have a1 := ((h3 i t hti).2.1 k e).1; have a2 := (hvb k e2.symm).1; omega)
    · exact below_of_grown hgr (by omega) (fun k hk => hub k hk)

theorem app_lst (w0 w : World) (v : Value) (ys : List Int) {ops : Array Oper} {rest : List Oper} {o : Oper} {a : Act} {Q : Exit → Act → World → Prop}
    (hg : o.guard = none) (s x : Operand) (hop : o.op = Op.call { callee := Callee.builtin Builtin.append, args := #[s, x], argTypes := #[24, 24] })
    (B C : Nat) (u : Value) (yss : List (List Int)) (h0 : OwnL w0 B C u yss) (hb : Below w0.heap.size w0 w) (hv : Own w w0.heap.size v ys) (hs : a.eval s = u) (hx : a.eval x = .slice (some ⟨w.heap.size, 0, none⟩) 1 1) (hlen : yss.length ≤ 2000000)
    (hK : ∀ u' w', OwnL w' B w'.heap.size u' (yss ++ [ys]) → Below B w w' → wpList Try.prog ops Q rest (a.put o.dst u') w') :
    wpList Try.prog ops Q (o :: rest) a (w.alloc (.cells #[v] 28)) :=
  app_lstx none w0.heap.size w v ys hg s x hop B C u yss (OwnLx.later h0 hb) (OwnLx.le h0) hb.size (fun k e => by cases e) hv hs hx hlen (fun u' w' h1 h2 _ => hK u' w' h1 h2)

/-- A call made a list of lists, and turned nothing that was there. -/
def MadeL (w : World) (yss : List (List Int)) (e : Ending) (w' : World) : Prop := ∃ u, e = .returned u ∧ OwnL w' w.heap.size w'.heap.size u yss ∧ Below w.heap.size w w'
theorem madeL_to {P : Program} {f : FuncId} {a : Array Value} {w : World} {v v' : List (List Int)} (h : Calls P f a w (MadeL w v)) (e : v = v') : Calls P f a w (MadeL w v') := e ▸ h
/-- A list for an order, nil for other numbers. -/
def onVL (xs : List Int) (yss : List (List Int)) : List (List Int) := if Valid xs then yss else []
theorem onVL_yes {xs : List Int} {yss : List (List Int)} (h : Valid xs) : onVL xs yss = yss := if_pos h
theorem onVL_no {xs : List Int} {yss : List (List Int)} (h : ¬ Valid xs) : onVL xs yss = [] := if_neg h

end Go.Proofs.Ytjgaglfinpeeoac

/- Inverses of orders: they are orders, and their products rise. No condition. -/
namespace Go.Proofs.Ytjgaglfinpeeoac

theorem inv_length (xs : List Int) : (inv xs).length = xs.length := inv_len xs xs.length

/-- Each value has a place. -/
theorem Valid.place {xs : List Int} (h : Valid xs) {v : Nat} (hv : v < xs.length) : ∃ k, k < xs.length ∧ el xs k = v := by
  have hc := (count_valid h.len (fun j hj => ⟨h.lo j hj, h.hi j hj⟩)).2 h v (by have := h.len; omega)
  rw [if_pos hv] at hc
  have hm : (v : Int) ∈ xs := List.count_pos_iff.1 (by omega)
  obtain ⟨k, hk, he⟩ := List.mem_iff_getElem.1 hm
  exact ⟨k, hk, by rw [el_lt hk]; exact he⟩

/-- The inverse at a value is its place. -/
theorem inv_el {xs : List Int} (h : Valid xs) {k : Nat} (hk : k < xs.length) : el (inv xs) (el xs k).toNat = k := by
  have key : ∀ m, m ≤ xs.length → ∀ j, j < m → el (iter (fun (a : List Int) k => a.set (el xs k).toNat (k : Int)) (List.replicate xs.length 0) m) (el xs j).toNat = j := by
    intro m
    induction m with
    | zero => intro _ j hj; omega
    | succ m ih =>
      intro hm j hj
      have hmlo := h.lo m (by omega)
      have hmhi := h.hi m (by omega)
      rw [iter]
      by_cases e : j = m
      · rw [e, el_set_same (by rw [inv_len]; omega)]
      · have hjlo := h.lo j (by omega)
        have := h.ne j m (by omega) (by omega)
        rw [el_set_ne (by omega), ih (by omega) j (by omega)]
  exact key xs.length (Nat.le_refl _) k hk

theorem inv_at {xs : List Int} (h : Valid xs) {v : Nat} (hv : v < xs.length) : ∃ k, k < xs.length ∧ el xs k = v ∧ el (inv xs) v = k := by
  obtain ⟨k, hk, he⟩ := h.place hv
  have := inv_el h hk
  rw [he, Int.toNat_natCast] at this
  exact ⟨k, hk, he, this⟩

theorem inv_valid {xs : List Int} (h : Valid xs) : Valid (inv xs) := by
  refine ⟨by rw [inv_length]; exact h.len, fun j hj => ?_, fun j hj => ?_, fun i j hij hj => ?_⟩
  · rw [inv_length] at hj
    obtain ⟨k, hk, _, he⟩ := inv_at h hj
    rw [he]; omega
  · rw [inv_length] at hj ⊢
    obtain ⟨k, hk, _, he⟩ := inv_at h hj
    rw [he]; omega
  · rw [inv_length] at hj
    obtain ⟨k, hk, h1, he⟩ := inv_at h hj
    obtain ⟨k2, hk2, h2, he2⟩ := inv_at h (show i < xs.length by omega)
    rw [he, he2]
    intro e
    have : k2 = k := by omega
    rw [this] at h2
    omega

theorem comp_inv {xs : List Int} (h : Valid xs) : comp xs (inv xs) = rise xs.length := by
  refine ext_el (by rw [comp, map_range_len, inv_length, rise_len]) (fun j hj => ?_)
  rw [comp, map_range_len, inv_length] at hj
  obtain ⟨k, hk, h1, he⟩ := inv_at h hj
  rw [comp, el_map (by rw [inv_length]; exact hj), he, Int.toNat_natCast, h1, rise, el_map hj]

theorem inv_inv {xs : List Int} (h : Valid xs) : inv (inv xs) = xs := by
  refine ext_el (by rw [inv_length, inv_length]) (fun j hj => ?_)
  rw [inv_length, inv_length] at hj
  have hlo := h.lo j hj
  have hhi := h.hi j hj
  obtain ⟨v, hv⟩ := Int.eq_ofNat_of_zero_le hlo
  have h1 := inv_el h hj
  rw [hv, Int.toNat_natCast] at h1
  have h2 := inv_el (inv_valid h) (k := v) (by rw [inv_length]; omega)
  rw [h1, Int.toNat_natCast] at h2
  rw [h2, hv]

end Go.Proofs.Ytjgaglfinpeeoac

/- Circles of orders: each value comes back, circles share no value or are the same. No condition. -/
namespace Go.Proofs.Ytjgaglfinpeeoac

/-- The value after t steps from x. -/
def itr (xs : List Int) (x : Int) : Nat → Int
  | 0 => x
  | t + 1 => el xs (itr xs x t).toNat
/-- The first return among the next f steps. -/
def perF (xs : List Int) (x : Int) : Nat → Nat → Nat
  | 0, t => t
  | f + 1, t => if itr xs x t = x then t else perF xs x f (t + 1)
def per (xs : List Int) (x : Int) : Nat := perF xs x xs.length 1
def cyc (xs : List Int) (x : Int) : List Int := (List.range (per xs x)).map (itr xs x)

theorem itr_in {xs : List Int} (h : Valid xs) {x : Int} (hx : 0 ≤ x ∧ x < xs.length) : ∀ t, 0 ≤ itr xs x t ∧ itr xs x t < xs.length := by
  intro t
  induction t with
  | zero => exact hx
  | succ t ih => rw [itr]; exact ⟨h.lo _ (by omega), h.hi _ (by omega)⟩
theorem itr_add (xs : List Int) (x : Int) (a : Nat) : ∀ b, itr xs x (a + b) = itr xs (itr xs x a) b := by
  intro b
  induction b with
  | zero => rfl
  | succ b ih => rw [← Nat.add_assoc, itr, ih, itr]
theorem el_inj {xs : List Int} (h : Valid xs) {a b : Int} (ha : 0 ≤ a ∧ a < xs.length) (hb : 0 ≤ b ∧ b < xs.length) (e : el xs a.toNat = el xs b.toNat) : a = b := by
  rcases Nat.lt_trichotomy a.toNat b.toNat with h1 | h1 | h1
  · exact absurd e (h.ne _ _ h1 (by omega))
  · omega
  · exact absurd e.symm (h.ne _ _ h1 (by omega))
theorem itr_back {xs : List Int} (h : Valid xs) {x : Int} (hx : 0 ≤ x ∧ x < xs.length) : ∀ i d, itr xs x i = itr xs x (i + d) → itr xs x d = x := by
  intro i
  induction i with
  | zero => intro d e; rw [Nat.zero_add] at e; exact e.symm
  | succ i ih =>
    intro d e
    rw [show i + 1 + d = i + d + 1 by omega, itr, itr] at e
    exact ih d (el_inj h (itr_in h hx _) (itr_in h hx _) e)

theorem nodup_len : ∀ (n : Nat) (L : List Int), L.Nodup → (∀ y ∈ L, 0 ≤ y ∧ y < n) → L.length ≤ n := by
  intro n
  induction n with
  | zero =>
    intro L _ h
    cases L with
    | nil => simp
    | cons a l => have := h a (by simp); omega
  | succ n ih =>
    intro L hn h
    by_cases hm : (n : Int) ∈ L
    · have h1 := ih (L.erase n) (hn.erase _) (fun y hy => by
        have h2 := h y (List.mem_of_mem_erase hy)
        have h3 : y ≠ n := fun e => by rw [e] at hy; exact (List.Nodup.not_mem_erase hn) hy
        omega)
      have h4 := List.length_erase_of_mem hm
      omega
    · have := ih L hn (fun y hy => by
        have h2 := h y hy
        have h3 : y ≠ n := fun e => hm (e ▸ hy)
        omega)
      omega

theorem comes_back {xs : List Int} (h : Valid xs) {x : Int} (hx : 0 ≤ x ∧ x < xs.length) : ∃ t, 1 ≤ t ∧ t ≤ xs.length ∧ itr xs x t = x := by
  apply Classical.byContradiction
  intro hno
  have hn : ((List.range (xs.length + 1)).map (itr xs x)).Nodup := by
    rw [List.nodup_iff_pairwise_ne, List.pairwise_map]
    refine List.Pairwise.imp_of_mem ?_ List.pairwise_lt_range
    intro i j hi hj hij e
    have hj' := List.mem_range.1 hj
    refine hno ⟨j - i, by omega, by omega, itr_back h hx i (j - i) ?_⟩
    rw [show i + (j - i) = j by omega]
    exact e
  have := nodup_len xs.length _ hn (fun y hy => by
    obtain ⟨t, _, rfl⟩ := List.mem_map.1 hy
    exact itr_in h hx t)
  rw [List.length_map, List.length_range] at this
  omega

theorem perF_spec (xs : List Int) (x : Int) : ∀ f t, (∃ s, t ≤ s ∧ s < t + f ∧ itr xs x s = x) → t ≤ perF xs x f t ∧ perF xs x f t < t + f ∧ itr xs x (perF xs x f t) = x ∧ ∀ s, t ≤ s → s < perF xs x f t → itr xs x s ≠ x := by
  intro f
  induction f with
  | zero => rintro t ⟨s, h1, h2, _⟩; omega
  | succ f ih =>
    rintro t ⟨s, h1, h2, h3⟩
    rw [perF]
    by_cases e : itr xs x t = x
    · rw [if_pos e]; exact ⟨Nat.le_refl _, by omega, e, fun s h1 h2 => by omega⟩
    · rw [if_neg e]
      have hs : s ≠ t := fun e2 => e (e2 ▸ h3)
      obtain ⟨a, b, c, d⟩ := ih (t + 1) ⟨s, by omega, by omega, h3⟩
      refine ⟨by omega, by omega, c, fun s h1 h2 => ?_⟩
      by_cases e2 : s = t
      · rw [e2]; exact e
      · exact d s (by omega) h2
theorem per_spec {xs : List Int} (h : Valid xs) {x : Int} (hx : 0 ≤ x ∧ x < xs.length) : 1 ≤ per xs x ∧ per xs x ≤ xs.length ∧ itr xs x (per xs x) = x ∧ ∀ s, 1 ≤ s → s < per xs x → itr xs x s ≠ x := by
  obtain ⟨t, h1, h2, h3⟩ := comes_back h hx
  obtain ⟨a, b, c, d⟩ := perF_spec xs x xs.length 1 ⟨t, h1, by omega, h3⟩
  exact ⟨a, by unfold per; omega, c, d⟩

theorem cyc_len (xs : List Int) (x : Int) : (cyc xs x).length = per xs x := map_range_len _
theorem el_cyc {xs : List Int} {x : Int} {j : Nat} (h : j < per xs x) : el (cyc xs x) j = itr xs x j := el_map h
theorem itr_per {xs : List Int} (h : Valid xs) {x : Int} (hx : 0 ≤ x ∧ x < xs.length) : ∀ q t, itr xs x (q * per xs x + t) = itr xs x t := by
  intro q
  induction q with
  | zero => intro t; rw [Nat.zero_mul, Nat.zero_add]
  | succ q ih =>
    intro t
    rw [Nat.succ_mul, Nat.add_assoc, ih, itr_add, (per_spec h hx).2.2.1]
theorem mem_cyc {xs : List Int} (h : Valid xs) {x : Int} (hx : 0 ≤ x ∧ x < xs.length) {y : Int} : y ∈ cyc xs x ↔ ∃ t, itr xs x t = y := by
  have hp := per_spec h hx
  rw [cyc, List.mem_map]
  constructor
  · rintro ⟨t, _, e⟩; exact ⟨t, e⟩
  · rintro ⟨t, e⟩
    refine ⟨t % per xs x, List.mem_range.2 (Nat.mod_lt _ (by omega)), ?_⟩
    rw [← e]
    conv => rhs; rw [← Nat.div_add_mod t (per xs x), Nat.mul_comm]
    exact (itr_per h hx _ _).symm
theorem cyc_in {xs : List Int} (h : Valid xs) {x : Int} (hx : 0 ≤ x ∧ x < xs.length) {y : Int} (hy : y ∈ cyc xs x) : 0 ≤ y ∧ y < xs.length := by
  obtain ⟨t, rfl⟩ := (mem_cyc h hx).1 hy
  exact itr_in h hx t
theorem cyc_self {xs : List Int} (h : Valid xs) {x : Int} (hx : 0 ≤ x ∧ x < xs.length) : x ∈ cyc xs x := (mem_cyc h hx).2 ⟨0, rfl⟩
theorem cyc_symm {xs : List Int} (h : Valid xs) {x y : Int} (hx : 0 ≤ x ∧ x < xs.length) (hy : y ∈ cyc xs x) : x ∈ cyc xs y := by
  have hp := per_spec h hx
  have hyi := cyc_in h hx hy
  rw [cyc, List.mem_map] at hy
  obtain ⟨t, ht, rfl⟩ := hy
  have ht' := List.mem_range.1 ht
  refine (mem_cyc h hyi).2 ⟨per xs x - t, ?_⟩
  rw [← itr_add, show t + (per xs x - t) = per xs x by omega]
  exact hp.2.2.1
theorem cyc_trans {xs : List Int} (h : Valid xs) {x y z : Int} (hx : 0 ≤ x ∧ x < xs.length) (hy : y ∈ cyc xs x) (hz : z ∈ cyc xs y) : z ∈ cyc xs x := by
  have hyi := cyc_in h hx hy
  obtain ⟨t, rfl⟩ := (mem_cyc h hx).1 hy
  obtain ⟨s, rfl⟩ := (mem_cyc h hyi).1 hz
  exact (mem_cyc h hx).2 ⟨t + s, itr_add _ _ _ _⟩

/-- Is x the least value of its circle? -/
def lea (xs : List Int) (x : Int) : Bool := (cyc xs x).all fun z => decide (x ≤ z)
/-- The circles of the first k values that are the least ones of theirs. -/
def ciP (xs : List Int) : Nat → List (List Int)
  | 0 => []
  | k + 1 => if lea xs k then ciP xs k ++ [cyc xs k] else ciP xs k
def circles (xs : List Int) : List (List Int) := ciP xs xs.length
theorem ciP_yes {xs : List Int} {k : Nat} (h : lea xs k = true) : ciP xs (k + 1) = ciP xs k ++ [cyc xs k] := by rw [ciP, if_pos h]
theorem ciP_no {xs : List Int} {k : Nat} (h : lea xs k = false) : ciP xs (k + 1) = ciP xs k := by rw [ciP, h]; simp
theorem ciP_len (xs : List Int) (k : Nat) : (ciP xs k).length ≤ k := by
  induction k with
  | zero => simp [ciP]
  | succ k ih =>
    rw [ciP]
    split
    · rw [List.length_append, List.length_singleton]; omega
    · omega
/-- Is v in the circle of one of the first k values? -/
def sn (xs : List Int) (k v : Nat) : Bool := (List.range k).any fun (y : Nat) => decide ((v : Int) ∈ cyc xs (y : Int))
theorem sn_zero (xs : List Int) (v : Nat) : sn xs 0 v = false := rfl
theorem sn_succ (xs : List Int) (k v : Nat) : sn xs (k + 1) v = (sn xs k v || decide ((v : Int) ∈ cyc xs (k : Int))) := by
  rw [sn, List.range_succ, List.any_append]; simp [sn]
theorem sn_iff (xs : List Int) (k v : Nat) : sn xs k v = true ↔ ∃ y : Nat, y < k ∧ (v : Int) ∈ cyc xs (y : Int) := by
  simp [sn]
theorem sn_lea {xs : List Int} (h : Valid xs) {k : Nat} (hk : k < xs.length) : sn xs k k = !lea xs (k : Int) := by
  have hki : 0 ≤ (k : Int) ∧ (k : Int) < xs.length := ⟨by omega, by omega⟩
  rw [Bool.eq_iff_iff, sn_iff, Bool.not_eq_true', lea, List.all_eq_false]
  constructor
  · rintro ⟨y, hy, hm⟩
    have hyi : 0 ≤ (y : Int) ∧ (y : Int) < xs.length := ⟨by omega, by omega⟩
    exact ⟨(y : Int), cyc_symm h hyi hm, by simp; omega⟩
  · rintro ⟨z, hz, hlt⟩
    have hzi := cyc_in h hki hz
    simp only [decide_eq_true_eq] at hlt
    refine ⟨z.toNat, by omega, ?_⟩
    rw [show ((z.toNat : Nat) : Int) = z by omega]
    exact cyc_symm h hki hz
theorem sn_same {xs : List Int} (h : Valid xs) {k : Nat} (hk : k < xs.length) (hs : lea xs (k : Int) = false) (v : Nat) : sn xs (k + 1) v = sn xs k v := by
  have h1 : sn xs k k = true := by rw [sn_lea h hk, hs]; rfl
  rw [sn_succ]
  by_cases hv : (v : Int) ∈ cyc xs (k : Int)
  · obtain ⟨y, hy, hm⟩ := (sn_iff xs k k).1 h1
    have hyi : 0 ≤ (y : Int) ∧ (y : Int) < xs.length := ⟨by omega, by omega⟩
    rw [(sn_iff xs k v).2 ⟨y, hy, cyc_trans h hyi hm hv⟩]; rfl
  · simp [hv]

end Go.Proofs.Ytjgaglfinpeeoac

/- Whether numbers are a table, in the program and in its model. Condition: the list's cells can be read. -/
namespace Go.Proofs.Ytjgaglfinpeeoac
open Go.RowKit

end Go.Proofs.Ytjgaglfinpeeoac

/- The order of a table: the values that are left, in their order. No condition. -/
namespace Go.Proofs.Ytjgaglfinpeeoac

/-- The values that are left behind the first k places. -/
def leP (ts : List Int) : Nat → List Int
  | 0 => rise ts.length
  | k + 1 => (leP ts k).eraseIdx (el ts k).toNat
def ordT (ts : List Int) : List Int := (List.range ts.length).map fun k => el (leP ts k) (el ts k).toNat

theorem rise_pw (n : Nat) : (rise n).Pairwise (· < ·) := by
  rw [rise, List.pairwise_map]
  exact List.pairwise_lt_range.imp (fun h => by omega)
theorem rise_mem {n : Nat} {x : Int} : x ∈ rise n ↔ 0 ≤ x ∧ x < n := by
  rw [rise, List.mem_map]
  constructor
  · rintro ⟨k, hk, rfl⟩
    have := List.mem_range.1 hk
    omega
  · rintro ⟨h1, h2⟩
    exact ⟨x.toNat, List.mem_range.2 (by omega), by omega⟩
theorem leP_sub (ts : List Int) (k : Nat) : (leP ts k).Sublist (rise ts.length) := by
  induction k with
  | zero => exact List.Sublist.refl _
  | succ k ih => exact (List.eraseIdx_sublist _ _).trans ih
theorem leP_pw (ts : List Int) (k : Nat) : (leP ts k).Pairwise (· < ·) := (rise_pw _).sublist (leP_sub ts k)
theorem leP_mem {ts : List Int} {k : Nat} {x : Int} (h : x ∈ leP ts k) : 0 ≤ x ∧ x < ts.length := rise_mem.1 ((leP_sub ts k).subset h)
theorem vt_nat {ts : List Int} (h : VT ts) {k : Nat} (hk : k < ts.length) : ((el ts k).toNat : Int) = el ts k ∧ (el ts k).toNat + k < ts.length := by
  have h1 := h.lo k hk
  have h2 := h.hi k hk
  omega
theorem leP_len {ts : List Int} (h : VT ts) : ∀ k, k ≤ ts.length → (leP ts k).length = ts.length - k := by
  intro k
  induction k with
  | zero => intro _; simp [leP, rise_len]
  | succ k ih =>
    intro hk
    have h1 := ih (by omega)
    have h2 := vt_nat h (k := k) (by omega)
    rw [leP, List.length_eraseIdx, if_pos (by omega), h1]
    omega

/-- How many numbers of a list are less than x. -/
def less (L : List Int) (x : Int) : Nat := L.countP fun y => decide (y < x)
theorem less_succ (L : List Int) (x : Int) : less L (x + 1) = less L x + L.count x := by
  induction L with
  | nil => rfl
  | cons a l ih =>
    unfold less at *
    rw [List.countP_cons, List.countP_cons, ih, List.count_cons]
    by_cases h1 : a < x
    · have h2 : a < x + 1 := by omega
      have h3 : ¬ a = x := by omega
      simp [h1, h2, h3]; omega
    · by_cases h3 : a = x
      · subst h3
        have h2 : a < a + 1 := by omega
        simp [h2]; omega
      · have h2 : ¬ a < x + 1 := by omega
        simp [h1, h2, h3]
theorem erase_perm {L : List Int} {i : Nat} (hi : i < L.length) : (L[i] :: L.eraseIdx i).Perm L := by
  have e : L = L.take i ++ L[i] :: L.drop (i + 1) := by
    rw [← List.drop_eq_getElem_cons hi, List.take_append_drop]
  have h := (List.perm_middle (a := L[i]) (l₁ := L.take i) (l₂ := L.drop (i + 1))).symm
  rw [← e, ← List.eraseIdx_eq_take_drop_succ] at h
  exact h
theorem pw_nodup {L : List Int} (h : L.Pairwise (· < ·)) : L.Nodup := h.imp (fun h => by omega)
theorem less_in {L : List Int} (h : L.Pairwise (· < ·)) {x : Int} (hx : x ∈ L) : less L (x + 1) = less L x + 1 := by
  rw [less_succ, List.Nodup.count (pw_nodup h), if_pos hx]
theorem less_out {L : List Int} {x : Int} (hx : x ∉ L) : less L (x + 1) = less L x := by
  rw [less_succ, List.count_eq_zero_of_not_mem hx]; rfl
theorem less_none {L : List Int} {x : Int} (h : ∀ y ∈ L, x ≤ y) : less L x = 0 := by
  rw [less, List.countP_eq_zero]
  intro y hy
  have := h y hy
  simp; omega
theorem less_all {L : List Int} {x : Int} (h : ∀ y ∈ L, y < x) : less L x = L.length := by
  rw [less, List.countP_eq_length]
  intro y hy
  simpa using h y hy
theorem less_at {L : List Int} (h : L.Pairwise (· < ·)) : ∀ i, i < L.length → less L (el L i) = i := by
  induction L with
  | nil => intro i hi; simp at hi
  | cons a l ih =>
    intro i hi
    rw [List.pairwise_cons] at h
    cases i with
    | zero =>
      refine less_none (fun y hy => ?_)
      have e : el (a :: l) 0 = a := rfl
      rw [e]
      rcases List.mem_cons.1 hy with rfl | hy
      · omega
      · have := h.1 y hy; omega
    | succ i =>
      have e : el (a :: l) (i + 1) = el l i := by simp [el]
      have hi' : i < l.length := by simpa using hi
      have ha := h.1 (el l i) (el_mem hi')
      rw [e]
      have := ih h.2 i hi'
      unfold less at *
      rw [List.countP_cons, this]
      simp [ha]
theorem less_find {L : List Int} (h : L.Pairwise (· < ·)) {x : Int} (hx : x ∈ L) : less L x < L.length ∧ el L (less L x) = x := by
  obtain ⟨i, hi, rfl⟩ := List.mem_iff_getElem.1 hx
  have e : el L i = L[i] := el_lt hi
  have := less_at h i hi
  rw [e] at this
  rw [this]
  exact ⟨hi, e⟩
theorem less_perm {L M : List Int} (h : L.Perm M) (x : Int) : less L x = less M x := h.countP_eq _
theorem erase_mem {L : List Int} (h : L.Nodup) {i : Nat} (hi : i < L.length) {y : Int} : y ∈ L.eraseIdx i ↔ y ∈ L ∧ y ≠ el L i := by
  have hp : (el L i :: L.eraseIdx i).Perm L := by rw [el_lt hi]; exact erase_perm hi
  have hn : (el L i :: L.eraseIdx i).Nodup := hp.nodup_iff.2 h
  rw [List.nodup_cons] at hn
  rw [← hp.mem_iff, List.mem_cons]
  constructor
  · intro hy
    exact ⟨Or.inr hy, fun e => hn.1 (e ▸ hy)⟩
  · rintro ⟨h1, h2⟩
    exact h1.resolve_left h2

theorem ordT_len (ts : List Int) : (ordT ts).length = ts.length := by simp [ordT]
theorem el_ordT {ts : List Int} {k : Nat} (h : k < ts.length) : el (ordT ts) k = el (leP ts k) (el ts k).toNat := by rw [ordT, el_map h]

theorem drop_el {xs : List Int} {k : Nat} (h : k < xs.length) : xs.drop k = el xs k :: xs.drop (k + 1) := by
  rw [List.drop_eq_getElem_cons h, el_lt h]
theorem leP_step {ts : List Int} (h : VT ts) {k : Nat} (hk : k < ts.length) : (el (ordT ts) k :: leP ts (k + 1)).Perm (leP ts k) := by
  have h1 := vt_nat h hk
  have h2 := leP_len h k (by omega)
  rw [el_ordT hk, leP, el_lt (by omega)]
  exact erase_perm _
theorem ordT_drop {ts : List Int} (h : VT ts) : ∀ m, m ≤ ts.length → ((ordT ts).drop (ts.length - m)).Perm (leP ts (ts.length - m)) := by
  intro m
  induction m with
  | zero =>
    intro _
    have h1 := leP_len h ts.length (Nat.le_refl _)
    have h2 : leP ts ts.length = [] := List.eq_nil_of_length_eq_zero (by omega)
    rw [Nat.sub_zero, h2, List.drop_eq_nil_of_le (by rw [ordT_len]; omega)]
  | succ m ih =>
    intro hm
    have hk : ts.length - (m + 1) < ts.length := by omega
    have e : ts.length - (m + 1) + 1 = ts.length - m := by omega
    rw [drop_el (by rw [ordT_len]; omega), e]
    have := leP_step h hk
    rw [e] at this
    exact ((ih (by omega)).cons _).trans this
theorem ordT_perm {ts : List Int} (h : VT ts) {k : Nat} (hk : k ≤ ts.length) : ((ordT ts).drop k).Perm (leP ts k) := by
  have := ordT_drop h (ts.length - k) (by omega)
  rwa [show ts.length - (ts.length - k) = k by omega] at this

/-- How many of the numbers behind place k are less: as the table has it. -/
theorem cnt_less (xs : List Int) (x : Int) (b : Nat) : ∀ t, b + t ≤ xs.length → cntP (fun j => decide (el xs (b + j) < x)) t = less ((xs.drop b).take t) x := by
  intro t
  induction t with
  | zero => intro _; simp [cntP, less]
  | succ t ih =>
    intro ht
    have e : (xs.drop b).take (t + 1) = (xs.drop b).take t ++ [el xs (b + t)] := by
      rw [take_el (by simp; omega)]
      congr 1
      simp [el]
    rw [cntP, ih (by omega), e, less, less, List.countP_append, List.countP_singleton]
    split <;> simp
theorem lb_less {xs : List Int} {k : Nat} (hk : k < xs.length) : lb xs k = less (xs.drop (k + 1)) (el xs k) := by
  rw [lb, lbP, cnt_less xs (el xs k) (k + 1) (xs.length - 1 - k) (by omega), List.take_of_length_le (by simp; omega)]

theorem table_ordT {ts : List Int} (h : VT ts) : table (ordT ts) = ts := by
  refine ext_el (by rw [table_len, ordT_len]) (fun k hk => ?_)
  rw [table_len, ordT_len] at hk
  have h1 := vt_nat h hk
  have h2 := leP_len h k (by omega)
  have hlt : (el ts k).toNat < (leP ts k).length := by omega
  rw [el_table (by rw [ordT_len]; exact hk), lb_less (by rw [ordT_len]; exact hk), less_perm (ordT_perm h (by omega)) _]
  have e1 := less_perm (leP_step h hk) (el (ordT ts) k)
  have e2 : less (el (ordT ts) k :: leP ts (k + 1)) (el (ordT ts) k) = less (leP ts (k + 1)) (el (ordT ts) k) := by
    unfold less
    rw [List.countP_cons]
    simp
  rw [e2] at e1
  rw [e1, el_ordT hk, less_at (leP_pw ts k) _ hlt]
  exact h1.1

theorem ordT_valid {ts : List Int} (h : VT ts) : Valid (ordT ts) := by
  have hp := ordT_perm h (Nat.zero_le _)
  rw [List.drop_zero] at hp
  have hl := ordT_len ts
  have hn : (ordT ts).Nodup := hp.nodup_iff.2 (pw_nodup (rise_pw _))
  have hm : ∀ j, j < (ordT ts).length → 0 ≤ el (ordT ts) j ∧ el (ordT ts) j < ts.length := fun j hj => rise_mem.1 (hp.mem_iff.1 (el_mem hj))
  refine ⟨by rw [hl]; exact h.len, fun j hj => (hm j hj).1, fun j hj => by rw [hl]; exact (hm j hj).2, fun i j hij hj e => ?_⟩
  rw [el_lt (by omega), el_lt hj] at e
  have := (List.nodup_iff_pairwise_ne.1 hn)
  rw [List.pairwise_iff_getElem] at this
  exact this i j (by omega) hj hij e

theorem table_vt {xs : List Int} (h : Valid xs) : VT (table xs) := by
  refine ⟨by rw [table_len]; exact h.len, fun j hj => ?_, fun j hj => ?_⟩
  · exact (table_bd xs j hj).1
  · rw [table_len] at hj ⊢
    rw [el_table hj]
    have := lbP_bd xs j (xs.length - 1 - j)
    unfold lb
    omega

theorem valid_perm {xs : List Int} (h : Valid xs) : xs.Perm (rise xs.length) := by
  refine (List.perm_ext_iff_of_nodup h.nodup (pw_nodup (rise_pw _))).2 (fun x => ?_)
  rw [rise_mem]
  constructor
  · intro hx; exact h.mem hx
  · rintro ⟨h0, h1⟩
    obtain ⟨j, hj, e⟩ := h.place (v := x.toNat) (by omega)
    have e2 : el xs j = x := by omega
    exact e2 ▸ el_mem hj

theorem leP_table {xs : List Int} (h : Valid xs) : ∀ k, k ≤ xs.length → (leP (table xs) k).Perm (xs.drop k) ∧ ∀ j, j < k → el (leP (table xs) j) (el (table xs) j).toNat = el xs j := by
  intro k
  induction k with
  | zero =>
    intro _
    refine ⟨?_, fun j hj => by omega⟩
    rw [leP, table_len, List.drop_zero]
    exact (valid_perm h).symm
  | succ k ih =>
    intro hk
    obtain ⟨hp, hj⟩ := ih (by omega)
    have hx : el xs k ∈ leP (table xs) k := hp.mem_iff.2 (by rw [drop_el (by omega)]; simp)
    have e : less (leP (table xs) k) (el xs k) = (el (table xs) k).toNat := by
      rw [less_perm hp, drop_el (by omega), el_table (by omega), lb_less (by omega)]
      unfold less
      rw [List.countP_cons]
      simp
    have hf := less_find (leP_pw (table xs) k) hx
    rw [e] at hf
    refine ⟨?_, fun j hjk => ?_⟩
    · rw [leP]
      have h1 : (el xs k :: (leP (table xs) k).eraseIdx (el (table xs) k).toNat).Perm (leP (table xs) k) := by
        have := erase_perm hf.1
        rwa [← el_lt hf.1, hf.2] at this
      have h2 := h1.trans hp
      rw [drop_el (xs := xs) (k := k) (by omega)] at h2
      exact (List.perm_cons _).1 h2
    · by_cases e2 : j = k
      · rw [e2]; exact hf.2
      · exact hj j (by omega)
theorem ordT_table {xs : List Int} (h : Valid xs) : ordT (table xs) = xs := by
  refine ext_el (by rw [ordT_len, table_len]) (fun k hk => ?_)
  rw [ordT_len, table_len] at hk
  rw [el_ordT (by rw [table_len]; exact hk)]
  exact (leP_table h xs.length (Nat.le_refl _)).2 k hk

end Go.Proofs.Ytjgaglfinpeeoac

/- Appends in statements whose order of evaluation is open: the law of one append as one step, and how facts on lists fare over the steps. No condition. -/
namespace Go.Proofs.Ytjgaglfinpeeoac
open Go.RowKit

theorem Own.alloc {w : World} {B : Nat} {u : Value} {ys : List Int} (h : Own w B u ys) (o : Obj) : Own (w.alloc o) B u ys := World.ownsRow.alloc h o
theorem Own.drew {w : World} {B : Nat} {u : Value} {ys : List Int} (h : Own w B u ys) : Own w.drew B u ys := h
theorem Sl.drew {w : World} {ao : Option Addr} {n cap : Nat} {xs : List Int} (h : Sl w ao n cap xs) : Sl w.drew ao n cap xs := ⟨h.len, h.le, h.max, h.row⟩
theorem Sl.alloc {w : World} {ao : Option Addr} {n cap : Nat} {xs : List Int} (h : Sl w ao n cap xs) (o : Obj) : Sl (w.alloc o) ao n cap xs := h.later ((Below.refl _ _).alloc (Nat.le_refl _) o)
theorem Sl.new (w : World) (x : Int) : Sl (w.alloc (.cells #[.int .i64 x] 3)) (some ⟨w.heap.size, 0, none⟩) 1 1 [x] :=
  ⟨rfl, Nat.le_refl _, by unfold maxLen; omega, fun _ => ⟨_, _, rfl, by simp, fun j hj => by
    obtain rfl : j = 0 := by omega
    simp [el]⟩⟩
theorem Sl.grown {w w' : World} {g n cap : Nat} {xs : List Int} {row : Option Nat} (h : Sl w (some ⟨g, 0, none⟩) n cap xs) (hg : w.grownBy w' row) (hr : row ≠ some g) : Sl w' (some ⟨g, 0, none⟩) n cap xs := by
  refine ⟨h.len, h.le, h.max, fun hn => ?_⟩
  obtain ⟨b, off, he, hlt, hc⟩ := h.row hn
  simp only [Option.some.injEq, Addr.mk.injEq, and_true] at he
  obtain ⟨rfl, rfl⟩ := he
  exact ⟨_, _, rfl, Nat.lt_of_lt_of_le hlt hg.size, fun j hj => hg.cell (hc j hj) (fun e => hr e.symm)⟩

theorem Sl.take {w : World} {ao : Option Addr} {n cap k : Nat} {xs : List Int} (h : Sl w ao n cap xs) (hk : k ≤ n) : Sl w ao k cap (xs.take k) := by
  refine ⟨by rw [List.length_take, h.len]; omega, by have := h.le; omega, h.max, fun hn => ?_⟩
  obtain ⟨b, off, rfl, hlt, hc⟩ := h.row (by omega)
  refine ⟨b, off, rfl, hlt, fun j hj => ?_⟩
  rw [hc j (by omega)]
  simp [el, hj]
theorem Sl.dropIf {w : World} {ao : Option Addr} {n cap k : Nat} {xs : List Int} (h : Sl w ao n cap xs) (hk : k ≤ n) : Sl w (if cap = k then ao else Option.map (fun x => x.add k) ao) (n - k) (cap - k) (xs.drop k) := by
  refine ⟨by rw [List.length_drop, h.len], by have := h.le; omega, by have := h.max; omega, fun hn => ?_⟩
  obtain ⟨b, off, rfl, hlt, hc⟩ := h.row (by omega)
  rw [if_neg (by have := h.le; omega)]
  refine ⟨b, off + k, by rw [Option.map_some, Addr.add_lit], hlt, fun j hj => ?_⟩
  rw [Nat.add_assoc, hc (k + j) (by omega)]
  simp [el]
theorem drop_nil {ao : Option Addr} {cap k : Nat} (h : ao = none → cap = 0) : (if cap = k then ao else Option.map (fun x => x.add k) ao) = none → cap - k = 0 := by
  intro e
  split at e
  · have := h e; omega
  · rw [Option.map_eq_none_iff] at e
    have := h e; omega

/-- append(s, x...) as one step of a region. -/
theorem step_app {ops : Array Oper} {o : Oper} {a : Act} {w : World} {K : Act → World → Prop} {Q : Exit → Act → World → Prop} {E : Prop}
    (hg : o.guard = none) (s x : Operand) (hop : o.op = Op.call { callee := Callee.builtin Builtin.append, args := #[s, x], argTypes := #[28, 28] })
    (W0 : World) (u : Value) (ys : List Int) (hs : a.eval s = u) (hown : Own w W0.heap.size u ys) (ao : Option Addr) (n cap : Nat) (xs : List Int) (hx : a.eval x = .slice ao n cap) (hsl : Sl w ao n cap xs) (hnil : ao = none → cap = 0)
    (hlen : ys.length + n ≤ 2000000) (hb : Below W0.heap.size W0 w)
    (hK : ∀ u' w', Own w' W0.heap.size u' (ys ++ xs) → w.grownBy w' u.ownBlock → Below W0.heap.size W0 w' → K (a.put o.dst u') w') :
    if Region.wanted o (yielded ops a.tmps) = true then Oper.wp Try.prog o a w K Q else E := by
  have hw : Region.wanted o (yielded ops a.tmps) = true := by simp [Region.wanted, hg]
  rw [if_pos hw]
  obtain ⟨i0, hi, hz0, hz1, hz2⟩ := info_parts infoI
  have hl := hsl.len
  have hB := hb.size
  cases ao with
  | none =>
    have hn : n = 0 := by
      rcases Nat.eq_zero_or_pos n with h | h
      · exact h
      · obtain ⟨b, off, hb, _⟩ := hsl.row h
        cases hb
    subst hn
    have hc := hnil rfl
    subst hc
    have hxs : xs = [] := List.eq_nil_of_length_eq_zero hl
    subst hxs
    have hrun := run_append_owned_none (P := Try.prog) (w := w) W0.heap.size 28 o.type 3 i0 1 Try.underlying28 hi u ys.length _ hown
    unfold Oper.wp
    simp [execOp, hop, resolve, invoke, builtin, hs, hx, hrun, Result.andThen]
    exact hK u w (by rw [List.append_nil]; exact hown) (World.grownBy.refl _ _) hb
  | some ad =>
    have hnews : ∀ j t, (xs.map (Value.int .i64))[j]? = some t → w.cell? (ad.add j) = some t := by
      intro j t hj
      have hjn : j < n := by
        have := (List.getElem?_eq_some_iff.1 hj).1
        rw [List.length_map, hl] at this; exact this
      obtain ⟨b, off, hb, _, hc⟩ := hsl.row (by omega)
      obtain rfl := Option.some.inj hb
      rw [Addr.add_lit, hc j hjn]
      rw [List.getElem?_map, List.getElem?_eq_getElem (by omega)] at hj
      rw [el_lt (by omega)]
      exact hj
    obtain ⟨v', w', hrun, hown', hgrow, _⟩ := run_append_own (P := Try.prog) w W0.heap.size 28 o.type 3 i0 (.int .i64 0) 1 8 Try.underlying28 hi hz0 hz1 hz2 rfl (by decide) u ys.length _ hown ad n cap (xs.map (Value.int .i64)) (by simp [hl]) hnews (ints_oneCell _ _) (by unfold maxLen; omega) (by omega) hB
    unfold Oper.wp
    simp [execOp, hop, resolve, invoke, builtin, hs, hx, hrun, Result.andThen]
    refine hK v' w' ?_ hgrow (hb.grown hgrow hB (fun k hk => (hown.blocks k hk).1))
    unfold Own
    rw [List.length_append, List.map_append, hl]
    exact hown'

end Go.Proofs.Ytjgaglfinpeeoac

/- Orders of tables, in the program and in its model. Condition: the list's cells can be read. -/
namespace Go.Proofs.Ytjgaglfinpeeoac
open Go.RowKit

/-- What a function of tables answers. -/
def onVT (ts zs : List Int) : List Int := if VT ts then zs else []
def isVT (ts : List Int) : Bool := decide (VT ts)
theorem onVT_yes {ts zs : List Int} (h : VT ts) : onVT ts zs = zs := if_pos h
theorem onVT_no {ts zs : List Int} (h : ¬ VT ts) : onVT ts zs = [] := if_neg h
theorem isVT_yes {ts : List Int} (h : VT ts) : isVT ts = true := decide_eq_true h
theorem isVT_no {ts : List Int} (h : ¬ VT ts) : isVT ts = false := decide_eq_false h

/-- What ofTable appends at place k. -/
def tabG (ts : List Int) (k : Nat) : Int := el (leP ts k) (el ts k).toNat

set_option maxHeartbeats 2000000 in
theorem ofTable_any (ao : Option Addr) (n cap : Nat) (xs : List Int) (w : World) (h : Sl w ao n cap xs) (hv : VT xs) :
    Calls Try.prog 108 #[.slice ao n cap] w (Made w (ordT xs)) := by
  have hbig := h.big
  have hlen := hid h.len
  have h7 : n ≤ 7 := by have := hv.len; rw [hlen.out] at this; exact this
  have Hv := hid hv
  clear hv
  go_enter Try.func108, Try.ntmps108
  go_wp2_with fail
  refine (rising_any _ _ (by omega)).mono ?_
  rintro e w1 ⟨u1, rfl, ho1, hb1⟩
  obtain ⟨aL, cL, rfl, hsL⟩ := ho1.sl
  rw [rise_len] at ho1 hsL ⊢
  clear hsL
  go_wp2
  go_loopw [3, 4, 5] (fun l v i wr => ∃ (k m : Nat) (aL ao' : Option Addr) (cL cap' : Nat), k ≤ n ∧ Hid (m = n - k) ∧ l = .slice aL m cL ∧ v = .slice ao' k cap' ∧ i = .int .i64 k ∧ Below w.heap.size w wr ∧ Own wr w.heap.size (.slice aL m cL) (leP xs k) ∧ Own wr w.heap.size (.slice ao' k cap') ((List.range k).map (tabG xs)) ∧ ((Value.slice aL m cL).ownBlock = none ∨ (Value.slice aL m cL).ownBlock ≠ (Value.slice ao' k cap').ownBlock))
    (fun _ _ i _ => n - (intOf i).toNat)
  case atStart =>
    refine ⟨0, n, aL, _, cL, _, Nat.zero_le _, rfl, rfl, rfl, rfl, hb1.alloc hb1.size _, ?_, own_lit_at hb1.size, ho1.apart (own_lit w1) (Nat.le_refl _)⟩
    rw [leP, hlen.out]
    exact ho1.alloc _
  case round =>
    obtain ⟨k, m, aL, ao', cL, cap', hk, hm, rfl, rfl, rfl, hbr, hoL, ho, hap⟩ := hrel
    by_cases hlt : k < n
    · obtain ⟨b, off, rfl, hblt, hc⟩ := h.row (by omega)
      have hsz := hbr.size
      have hl : ((List.range k).map (tabG xs)).length ≤ 2000000 := by rw [map_range_len]; omega
      have htv := vt_nat Hv.out (k := k) (by rw [hlen.out]; exact hlt)
      rw [hlen.out] at htv
      obtain ⟨t, htt⟩ : ∃ t, t = (el xs k).toNat := ⟨_, rfl⟩
      rw [← htt] at htv
      have Htt := hid htt
      have htm : t < m := by have := hm.out; omega
      have hm7 : m ≤ 7 := by have := hm.out; omega
      have hcell : wr.cell? ⟨b, off + k, none⟩ = some (.int .i64 (t : Int)) := by rw [htv.1]; exact (hbr.cell (p := ⟨b, off + k, none⟩) hblt).trans (hc k hlt)
      obtain ⟨bL, oL, rfl, hltL, hcL⟩ := hoL.read.row (by omega)
      have hcellL := hcL t htm
      have hi1 : (k : Int) < n := by omega
      have hi2 : (t : Int) < m := by omega
      have hcLm := hoL.read.le
      have hcmax : cL ≤ 9223372036854775807 := by have := hoL.read.max; unfold maxLen at this; omega
      clear hc hcL htt htv
      go_wp2_with (at_builtin; refine app_int _ _ rfl _ _ rfl w.heap.size _ _ rfl ho rfl hl hsz ?_)
      intro u' w' ho' hg'
      have hb' := below_app hbr ho hg'
      have hoL' := hoL.kept hg' hap
      obtain ⟨ao', cap', rfl, hs'⟩ := ho'.sl
      have eG : el (leP xs k) t = tabG xs k := by rw [tabG, ← Htt.out]
      rw [eG, ← map_range_succ (tabG xs), map_range_len] at ho'
      rw [eG, ← map_range_succ (tabG xs), map_range_len]
      have hsL' := hoL'.read
      have hcell' : w'.cell? ⟨b, off + k, none⟩ = some (.int .i64 (t : Int)) := by
        have h1 := (hb'.cell (p := ⟨b, off + k, none⟩) hblt)
        have h2 := (hbr.cell (p := ⟨b, off + k, none⟩) hblt)
        rw [h1, ← h2]; exact hcell
      have hbw : b < w'.heap.size := Nat.lt_of_lt_of_le hblt hb'.size
      have hnL := hoL'.nilcap
      have HlL := hid hsL'.len
      have hi3 : (t : Int) ≤ cL := by omega
      have hi4 : (t : Int) + 1 ≤ m := by omega
      have hwt : IntKind.i64.wrap ((t : Int) + 1) = (t : Int) + 1 := IntWalk.i64_in _ ⟨by omega, by omega⟩
      have htn : ((t : Int) + 1).toNat = t + 1 := by omega
      have ht0 : 0 ≤ (t : Int) + 1 := by omega
      clear eG hs' hcellL hcell hg' ho hoL
      go_wp2_with fail
      go_region_law (first
        | (refine step_app rfl (.tmp 26) (.tmp 32) rfl w' (.slice (some ⟨w'.heap.size, 0, none⟩) 0 0) [] rfl (by first | exact own_lit_at (Nat.le_refl _) | exact (own_lit_at (Nat.le_refl _)).drew) (some ⟨bL, oL, none⟩) t cL ((leP xs k).take t) rfl (by first | exact ((hsL'.take (by omega)).drew).alloc _ | exact ((hsL'.take (by omega)).alloc _).drew) hnL (by simp; omega) (by go_grown) ?_
           intro u1 wa ho1 hg1 hb1x
           have hcella := (hb1x.cell (p := ⟨b, off + k, none⟩) hbw).trans hcell')
        | (refine step_app rfl (.tmp 33) (.tmp 40) rfl w' u1 ((leP xs k).take t) rfl (by first | exact ho1 | exact ho1.drew) _ (m - (t + 1)) (cL - (t + 1)) ((leP xs k).drop (t + 1)) rfl ((hsL'.below (Nat.le_refl _) hb1x).dropIf (by omega)) (drop_nil hnL) (by rw [List.length_take, HlL.out]; omega) hb1x ?_
           intro u2 wb ho2 hg2 hb2x))
      all_goals (
        obtain ⟨aL', cL', rfl, hsx⟩ := ho2.sl
        have hlx : ((leP xs k).take t ++ (leP xs k).drop (t + 1)).length = m - 1 := by rw [List.length_append, List.length_take, List.length_drop, HlL.out]; omega
        rw [hlx] at ho2
        rw [hlx]
        have hax := ho2.apart' ho' (Nat.le_refl _)
        have hLx : (leP xs k).take t ++ (leP xs k).drop (t + 1) = leP xs (k + 1) := by rw [leP, ← Htt.out, List.eraseIdx_eq_take_drop_succ]
        rw [hLx] at ho2
        have ho3 := ho'.below (Nat.le_refl _) hb2x
        have ho4 := ho2.mono hb'.size
        have hb4 := hb'.trans (hb2x.mono hb'.size)
        have hm1 : Hid (m - 1 = n - (k + 1)) := by have := hm.out; exact hid (by omega)
        clear hsx hlx hLx ho1 hg1 hg2 ho2 ho' hb1x hb2x
        go_wp2
        go_roundw
        case rel => exact ⟨k + 1, m - 1, aL', ao', cL', cap', by omega, hm1, rfl, rfl, by go_num, hb4, ho4, ho3, hax⟩
        case measure => simp [intOf]; omega)
    · obtain rfl : k = n := by omega
      go_wp2
      go_ret
      refine ⟨_, rfl, ?_, hbr⟩
      rw [ordT, hlen.out]
      exact ho

theorem OwS.mono {B B' g n cap : Nat} {w : World} {ys : List Int} (h : OwS w B g n cap ys) (hB : B' ≤ B) : OwS w B' g n cap ys := by
  refine ⟨h.1, ?_⟩
  rcases h.2 with ⟨h1, _⟩ | ⟨g', cap', cur, hv, hg, r⟩
  · simp at h1
  · exact Or.inr ⟨g', cap', cur, hv, Nat.le_trans hB hg, r⟩

/-- Block g is an array that holds the truth values bs. -/
def ArrB (w : World) (g T : Nat) (bs : List Bool) : Prop := w.heap[g]? = some (.cells (bs.map Value.bool).toArray T (0, 0))
def elB (bs : List Bool) (k : Nat) : Bool := bs.getD k false
theorem elB_set_same {bs : List Bool} {k : Nat} {v : Bool} (h : k < bs.length) : elB (bs.set k v) k = v := by simp [elB, h]
theorem elB_set_ne {bs : List Bool} {j k : Nat} {v : Bool} (h : k ≠ j) : elB (bs.set k v) j = elB bs j := by simp [elB, List.getD, h]
theorem ArrB.lt {w : World} {g T : Nat} {fs : List Bool} (h : ArrB w g T fs) : g < w.heap.size := (Array.getElem?_eq_some_iff.1 h).1
theorem ArrB.cell {w : World} {g T : Nat} {fs : List Bool} (h : ArrB w g T fs) {j : Nat} (hj : j < fs.length) : w.cell? ⟨g, j, none⟩ = some (.bool (elB fs j)) := by
  rw [cell_of_row w g j _ T (0, 0) h]
  simp [elB, hj]
theorem ArrB.frozen {w : World} {g T : Nat} {fs : List Bool} (h : ArrB w g T fs) (j : Nat) : w.frozen? ⟨g, j, none⟩ = false := frozen_of_row w g j _ T h
theorem ArrB.set {w : World} {g T : Nat} {fs : List Bool} (h : ArrB w g T fs) (j : Nat) (v : Bool) : ArrB (w.setCell ⟨g, j, none⟩ (.bool v)) g T (fs.set j v) := by
  have := heap_setCell_same w g j _ T (.bool v) h
  rw [ArrB, this]
  simp [List.map_set]
theorem ArrB.other {w : World} {g T : Nat} {fs : List Bool} (h : ArrB w g T fs) {a : Addr} (ha : a.block ≠ g) (v : Value) : ArrB (w.setCell a v) g T fs := by
  rw [ArrB, Below.heap_setCell _ _ _ _ (by omega)]; exact h
theorem ArrB.made (w : World) (T : Nat) (fs : List Bool) : ArrB (w.alloc (.cells (fs.map Value.bool).toArray T)) w.heap.size T fs := heap_alloc_new w _
theorem nots : ∀ v, v < 7 → elB [false, false, false, false, false, false, false] v = false := by decide

end Go.Proofs.Ytjgaglfinpeeoac

/- Circles, in the program and in its model. Condition: the list's cells can be read. -/
namespace Go.Proofs.Ytjgaglfinpeeoac
open Go.RowKit

set_option maxHeartbeats 1000000 in
theorem circleFrom_any (ao : Option Addr) (n cap : Nat) (xs : List Int) (x : Nat) (w : World) (h : Sl w ao n cap xs) (hv : Valid xs) (hx : x < n) :
    Calls Try.prog 118 #[.slice ao n cap, .int .i64 x] w (Made w (cyc xs x)) := by
  have hbig := h.big
  have hlen := hid h.len
  have hxi : Hid (0 ≤ (x : Int) ∧ (x : Int) < xs.length) := hid ⟨by omega, by rw [hlen.out]; omega⟩
  have HP := hid (per_spec hv hxi.out)
  have h7 : n ≤ 7 := by have := hv.len; rw [hlen.out] at this; exact this
  have Hin := hid (itr_in hv hxi.out)
  rw [hlen.out] at Hin HP
  obtain ⟨P, hP⟩ : ∃ P, P = per xs x := ⟨_, rfl⟩
  rw [← hP] at HP
  have HPe := hid hP
  have hp1 := HP.out.1
  have hp2 := HP.out.2.1
  clear hv hP
  obtain ⟨b, off, rfl, hblt, hc⟩ := h.row (by omega)
  have hcc := hid hc
  have hcell := (((Below.refl w.heap.size w).alloc (Nat.le_refl _) (.cells #[.int .i64 (x : Int)] 3)).cell (p := ⟨b, off + x, none⟩) hblt).trans (hc x hx)
  have hxn : (x : Int) < n := by omega
  have e1 : el xs x = itr xs x 1 := rfl
  rw [e1] at hcell
  clear hc e1
  go_enter Try.func118, Try.ntmps118
  go_wp2
  go_loopw [5, 6] (fun v y wr => ∃ (t : Nat) (ao' : Option Addr) (cap' : Nat), 1 ≤ t ∧ t ≤ P ∧ v = .slice ao' t cap' ∧ y = .int .i64 (itr xs x t) ∧ Below w.heap.size w wr ∧ Own wr w.heap.size (.slice ao' t cap') ((List.range t).map (itr xs x)))
    (fun v _ _ => P - lenOf v)
  case atStart => exact ⟨1, _, _, Nat.le_refl _, hp1, rfl, rfl, (Below.refl _ _).alloc (Nat.le_refl _) _, own_one' w _ _ (Nat.le_refl _)⟩
  case round =>
    obtain ⟨t, ao', cap', ht1, htP, rfl, rfl, hbr, ho⟩ := hrel
    by_cases hlt : t < P
    · have hne : ¬ itr xs x t = x := HP.out.2.2.2 t ht1 hlt
      have hnb : (itr xs x t != (x : Int)) = true := by simpa using hne
      obtain ⟨y, hy⟩ := Int.eq_ofNat_of_zero_le (Hin.out t).1
      have hyn : y < n := by have := (Hin.out t).2; omega
      have hyi : (y : Int) < n := by omega
      have hsz := hbr.size
      have hl : ((List.range t).map (itr xs x)).length ≤ 2000000 := by rw [map_range_len]; omega
      have hnext : el xs y = itr xs x (t + 1) := by rw [itr, hy, Int.toNat_natCast]
      have Hy := hid hy
      rw [hy] at hne hnb ⊢
      clear hy hne
      go_wp2_with (at_builtin; refine app_int _ _ rfl _ _ rfl w.heap.size _ _ rfl ho rfl hl hsz ?_)
      intro u' w' ho' hg'
      have hb' := below_app hbr ho hg'
      rw [← Hy.out, ← map_range_succ (itr xs x)] at ho'
      have hl2 : ((List.range (t + 1)).map (itr xs x)).length = t + 1 := map_range_len _
      obtain ⟨ao', cap', rfl, hs'⟩ := ho'.sl
      rw [hl2] at ho' ⊢
      have hcell := (hb'.cell (p := ⟨b, off + y, none⟩) hblt).trans (hcc.out y hyn)
      rw [hnext] at hcell
      clear hl2 hs' hnext
      go_wp2
      go_roundw
      case rel => exact ⟨t + 1, _, _, by omega, by omega, rfl, rfl, hb', ho'⟩
      case measure => simp [lenOf]; omega
    · obtain rfl : t = P := by omega
      have hret := HP.out.2.2.1
      rw [hret]
      have hnb : ((x : Int) != (x : Int)) = false := by simp
      clear hret
      go_wp2
      go_ret
      exact ⟨_, rfl, by rw [cyc, ← HPe.out]; exact ho, hbr⟩

/-- Are the first t values of a circle at least x? -/
def leaP (xs : List Int) (x : Int) (t : Nat) : Bool := (List.range t).all fun j => decide (x ≤ itr xs x j)
theorem leaP_succ (xs : List Int) (x : Int) (t : Nat) : leaP xs x (t + 1) = (leaP xs x t && decide (x ≤ itr xs x t)) := by
  rw [leaP, List.range_succ, List.all_append]; simp [leaP]
theorem lea_eq (xs : List Int) (x : Int) : lea xs x = leaP xs x (per xs x) := by
  rw [lea, cyc, List.all_map]; rfl

set_option maxHeartbeats 2000000 in
theorem circles0_any (ao : Option Addr) (n cap : Nat) (xs : List Int) (w : World) (h : Sl w ao n cap xs) (hv : Valid xs) :
    Calls Try.prog 78 #[.slice ao n cap] w (MadeL w (circles xs)) := by
  have hbig := h.big
  have hlen := hid h.len
  have h7 : n ≤ 7 := by have := hv.len; rw [hlen.out] at this; exact this
  have Hv := hid hv
  clear hv
  go_enter Try.func78, Try.ntmps78
  go_wp2
  go_loopw [3, 4] (fun v i wr => ∃ (k m : Nat) (ao' : Option Addr) (cap' : Nat), k ≤ n ∧ v = .slice ao' m cap' ∧ i = .int .i64 k ∧ Below w.heap.size w wr ∧ OwnL wr w.heap.size wr.heap.size (.slice ao' m cap') (ciP xs k))
    (fun _ i _ => n - (intOf i).toNat)
  case atStart => exact ⟨0, _, _, _, Nat.zero_le _, rfl, rfl, (Below.refl _ _).alloc (Nat.le_refl _) _, (ownL_lit (Nat.le_refl _)).now⟩
  case round =>
    obtain ⟨k, m, ao', cap', hk, rfl, rfl, hbr, ho⟩ := hrel
    by_cases hlt : k < n
    · obtain ⟨b, off, rfl, hblt, hc⟩ := h.row (by omega)
      have hcc := hid hc
      have hki : Hid (0 ≤ (k : Int) ∧ (k : Int) < xs.length) := hid ⟨by omega, by rw [hlen.out]; omega⟩
      have HP := hid (per_spec Hv.out hki.out)
      have Hin := hid (itr_in Hv.out hki.out)
      rw [hlen.out] at Hin HP
      obtain ⟨P, hP⟩ : ∃ P, P = per xs k := ⟨_, rfl⟩
      rw [← hP] at HP
      have HPe := hid hP
      have hp1 := HP.out.1
      have hp2 := HP.out.2.1
      have hl0 : (ciP xs k).length ≤ 2000000 := by have := ciP_len xs k; omega
      have hsz := hbr.size
      have hcell := ((hbr.alloc hsz (.cells #[.int .i64 (k : Int)] 3)).cell (p := ⟨b, off + k, none⟩) hblt).trans (hc k hlt)
      have hki2 : (k : Int) < n := by omega
      have e1 : el xs k = itr xs k 1 := rfl
      rw [e1] at hcell
      clear hc e1 hP
      go_wp2
      obtain ⟨wo, hwo⟩ : ∃ wo : World, wo = wr := ⟨_, rfl⟩
      subst hwo
      go_loopw [5, 6] (fun v y wr => ∃ (t : Nat) (ao' : Option Addr) (cap' : Nat), 1 ≤ t ∧ t ≤ P ∧ v = .slice ao' t cap' ∧ y = .int .i64 (itr xs k t) ∧ Below wo.heap.size wo wr ∧ Own wr wo.heap.size (.slice ao' t cap') ((List.range t).map (itr xs k)))
        (fun v _ _ => P - lenOf v)
      case atStart => exact ⟨1, _, _, Nat.le_refl _, hp1, rfl, rfl, (Below.refl _ _).alloc (Nat.le_refl _) _, own_one' _ _ _ (Nat.le_refl _)⟩
      case round =>
        obtain ⟨t, al, cl, ht1, htP, rfl, rfl, hbi, hi⟩ := hrel
        by_cases hlt2 : t < P
        · have hne : ¬ itr xs k t = k := HP.out.2.2.2 t ht1 hlt2
          have hnb : (itr xs k t != (k : Int)) = true := by simpa using hne
          obtain ⟨y, hy⟩ := Int.eq_ofNat_of_zero_le (Hin.out t).1
          have hyn : y < n := by have := (Hin.out t).2; omega
          have hyi : (y : Int) < n := by omega
          have hszi := hbi.size
          have hl : ((List.range t).map (itr xs k)).length ≤ 2000000 := by rw [map_range_len]; omega
          have hnext : el xs y = itr xs k (t + 1) := by rw [itr, hy, Int.toNat_natCast]
          have Hy := hid hy
          rw [hy] at hne hnb ⊢
          clear hy hne
          go_wp2_with (at_builtin; refine app_int _ _ rfl _ _ rfl wo.heap.size _ _ rfl hi rfl hl hszi ?_)
          intro u' w' ho' hg'
          have hb' := below_app hbi hi hg'
          rw [← Hy.out, ← map_range_succ (itr xs k)] at ho'
          have hl2 : ((List.range (t + 1)).map (itr xs k)).length = t + 1 := map_range_len _
          obtain ⟨al, cl, rfl, hs'⟩ := ho'.sl
          rw [hl2] at ho' ⊢
          have hbx := hbr.trans (hb'.mono hsz)
          have hcell := (hbx.cell (p := ⟨b, off + y, none⟩) hblt).trans (hcc.out y hyn)
          rw [hnext] at hcell
          clear hl2 hs' hnext
          go_wp2
          go_roundw
          case rel => exact ⟨t + 1, _, _, by omega, by omega, rfl, rfl, hb', ho'⟩
          case measure => simp [lenOf]; omega
        · obtain rfl : t = P := by omega
          have hret := HP.out.2.2.1
          rw [hret]
          have hnb : ((k : Int) != (k : Int)) = false := by simp
          clear hret
          go_wp2
          obtain ⟨wi, hwi⟩ : ∃ wi : World, wi = wr := ⟨_, rfl⟩
          subst hwi
          go_loopw [7, 8] (fun l i wr => ∃ (s : Nat), s ≤ t ∧ l = .bool (leaP xs k s) ∧ i = .int .i64 s ∧ Below wr.heap.size wr wr ∧ Below wo.heap.size wo wr ∧ Own wr wo.heap.size (.slice al t cl) ((List.range t).map (itr xs k)))
            (fun _ i _ => t - (intOf i).toNat)
          case atStart => exact ⟨0, Nat.zero_le _, rfl, rfl, Below.refl _ _, hbi, hi⟩
          case round =>
            obtain ⟨s, hs, rfl, rfl, _, hbj, hj⟩ := hrel
            by_cases hlt3 : s < t
            · have hsi : (s : Int) < t := by omega
              obtain ⟨bj, oj, rfl, hbjlt, hcj⟩ := hj.read.row (by omega)
              have hcell := hcj s hlt3
              rw [el_map hlt3] at hcell
              clear hcj
              cases hq : leaP xs k s
              · have e3 : Hid (leaP xs k (s + 1) = false) := hid (by rw [leaP_succ, hq]; rfl)
                go_wp2
                go_roundw
                case rel => exact ⟨s + 1, by omega, by rw [e3.out], by go_num, Below.refl _ _, hbj, hj⟩
                case measure => simp [intOf]; omega
              · have e3 : Hid (leaP xs k (s + 1) = decide ((k : Int) ≤ itr xs k s)) := hid (by rw [leaP_succ, hq]; rfl)
                go_wp2
                go_roundw
                case rel => exact ⟨s + 1, by omega, by rw [e3.out], by go_num, Below.refl _ _, hbj, hj⟩
                case measure => simp [intOf]; omega
            · obtain rfl : s = t := by omega
              have el1 : leaP xs k s = lea xs k := by rw [lea_eq, ← HPe.out]
              rw [el1]
              cases hq : lea xs k
              · have e3 := hid (ciP_no hq)
                clear el1
                go_wp2
                go_roundw
                case rel => exact ⟨k + 1, _, _, _, by omega, rfl, by go_num, hbr.trans (hbj.mono hsz), by rw [e3.out]; exact (ho.later hbj).now⟩
                case measure => simp [intOf]; omega
              · have e3 := hid (ciP_yes hq)
                clear el1
                go_wp2_with (at_builtin; refine app_lst wo _ _ (cyc xs k) rfl _ _ rfl w.heap.size _ _ _ ho hbj (by rw [cyc, ← HPe.out]; exact hj) rfl rfl hl0 ?_)
                intro u' w' ho' hb'
                have hbz := (hbr.trans (hbj.mono hsz)).trans hb'
                rw [← e3.out] at ho'
                have hl' := hid (rfl : (ciP xs (k + 1)).length = (ciP xs (k + 1)).length)
                obtain ⟨ao', cap', rfl, hs'⟩ := ho'.sl
                go_wp2
                go_roundw
                case rel => exact ⟨k + 1, _, _, _, by omega, rfl, by go_num, hbz, ho'⟩
                case measure => simp [intOf]; omega
    · obtain rfl : k = n := by omega
      go_wp2
      go_ret
      exact ⟨_, rfl, by rw [circles, hlen.out]; exact ho, hbr⟩

theorem madeL_no {w w1 : World} {xs : List Int} {yss : List (List Int)} (h : ¬ Valid xs) (hb : Below w.heap.size w w1) : MadeL w (onVL xs yss) (.returned (.slice none 0 0)) w1 :=
  ⟨_, rfl, by rw [onVL_no h]; exact ((OwnL.nil hb.size).mono (Nat.le_refl _)).now, hb⟩

theorem take_cyc {xs : List Int} {x : Int} {t : Nat} (ht : t < per xs x) (v : Int) : decide (v ∈ (cyc xs x).take (t + 1)) = (decide (v ∈ (cyc xs x).take t) || decide (v = itr xs x t)) := by
  rw [take_el (by rw [cyc_len]; exact ht), el_cyc ht]
  simp

set_option maxHeartbeats 2000000 in
theorem circlesI_any (ao : Option Addr) (n cap : Nat) (xs : List Int) (w : World) (h : Sl w ao n cap xs) :
    Calls Try.prog 103 #[.slice ao n cap] w (MadeL w (onVL xs (circles xs))) := by
  have hbig := h.big
  have hlen := hid h.len
  by_cases hv : Valid xs
  · have Hv := hid hv
    have h7 : n ≤ 7 := by have := hv.len; rw [hlen.out] at this; exact this
    clear hv
    go_enter Try.func103, Try.ntmps103
    go_wp2_with fail
    refine (validI_any _ _ _ xs _ h).mono ?_
    rintro e w1 ⟨rfl, hb1⟩
    rw [decide_eq_true Hv.out]
    have hsz := hb1.size
    go_wp2
    go_loopw [3, 15] (fun v i wr => ∃ (k m : Nat) (ao' : Option Addr) (cap' : Nat) (bs : List Bool), k ≤ n ∧ v = .slice ao' m cap' ∧ i = .int .i64 k ∧ Below w.heap.size w wr ∧ OwnLx (some (w1.heap.size + 1)) wr w.heap.size wr.heap.size (.slice ao' m cap') (ciP xs k) ∧ ArrB wr (w1.heap.size + 1) 108 bs ∧ bs.length = 7 ∧ Hid (∀ x, x < 7 → elB bs x = sn xs k x))
      (fun _ i _ => n - (intOf i).toNat)
    case atStart =>
      refine ⟨0, _, _, _, [false, false, false, false, false, false, false], Nat.zero_le _, rfl, rfl, (hb1.alloc hsz _).alloc (by simp; omega) _, ?_, ?_, rfl, fun x hx => ?_⟩
      · exact ((ownLx_lit hsz (by simp)).later ((Below.refl _ _).alloc (Nat.le_refl _) _)).now
      · have := ArrB.made (w1.alloc (.cells #[] 28)) 108 [false, false, false, false, false, false, false]
        rw [World.size_alloc] at this
        exact this
      · rw [nots x hx, sn_zero]
    case round =>
      obtain ⟨k, m, ao', cap', bs, hk, rfl, rfl, hbr, ho, hB, hB7, hbs⟩ := hrel
      by_cases hlt : k < n
      · have hbk := hbs.out k (by omega)
        rw [sn_lea Hv.out (by rw [hlen.out]; exact hlt)] at hbk
        have hcell := hB.cell (j := k) (by omega)
        rw [hbk] at hcell
        have hszr := hbr.size
        have hgs := hB.lt
        have HB7 := hid hB7
        have hi1 : (k : Int) < n := by omega
        have hi7 : (k : Int) < 7 := by omega
        clear hbk hB7
        cases hq : lea xs k
        · rw [hq] at hcell
          have e1 := hid (ciP_no hq)
          have e2 := hid (sn_same Hv.out (by rw [hlen.out]; exact hlt) hq)
          clear hq
          go_wp2
          go_roundw
          case rel => exact ⟨k + 1, _, _, _, bs, by omega, rfl, by go_num, hbr, by rw [e1.out]; exact ho, hB, HB7.out, fun x hx => by rw [hbs.out x hx, e2.out]⟩
          case measure => simp [intOf]; omega
        · rw [hq] at hcell
          have e1 := hid (ciP_yes hq)
          clear hq
          go_wp2_with fail
          refine (circleFrom_any _ _ _ xs k _ (h.later hbr) Hv.out hlt).mono ?_
          rintro e w2 ⟨u2, rfl, o2, b2⟩
          obtain ⟨a2, c2, rfl, s2⟩ := o2.sl
          have hki : Hid (0 ≤ (k : Int) ∧ (k : Int) < xs.length) := hid ⟨by omega, by rw [hlen.out]; omega⟩
          have Hci : Hid (∀ j, j < (cyc xs k).length → 0 ≤ el (cyc xs k) j ∧ el (cyc xs k) j < n) := fun j hj => by have := cyc_in Hv.out hki.out (el_mem hj); rw [hlen.out] at this; exact this
          obtain ⟨ys, hys⟩ : ∃ ys, ys = cyc xs k := ⟨_, rfl⟩
          rw [← hys] at o2 s2 Hci e1 ⊢
          obtain ⟨P, hP⟩ : ∃ P, P = ys.length := ⟨_, rfl⟩
          rw [← hP] at o2 s2 Hci ⊢
          have HP := hid hP
          have Hys := hid hys
          clear hP hys
          have hbig2 := s2.big
          have hbA : ArrB w2 (w1.heap.size + 1) 108 bs := (b2.block _ hgs).trans hB
          have hob := o2.blocks
          have hbr2 := hbr.trans (b2.mono hszr)
          go_wp2
          obtain ⟨wo, hwo⟩ : ∃ wo : World, wo = wr := ⟨_, rfl⟩
          subst hwo
          go_loopw [26] (fun i wq => ∃ (t : Nat) (bs' : List Bool), t ≤ P ∧ i = .int .i64 t ∧ Below w.heap.size w wq ∧ wo.heap.size ≤ wq.heap.size ∧ OwnLx (some (w1.heap.size + 1)) wq w.heap.size wo.heap.size (.slice ao' m cap') (ciP xs k) ∧ Own wq wo.heap.size (.slice a2 P c2) ys ∧ ArrB wq (w1.heap.size + 1) 108 bs' ∧ bs'.length = 7 ∧ Hid (∀ x, x < 7 → elB bs' x = (sn xs k x || decide ((x : Int) ∈ ys.take t))))
            (fun i _ => P - (intOf i).toNat)
          case atStart => exact ⟨0, bs, Nat.zero_le _, rfl, hbr2, b2.size, ho.later b2, o2, hbA, HB7.out, fun x hx => by rw [hbs.out x hx]; simp⟩
          case round =>
            obtain ⟨t, bs', htP, rfl, hbq, hszq, hoq, oq, hA, hA7, hbq'⟩ := hrel
            by_cases hlt2 : t < P
            · obtain ⟨bj, oj, rfl, hbjlt, hcj⟩ := oq.read.row (by omega)
              have hcell2 := hcj t hlt2
              obtain ⟨y, hy⟩ := Int.eq_ofNat_of_zero_le (Hci.out t hlt2).1
              have hyn : y < n := by have := (Hci.out t hlt2).2; omega
              have hy7 : (y : Int) < 7 := by omega
              rw [hy] at hcell2
              have hfz := hA.frozen y
              have hcz := hA.cell (j := y) (by omega)
              have Hy := hid hy
              have hti : (t : Int) < P := by omega
              have HA7 := hid hA7
              clear hcj hy hA7
              go_wp2
              go_roundw
              case rel =>
                refine ⟨t + 1, bs'.set y true, by omega, by go_num, hbq.setCell (by show w.heap.size ≤ w1.heap.size + 1; omega) _, by simp [World.setCell]; omega, hoq.set y _, ?_, hA.set y true, by rw [List.length_set]; exact HA7.out, fun x hx => ?_⟩
                · exact own_chg oq (fun k' e _ => Below.heap_setCell _ _ _ _ (fun e2 => by have := (oq.blocks k' e).1; simp at e2; omega))
                · rw [take_el (by rw [← HP.out]; exact hlt2), Hy.out]
                  by_cases e : y = x
                  · subst e
                    rw [elB_set_same (by rw [HA7.out]; exact hx)]
                    simp
                  · rw [elB_set_ne e, hbq'.out x hx]
                    have hne : ¬ (x : Int) = y := by omega
                    simp [hne]
              case measure => simp [intOf]; omega
            · obtain rfl : t = P := by omega
              have hl0 : (ciP xs k).length ≤ 2000000 := by have := ciP_len xs k; omega
              have hgs2 := hA.lt
              go_wp2_with (at_builtin; refine app_lstx (some (w1.heap.size + 1)) wo.heap.size _ _ ys rfl _ _ rfl w.heap.size _ _ _ hoq (Nat.le_refl _) hszq (fun k e => by rw [← Option.some.inj e]; exact hgs) oq rfl rfl hl0 ?_)
              intro u' w' ho' hb' hg'
              have hA' : ArrB w' (w1.heap.size + 1) 108 bs' := by
                have hne : (some (w1.heap.size + 1)) ≠ (Value.slice ao' m cap').ownBlock := by
                  obtain ⟨vs, _, h2, _⟩ := hoq.ex
                  intro e
                  exact (h2 _ e.symm).2 rfl
                exact (hg'.block _ hgs2 hne).trans hA
              have hbz := hbq.trans hb'
              rw [← e1.out] at ho'
              have hl' := hid (rfl : (ciP xs (k + 1)).length = (ciP xs (k + 1)).length)
              obtain ⟨ao'', cap'', rfl, hs'⟩ := ho'.any.sl
              go_wp2
              go_roundw
              case rel => exact ⟨k + 1, _, _, _, bs', by omega, rfl, by go_num, hbz, ho', hA', hA7, fun x hx => by rw [hbq'.out x hx, sn_succ, ← Hys.out, HP.out, List.take_length]⟩
              case measure => simp [intOf]; omega
      · obtain rfl : k = n := by omega
        go_wp2
        go_ret
        exact ⟨_, rfl, by rw [onVL_yes Hv.out, circles, hlen.out]; exact ho.any, hbr⟩
  · have Hv := hid hv
    go_enter Try.func103, Try.ntmps103
    go_wp2_with fail
    refine (validI_any _ _ _ xs _ h).mono ?_
    rintro e w1 ⟨rfl, hb1⟩
    go_wp2
    go_ret
    exact madeL_no Hv.out hb1

end Go.Proofs.Ytjgaglfinpeeoac

/- The lists and numbers of the second chapter, as plain functions of lists. No condition. -/
namespace Go.Proofs.Ytjgaglfinpeeoac

/-- The places among the first k that fit with their numbers. -/
def plP (f : Int → Int → Bool) (xs : List Int) : Nat → List Int
  | 0 => []
  | k + 1 => if f k (el xs k) then plP f xs k ++ [(k : Int)] else plP f xs k
theorem plP_yes {f : Int → Int → Bool} {xs : List Int} {k : Nat} (h : f k (el xs k) = true) : plP f xs (k + 1) = plP f xs k ++ [(k : Int)] := by rw [plP, if_pos h]
theorem plP_no {f : Int → Int → Bool} {xs : List Int} {k : Nat} (h : f k (el xs k) = false) : plP f xs (k + 1) = plP f xs k := by rw [plP, h]; simp
theorem plP_len (f : Int → Int → Bool) (xs : List Int) (k : Nat) : (plP f xs k).length ≤ k := by
  induction k with
  | zero => simp [plP]
  | succ k ih =>
    rw [plP]
    split
    · rw [List.length_append, List.length_singleton]; omega
    · omega
theorem plP_mem (f : Int → Int → Bool) (xs : List Int) (k : Nat) : ∀ x ∈ plP f xs k, 0 ≤ x ∧ x < k := by
  induction k with
  | zero => intro x hx; simp [plP] at hx
  | succ k ih =>
    intro x hx
    rw [plP] at hx
    split at hx
    · rw [List.mem_append, List.mem_singleton] at hx
      rcases hx with hx | hx
      · have := ih x hx; omega
      · omega
    · have := ih x hx; omega
def upF (i u : Int) : Bool := decide (i < u)
def fixF (i u : Int) : Bool := decide (u = i)
def above (xs : List Int) : List Int := plP upF xs xs.length
def fixed (xs : List Int) : List Int := plP fixF xs xs.length
theorem above_len (xs : List Int) : (above xs).length ≤ xs.length := plP_len _ _ _
theorem fixed_len (xs : List Int) : (fixed xs).length ≤ xs.length := plP_len _ _ _

/-- The greatest of the first k numbers, or -1; the places of those that are greater than all ahead. -/
def mxP (xs : List Int) : Nat → Int
  | 0 => -1
  | k + 1 => if mxP xs k < el xs k then el xs k else mxP xs k
def rcP (xs : List Int) : Nat → List Int
  | 0 => []
  | k + 1 => if mxP xs k < el xs k then rcP xs k ++ [(k : Int)] else rcP xs k
theorem mxP_yes {xs : List Int} {k : Nat} (h : mxP xs k < el xs k) : mxP xs (k + 1) = el xs k := by rw [mxP, if_pos h]
theorem mxP_no {xs : List Int} {k : Nat} (h : el xs k ≤ mxP xs k) : mxP xs (k + 1) = mxP xs k := by rw [mxP, if_neg (by omega)]
theorem rcP_yes {xs : List Int} {k : Nat} (h : mxP xs k < el xs k) : rcP xs (k + 1) = rcP xs k ++ [(k : Int)] := by rw [rcP, if_pos h]
theorem rcP_no {xs : List Int} {k : Nat} (h : el xs k ≤ mxP xs k) : rcP xs (k + 1) = rcP xs k := by rw [rcP, if_neg (by omega)]
theorem rcP_len (xs : List Int) (k : Nat) : (rcP xs k).length ≤ k := by
  induction k with
  | zero => simp [rcP]
  | succ k ih =>
    rw [rcP]
    split
    · rw [List.length_append, List.length_singleton]; omega
    · omega
def records (xs : List Int) : List Int := rcP xs xs.length
theorem records_len (xs : List Int) : (records xs).length ≤ xs.length := rcP_len _ _

/-- How far the first k numbers are from their places. -/
def shP (xs : List Int) : Nat → Int
  | 0 => 0
  | k + 1 => shP xs k + max (el xs k - k) (k - el xs k)
def shift (xs : List Int) : Int := shP xs xs.length
theorem shP_bd {xs : List Int} (h : Valid xs) : ∀ k, k ≤ xs.length → 0 ≤ shP xs k ∧ shP xs k ≤ 7 * k := by
  intro k
  induction k with
  | zero => intro _; simp [shP]
  | succ k ih =>
    intro hk
    have h1 := ih (by omega)
    have h2 := h.lo k (by omega)
    have h3 := h.hi k (by omega)
    have h4 := h.len
    rw [shP]
    omega

/-- How many pairs of places i < k, k among the first ones, fit with their numbers. -/
def inP (f : Int → Int → Int → Int → Bool) (xs : List Int) (k t : Nat) : Int := cntP (fun i => f i (el xs i) k (el xs k)) t
def prP (f : Int → Int → Int → Int → Bool) (xs : List Int) : Nat → Int
  | 0 => 0
  | k + 1 => prP f xs k + inP f xs k k
def pairs (f : Int → Int → Int → Int → Bool) (xs : List Int) : Int := prP f xs xs.length
theorem inP_bd (f : Int → Int → Int → Int → Bool) (xs : List Int) (k t : Nat) : 0 ≤ inP f xs k t ∧ inP f xs k t ≤ t := cntP_bd _ _
theorem inP_yes {f : Int → Int → Int → Int → Bool} {xs : List Int} {k t : Nat} (h : f t (el xs t) k (el xs k) = true) : inP f xs k (t + 1) = inP f xs k t + 1 := cntP_yes h
theorem inP_no {f : Int → Int → Int → Int → Bool} {xs : List Int} {k t : Nat} (h : f t (el xs t) k (el xs k) = false) : inP f xs k (t + 1) = inP f xs k t := cntP_no h
theorem prP_bd (f : Int → Int → Int → Int → Bool) (xs : List Int) (k : Nat) : 0 ≤ prP f xs k ∧ prP f xs k ≤ k * k := by
  induction k with
  | zero => simp [prP]
  | succ k ih =>
    have := inP_bd f xs k k
    rw [prP]
    have e : ((k + 1 : Nat) : Int) * (k + 1 : Nat) = k * k + k + k + 1 := by rw [Int.natCast_add, Int.add_mul, Int.mul_add]; simp; omega
    omega
def crossF (i u k v : Int) : Bool := decide (k ≤ u) && decide (u < v) || decide (u < v) && decide (v < i)
def nestF (i u k v : Int) : Bool := decide (k ≤ v) && decide (v < u) || decide (v < u) && decide (u < i)
def denF (i u k v : Int) : Bool := decide (v < u) && (decide (i < u) == decide (k < v))

end Go.Proofs.Ytjgaglfinpeeoac

/- Sums of numbers. No condition. -/
namespace Go.Proofs.Ytjgaglfinpeeoac

/-- The sum of the first k numbers g. -/
def S (g : Nat → Int) : Nat → Int
  | 0 => 0
  | k + 1 => S g k + g k
theorem S_congr {g h : Nat → Int} : ∀ k, (∀ j, j < k → g j = h j) → S g k = S h k := by
  intro k
  induction k with
  | zero => intro _; rfl
  | succ k ih => intro e; rw [S, S, ih (fun j hj => e j (by omega)), e k (by omega)]
theorem S_add (g h : Nat → Int) : ∀ k, S (fun i => g i + h i) k = S g k + S h k := by
  intro k
  induction k with
  | zero => rfl
  | succ k ih => rw [S, S, S, ih]; omega
theorem S_front (g : Nat → Int) : ∀ m, S g (m + 1) = g 0 + S (fun t => g (t + 1)) m := by
  intro m
  induction m with
  | zero => simp [S]
  | succ m ih => rw [S, ih, S]; omega
theorem S_rev (g : Nat → Int) : ∀ m, S g m = S (fun t => g (m - 1 - t)) m := by
  intro m
  induction m with
  | zero => rfl
  | succ m ih =>
    have e1 : S (fun t => g (m + 1 - 1 - t)) (m + 1) = g (m + 1 - 1 - 0) + S (fun t => g (m + 1 - 1 - (t + 1))) m := S_front _ m
    have e2 : S (fun t => g (m - 1 - t)) m = S (fun t => g (m + 1 - 1 - (t + 1))) m := S_congr m (fun j _ => by congr 1; omega)
    rw [e1, ← e2, S, ih, show m + 1 - 1 - 0 = m by omega]
    omega
def ind (p : Nat → Bool) (j : Nat) : Int := if p j then 1 else 0
theorem cntP_S (p : Nat → Bool) : ∀ k, cntP p k = S (ind p) k := by
  intro k
  induction k with
  | zero => rfl
  | succ k ih =>
    rw [cntP, S, ih, ind]
    split <;> omega
theorem cntP_rev (p : Nat → Bool) (m : Nat) : cntP p m = cntP (fun t => p (m - 1 - t)) m := by
  rw [cntP_S, cntP_S, S_rev]
  rfl
theorem sumTo_S (xs : List Int) : ∀ k, sumTo xs k = S (el xs) k := by
  intro k
  induction k with
  | zero => rfl
  | succ k ih => rw [sumTo, S, ih]
theorem table_S (xs : List Int) : sumL (table xs) = S (lb xs) xs.length := by
  rw [sumL, sumTo_S, table_len]
  exact S_congr _ (fun j hj => el_table hj)

end Go.Proofs.Ytjgaglfinpeeoac

/- Pairs of places counted over a square of places and counted behind each other are as many. No condition. -/
namespace Go.Proofs.Ytjgaglfinpeeoac

/-- Does the pair of places i, k fit, i standing ahead? -/
def giF (f : Int → Int → Int → Int → Bool) (xs : List Int) (i k : Nat) : Bool := decide (i < k) && f i (el xs i) k (el xs k)
def giP (f : Int → Int → Int → Int → Bool) (xs : List Int) (i t : Nat) : Int := cntP (giF f xs i) t
def gdP (f : Int → Int → Int → Int → Bool) (xs : List Int) (n : Nat) : Nat → Int
  | 0 => 0
  | i + 1 => gdP f xs n i + giP f xs i n
theorem giP_bd (f : Int → Int → Int → Int → Bool) (xs : List Int) (i t : Nat) : 0 ≤ giP f xs i t ∧ giP f xs i t ≤ t := cntP_bd _ _
theorem giP_yes {f : Int → Int → Int → Int → Bool} {xs : List Int} {i t : Nat} (h : giF f xs i t = true) : giP f xs i (t + 1) = giP f xs i t + 1 := cntP_yes h
theorem giP_no {f : Int → Int → Int → Int → Bool} {xs : List Int} {i t : Nat} (h : giF f xs i t = false) : giP f xs i (t + 1) = giP f xs i t := cntP_no h
theorem gdP_bd (f : Int → Int → Int → Int → Bool) (xs : List Int) (n k : Nat) : 0 ≤ gdP f xs n k ∧ gdP f xs n k ≤ k * n := by
  induction k with
  | zero => simp [gdP]
  | succ k ih =>
    have := giP_bd f xs k n
    rw [gdP]
    have e : ((k + 1 : Nat) : Int) * n = k * n + n := by rw [Int.natCast_add, Int.add_mul]; simp
    omega

theorem gdP_S (f : Int → Int → Int → Int → Bool) (xs : List Int) (n : Nat) : ∀ m, gdP f xs n m = S (fun i => S (ind (giF f xs i)) n) m := by
  intro m
  induction m with
  | zero => rfl
  | succ m ih => rw [gdP, S, ih, giP, cntP_S]
theorem prP_S (f : Int → Int → Int → Int → Bool) (xs : List Int) : ∀ m, prP f xs m = S (fun k => S (ind fun i => f i (el xs i) k (el xs k)) k) m := by
  intro m
  induction m with
  | zero => rfl
  | succ m ih => rw [prP, S, ih, inP, cntP_S]

theorem S_swap2 (g : Nat → Nat → Int) (n : Nat) : ∀ m, S (fun i => S (g i) n) m = S (fun k => S (fun i => g i k) m) n := by
  intro m
  induction m with
  | zero =>
    have : ∀ n, S (fun k => S (fun i => g i k) 0) n = 0 := by
      intro n
      induction n with
      | zero => rfl
      | succ n ih => rw [S, ih]; rfl
    rw [this]; rfl
  | succ m ih =>
    rw [S, ih, ← S_add]
    rfl
theorem S_cut (g : Nat → Int) (k : Nat) : ∀ n, k ≤ n → (∀ j, k ≤ j → g j = 0) → S g n = S g k := by
  intro n
  induction n with
  | zero => intro hk _; rw [show k = 0 by omega]
  | succ n ih =>
    intro hk hz
    by_cases e : k = n + 1
    · rw [e]
    · rw [S, ih (by omega) hz, hz n (by omega)]; omega

theorem grid_pairs (f : Int → Int → Int → Int → Bool) (xs : List Int) : gdP f xs xs.length xs.length = pairs f xs := by
  rw [gdP_S, S_swap2 (fun i k => ind (giF f xs i) k), pairs, prP_S]
  refine S_congr _ (fun k hk => ?_)
  rw [S_cut _ k _ (by omega) (fun j hj => by simp [ind, giF]; intro h; omega)]
  refine S_congr _ (fun i hi => ?_)
  simp [ind, giF, hi]

end Go.Proofs.Ytjgaglfinpeeoac

/- Crossings, nestings and other pairs of places, in the program and in its model. Condition: the list's cells can be read. -/
namespace Go.Proofs.Ytjgaglfinpeeoac
open Go.RowKit

theorem crossC (i u k v : Int) (w : World) : Calls Try.prog 112 #[.int .i64 i, .int .i64 u, .int .i64 k, .int .i64 v] w fun e w' => e = .returned (.bool (crossF i u k v)) ∧ w' = w := by
  go_enter Try.func112, Try.ntmps112
  go_wp2
  all_goals go_ret
  all_goals refine ⟨ret_eq (congrArg Value.bool ?_), rfl⟩
  all_goals rw [Bool.eq_iff_iff]
  all_goals simp [crossF] <;> omega

set_option maxHeartbeats 1000000 in
theorem crossW_any (ao : Option Addr) (n cap : Nat) (xs : List Int) (w : World) (h : Sl w ao n cap xs) :
    Calls Try.prog 110 #[.slice ao n cap, .func (.func 112) #[] #[]] w (Says w (.int .i64 (onVi xs (pairs crossF xs) (-1)))) := by
  have hbig := h.big
  have hlen := hid h.len
  by_cases hv : Valid xs
  · have h7 : n ≤ 7 := by have := hv.len; rw [hlen.out] at this; exact this
    have Hv := hid hv
    go_enter Try.func110, Try.ntmps110
    go_wp2_with fail
    refine (validI_any _ _ _ xs _ h).mono ?_
    rintro e w1 ⟨rfl, hb1⟩
    have hsz := hb1.size
    go_wp2
    clear hv
    obtain ⟨w0, hw0⟩ : ∃ w0 : World, w0 = w1 := ⟨_, rfl⟩
    subst hw0
    go_loopw [5, 15] (fun v i wr => ∃ (k : Nat), k ≤ n ∧ v = .int .i64 (prP crossF xs k) ∧ i = .int .i64 k ∧ Below w.heap.size w wr)
      (fun _ i _ => n - (intOf i).toNat)
    case atStart => exact ⟨0, Nat.zero_le _, rfl, rfl, hb1⟩
    case round =>
      obtain ⟨k, hk, rfl, rfl, hbr⟩ := hrel
      have hbd := prP_bd crossF xs k
      have hq1 := hbd.1
      have hq2 : prP crossF xs k ≤ 49 := Int.le_trans hbd.2 (by have : (k : Int) * k ≤ 7 * 7 := Int.mul_le_mul (by omega) (by omega) (by omega) (by omega); omega)
      clear hbd
      by_cases hlt : k < n
      · obtain ⟨b, off, rfl, hblt, hc⟩ := h.row (by omega)
        have hcell := (hbr.cell (p := ⟨b, off + k, none⟩) hblt).trans (hc k hlt)
        have hi1 : (k : Int) < n := by omega
        have hle := h.le
        have hcc := hid hc
        clear hc
        go_wp2
        obtain ⟨wo, hwo⟩ : ∃ wo : World, wo = wr := ⟨_, rfl⟩
        subst hwo
        go_loopw [5, 24] (fun v j wr => ∃ (t : Nat), t ≤ k ∧ v = .int .i64 (prP crossF xs k + inP crossF xs k t) ∧ j = .int .i64 t ∧ Below w.heap.size w wr)
          (fun _ j _ => k - (intOf j).toNat)
        case atStart => exact ⟨0, Nat.zero_le _, by simp [inP, cntP], rfl, hbr⟩
        case round =>
          obtain ⟨t, ht, rfl, rfl, hbr⟩ := hrel
          have hbd := inP_bd crossF xs k t
          have hq3 := hbd.1
          have hq4 := hbd.2
          clear hbd
          by_cases htl : t < k
          · have hcell1 := (hbr.cell (p := ⟨b, off + t, none⟩) hblt).trans (hcc.out t (by omega))
            have hi2 : (t : Int) < k := by omega
            by_cases hf : crossF t (el xs t) k (el xs k) = true
            · have e1 := hid (inP_yes hf)
              go_wp2_with fail
              refine (crossC _ _ _ _ _).mono ?_
              rintro e w' ⟨rfl, hww⟩
              subst hww
              rw [hf]
              clear hf
              go_wp2
              go_roundw
              case rel => exact ⟨t + 1, by omega, by rw [e1.out]; congr 1; omega, by go_num, hbr⟩
              case measure => simp [intOf]; omega
            · have hf2 : crossF t (el xs t) k (el xs k) = false := by simpa using hf
              have e1 := hid (inP_no hf2)
              go_wp2_with fail
              refine (crossC _ _ _ _ _).mono ?_
              rintro e w' ⟨rfl, hww⟩
              subst hww
              rw [hf2]
              clear hf hf2
              go_wp2
              go_roundw
              case rel => exact ⟨t + 1, by omega, by rw [e1.out], by go_num, hbr⟩
              case measure => simp [intOf]; omega
          · obtain rfl : t = k := by omega
            go_wp2
            go_roundw
            case rel => exact ⟨t + 1, by omega, by rw [prP], by go_num, hbr⟩
            case measure => simp [intOf]; omega
      · obtain rfl : k = n := by omega
        go_wp2
        go_ret
        rw [onVi_yes Hv.out]
        exact says_int (by rw [pairs, hlen.out]) hbr
  · have Hv := hid hv
    go_enter Try.func110, Try.ntmps110
    go_wp2_with fail
    refine (validI_any _ _ _ xs _ h).mono ?_
    rintro e w1 ⟨rfl, hb1⟩
    go_wp2
    go_ret
    rw [onVi_no Hv.out]
    exact ⟨rfl, hb1⟩

set_option maxHeartbeats 1000000 in
theorem crossI_any (ao : Option Addr) (n cap : Nat) (xs : List Int) (w : World) (h : Sl w ao n cap xs) :
    Calls Try.prog 96 #[.slice ao n cap] w (Says w (.int .i64 (onVi xs (pairs crossF xs) (-1)))) := by
  have hbig := h.big
  have hlen := hid h.len
  go_enter Try.func96, Try.ntmps96
  go_wp2_with fail
  refine (crossW_any _ _ _ xs _ h).mono ?_
  rintro e w2 ⟨rfl, hb2⟩
  go_wp2
  go_ret
  exact ⟨rfl, hb2⟩

theorem nestC (i u k v : Int) (w : World) : Calls Try.prog 113 #[.int .i64 i, .int .i64 u, .int .i64 k, .int .i64 v] w fun e w' => e = .returned (.bool (nestF i u k v)) ∧ w' = w := by
  go_enter Try.func113, Try.ntmps113
  go_wp2
  all_goals go_ret
  all_goals refine ⟨ret_eq (congrArg Value.bool ?_), rfl⟩
  all_goals rw [Bool.eq_iff_iff]
  all_goals simp [nestF] <;> omega

set_option maxHeartbeats 1000000 in
theorem nestW_any (ao : Option Addr) (n cap : Nat) (xs : List Int) (w : World) (h : Sl w ao n cap xs) :
    Calls Try.prog 110 #[.slice ao n cap, .func (.func 113) #[] #[]] w (Says w (.int .i64 (onVi xs (pairs nestF xs) (-1)))) := by
  have hbig := h.big
  have hlen := hid h.len
  by_cases hv : Valid xs
  · have h7 : n ≤ 7 := by have := hv.len; rw [hlen.out] at this; exact this
    have Hv := hid hv
    go_enter Try.func110, Try.ntmps110
    go_wp2_with fail
    refine (validI_any _ _ _ xs _ h).mono ?_
    rintro e w1 ⟨rfl, hb1⟩
    have hsz := hb1.size
    go_wp2
    clear hv
    obtain ⟨w0, hw0⟩ : ∃ w0 : World, w0 = w1 := ⟨_, rfl⟩
    subst hw0
    go_loopw [5, 15] (fun v i wr => ∃ (k : Nat), k ≤ n ∧ v = .int .i64 (prP nestF xs k) ∧ i = .int .i64 k ∧ Below w.heap.size w wr)
      (fun _ i _ => n - (intOf i).toNat)
    case atStart => exact ⟨0, Nat.zero_le _, rfl, rfl, hb1⟩
    case round =>
      obtain ⟨k, hk, rfl, rfl, hbr⟩ := hrel
      have hbd := prP_bd nestF xs k
      have hq1 := hbd.1
      have hq2 : prP nestF xs k ≤ 49 := Int.le_trans hbd.2 (by have : (k : Int) * k ≤ 7 * 7 := Int.mul_le_mul (by omega) (by omega) (by omega) (by omega); omega)
      clear hbd
      by_cases hlt : k < n
      · obtain ⟨b, off, rfl, hblt, hc⟩ := h.row (by omega)
        have hcell := (hbr.cell (p := ⟨b, off + k, none⟩) hblt).trans (hc k hlt)
        have hi1 : (k : Int) < n := by omega
        have hle := h.le
        have hcc := hid hc
        clear hc
        go_wp2
        obtain ⟨wo, hwo⟩ : ∃ wo : World, wo = wr := ⟨_, rfl⟩
        subst hwo
        go_loopw [5, 24] (fun v j wr => ∃ (t : Nat), t ≤ k ∧ v = .int .i64 (prP nestF xs k + inP nestF xs k t) ∧ j = .int .i64 t ∧ Below w.heap.size w wr)
          (fun _ j _ => k - (intOf j).toNat)
        case atStart => exact ⟨0, Nat.zero_le _, by simp [inP, cntP], rfl, hbr⟩
        case round =>
          obtain ⟨t, ht, rfl, rfl, hbr⟩ := hrel
          have hbd := inP_bd nestF xs k t
          have hq3 := hbd.1
          have hq4 := hbd.2
          clear hbd
          by_cases htl : t < k
          · have hcell1 := (hbr.cell (p := ⟨b, off + t, none⟩) hblt).trans (hcc.out t (by omega))
            have hi2 : (t : Int) < k := by omega
            by_cases hf : nestF t (el xs t) k (el xs k) = true
            · have e1 := hid (inP_yes hf)
              go_wp2_with fail
              refine (nestC _ _ _ _ _).mono ?_
              rintro e w' ⟨rfl, hww⟩
              subst hww
              rw [hf]
              clear hf
              go_wp2
              go_roundw
              case rel => exact ⟨t + 1, by omega, by rw [e1.out]; congr 1; omega, by go_num, hbr⟩
              case measure => simp [intOf]; omega
            · have hf2 : nestF t (el xs t) k (el xs k) = false := by simpa using hf
              have e1 := hid (inP_no hf2)
              go_wp2_with fail
              refine (nestC _ _ _ _ _).mono ?_
              rintro e w' ⟨rfl, hww⟩
              subst hww
              rw [hf2]
              clear hf hf2
              go_wp2
              go_roundw
              case rel => exact ⟨t + 1, by omega, by rw [e1.out], by go_num, hbr⟩
              case measure => simp [intOf]; omega
          · obtain rfl : t = k := by omega
            go_wp2
            go_roundw
            case rel => exact ⟨t + 1, by omega, by rw [prP], by go_num, hbr⟩
            case measure => simp [intOf]; omega
      · obtain rfl : k = n := by omega
        go_wp2
        go_ret
        rw [onVi_yes Hv.out]
        exact says_int (by rw [pairs, hlen.out]) hbr
  · have Hv := hid hv
    go_enter Try.func110, Try.ntmps110
    go_wp2_with fail
    refine (validI_any _ _ _ xs _ h).mono ?_
    rintro e w1 ⟨rfl, hb1⟩
    go_wp2
    go_ret
    rw [onVi_no Hv.out]
    exact ⟨rfl, hb1⟩

set_option maxHeartbeats 1000000 in
theorem nestI_any (ao : Option Addr) (n cap : Nat) (xs : List Int) (w : World) (h : Sl w ao n cap xs) :
    Calls Try.prog 97 #[.slice ao n cap] w (Says w (.int .i64 (onVi xs (pairs nestF xs) (-1)))) := by
  have hbig := h.big
  have hlen := hid h.len
  go_enter Try.func97, Try.ntmps97
  go_wp2_with fail
  refine (nestW_any _ _ _ xs _ h).mono ?_
  rintro e w2 ⟨rfl, hb2⟩
  go_wp2
  go_ret
  exact ⟨rfl, hb2⟩

theorem denC (i u k v : Int) (w : World) : Calls Try.prog 111 #[.int .i64 i, .int .i64 u, .int .i64 k, .int .i64 v] w fun e w' => e = .returned (.bool (denF i u k v)) ∧ w' = w := by
  go_enter Try.func111, Try.ntmps111
  go_wp2
  all_goals go_ret
  all_goals refine ⟨ret_eq (congrArg Value.bool ?_), rfl⟩
  all_goals rw [Bool.eq_iff_iff]
  all_goals simp [denF] <;> omega

set_option maxHeartbeats 1000000 in
theorem denW_any (ao : Option Addr) (n cap : Nat) (xs : List Int) (w : World) (h : Sl w ao n cap xs) :
    Calls Try.prog 110 #[.slice ao n cap, .func (.func 111) #[] #[]] w (Says w (.int .i64 (onVi xs (pairs denF xs) (-1)))) := by
  have hbig := h.big
  have hlen := hid h.len
  by_cases hv : Valid xs
  · have h7 : n ≤ 7 := by have := hv.len; rw [hlen.out] at this; exact this
    have Hv := hid hv
    go_enter Try.func110, Try.ntmps110
    go_wp2_with fail
    refine (validI_any _ _ _ xs _ h).mono ?_
    rintro e w1 ⟨rfl, hb1⟩
    have hsz := hb1.size
    go_wp2
    clear hv
    obtain ⟨w0, hw0⟩ : ∃ w0 : World, w0 = w1 := ⟨_, rfl⟩
    subst hw0
    go_loopw [5, 15] (fun v i wr => ∃ (k : Nat), k ≤ n ∧ v = .int .i64 (prP denF xs k) ∧ i = .int .i64 k ∧ Below w.heap.size w wr)
      (fun _ i _ => n - (intOf i).toNat)
    case atStart => exact ⟨0, Nat.zero_le _, rfl, rfl, hb1⟩
    case round =>
      obtain ⟨k, hk, rfl, rfl, hbr⟩ := hrel
      have hbd := prP_bd denF xs k
      have hq1 := hbd.1
      have hq2 : prP denF xs k ≤ 49 := Int.le_trans hbd.2 (by have : (k : Int) * k ≤ 7 * 7 := Int.mul_le_mul (by omega) (by omega) (by omega) (by omega); omega)
      clear hbd
      by_cases hlt : k < n
      · obtain ⟨b, off, rfl, hblt, hc⟩ := h.row (by omega)
        have hcell := (hbr.cell (p := ⟨b, off + k, none⟩) hblt).trans (hc k hlt)
        have hi1 : (k : Int) < n := by omega
        have hle := h.le
        have hcc := hid hc
        clear hc
        go_wp2
        obtain ⟨wo, hwo⟩ : ∃ wo : World, wo = wr := ⟨_, rfl⟩
        subst hwo
        go_loopw [5, 24] (fun v j wr => ∃ (t : Nat), t ≤ k ∧ v = .int .i64 (prP denF xs k + inP denF xs k t) ∧ j = .int .i64 t ∧ Below w.heap.size w wr)
          (fun _ j _ => k - (intOf j).toNat)
        case atStart => exact ⟨0, Nat.zero_le _, by simp [inP, cntP], rfl, hbr⟩
        case round =>
          obtain ⟨t, ht, rfl, rfl, hbr⟩ := hrel
          have hbd := inP_bd denF xs k t
          have hq3 := hbd.1
          have hq4 := hbd.2
          clear hbd
          by_cases htl : t < k
          · have hcell1 := (hbr.cell (p := ⟨b, off + t, none⟩) hblt).trans (hcc.out t (by omega))
            have hi2 : (t : Int) < k := by omega
            by_cases hf : denF t (el xs t) k (el xs k) = true
            · have e1 := hid (inP_yes hf)
              go_wp2_with fail
              refine (denC _ _ _ _ _).mono ?_
              rintro e w' ⟨rfl, hww⟩
              subst hww
              rw [hf]
              clear hf
              go_wp2
              go_roundw
              case rel => exact ⟨t + 1, by omega, by rw [e1.out]; congr 1; omega, by go_num, hbr⟩
              case measure => simp [intOf]; omega
            · have hf2 : denF t (el xs t) k (el xs k) = false := by simpa using hf
              have e1 := hid (inP_no hf2)
              go_wp2_with fail
              refine (denC _ _ _ _ _).mono ?_
              rintro e w' ⟨rfl, hww⟩
              subst hww
              rw [hf2]
              clear hf hf2
              go_wp2
              go_roundw
              case rel => exact ⟨t + 1, by omega, by rw [e1.out], by go_num, hbr⟩
              case measure => simp [intOf]; omega
          · obtain rfl : t = k := by omega
            go_wp2
            go_roundw
            case rel => exact ⟨t + 1, by omega, by rw [prP], by go_num, hbr⟩
            case measure => simp [intOf]; omega
      · obtain rfl : k = n := by omega
        go_wp2
        go_ret
        rw [onVi_yes Hv.out]
        exact says_int (by rw [pairs, hlen.out]) hbr
  · have Hv := hid hv
    go_enter Try.func110, Try.ntmps110
    go_wp2_with fail
    refine (validI_any _ _ _ xs _ h).mono ?_
    rintro e w1 ⟨rfl, hb1⟩
    go_wp2
    go_ret
    rw [onVi_no Hv.out]
    exact ⟨rfl, hb1⟩

set_option maxHeartbeats 4000000 in
theorem crossS0 (b off n cap : Nat) (xs : List Int) (i k : Nat) (hi : i < n) (hk : k < n) (w : World) (hcell : w.cell? ⟨b, off + i, none⟩ = some (.int .i64 (el xs i))) (hcell1 : w.cell? ⟨b, off + k, none⟩ = some (.int .i64 (el xs k))) :
    Calls Try.prog 107 #[.slice (some ⟨b, off, none⟩) n cap, .int .i64 i, .int .i64 k] w fun e w' => e = .returned (.bool (giF crossF xs i k)) ∧ ∃ m, w' = w.drewN m := by
  have hi1 : (i : Int) < n := by omega
  have hk1 : (k : Int) < n := by omega
  obtain ⟨u, hu⟩ : ∃ u, u = el xs i := ⟨_, rfl⟩
  obtain ⟨v, hv⟩ : ∃ v, v = el xs k := ⟨_, rfl⟩
  have Hu := hid hu
  have Hv := hid hv
  rw [← hu] at hcell
  rw [← hv] at hcell1
  clear hu hv
  have hg : Hid (giF crossF xs i k = (decide ((i : Int) < k) && crossF i u k v)) := by rw [giF, Hu.out, Hv.out]; show _ = _; congr 1; simp
  go_enter Try.func107, Try.ntmps107
  cases c0 : decide ((i : Int) < k) <;> cases c1 : decide ((k : Int) ≤ u) <;> cases c2 : decide (u < v) <;> cases c3 : decide (v < (i : Int))
  all_goals (have c0n := c0; simp only [Int.ofNat_lt] at c0n)
  all_goals (go_wp2_with fail; go_quiet (fail); go_wp2; go_ret; exact ⟨ret_eq (congrArg Value.bool (by rw [hg.out]; simp_all [crossF])), _, rfl⟩)

set_option maxHeartbeats 4000000 in
theorem nestS0 (b off n cap : Nat) (xs : List Int) (i k : Nat) (hi : i < n) (hk : k < n) (w : World) (hcell : w.cell? ⟨b, off + i, none⟩ = some (.int .i64 (el xs i))) (hcell1 : w.cell? ⟨b, off + k, none⟩ = some (.int .i64 (el xs k))) :
    Calls Try.prog 106 #[.slice (some ⟨b, off, none⟩) n cap, .int .i64 i, .int .i64 k] w fun e w' => e = .returned (.bool (giF nestF xs i k)) ∧ ∃ m, w' = w.drewN m := by
  have hi1 : (i : Int) < n := by omega
  have hk1 : (k : Int) < n := by omega
  obtain ⟨u, hu⟩ : ∃ u, u = el xs i := ⟨_, rfl⟩
  obtain ⟨v, hv⟩ : ∃ v, v = el xs k := ⟨_, rfl⟩
  have Hu := hid hu
  have Hv := hid hv
  rw [← hu] at hcell
  rw [← hv] at hcell1
  clear hu hv
  have hg : Hid (giF nestF xs i k = (decide ((i : Int) < k) && nestF i u k v)) := by rw [giF, Hu.out, Hv.out]; show _ = _; congr 1; simp
  go_enter Try.func106, Try.ntmps106
  cases c0 : decide ((i : Int) < k) <;> cases c1 : decide ((k : Int) ≤ v) <;> cases c2 : decide (v < u) <;> cases c3 : decide (u < (i : Int))
  all_goals (have c0n := c0; simp only [Int.ofNat_lt] at c0n)
  all_goals (go_wp2_with fail; go_quiet (fail); go_wp2; go_ret; exact ⟨ret_eq (congrArg Value.bool (by rw [hg.out]; simp_all [nestF])), _, rfl⟩)

set_option maxHeartbeats 1000000 in
theorem crossG (ao : Option Addr) (n cap : Nat) (xs : List Int) (w : World) (h : Sl w ao n cap xs) (hv : Valid xs) :
    Calls Try.prog 79 #[.slice ao n cap, .bool false] w (Says w (.int .i64 (pairs crossF xs))) := by
  have hbig := h.big
  have hlen := hid h.len
  have h7 : n ≤ 7 := by have := hv.len; rw [hlen.out] at this; exact this
  have Hv := hid hv
  clear hv
  go_enter Try.func79, Try.ntmps79
  go_wp2
  go_loopw [5, 6] (fun v i wr => ∃ (i' : Nat), i' ≤ n ∧ v = .int .i64 (gdP crossF xs n i') ∧ i = .int .i64 i' ∧ Below w.heap.size w wr)
    (fun _ i _ => n - (intOf i).toNat)
  case atStart => exact ⟨0, Nat.zero_le _, rfl, rfl, Below.refl _ _⟩
  case round =>
    obtain ⟨i', hk, rfl, rfl, hbr⟩ := hrel
    have hbd := gdP_bd crossF xs n i'
    have hq1 := hbd.1
    have hq2 : gdP crossF xs n i' ≤ 49 := Int.le_trans hbd.2 (by have : (i' : Int) * n ≤ 7 * 7 := Int.mul_le_mul (by omega) (by omega) (by omega) (by omega); omega)
    clear hbd
    by_cases hlt : i' < n
    · obtain ⟨b, off, rfl, hblt, hc⟩ := h.row (by omega)
      have hi1 : (i' : Int) < n := by omega
      have hcc := hid hc
      clear hc
      go_wp2
      obtain ⟨wo, hwo⟩ : ∃ wo : World, wo = wr := ⟨_, rfl⟩
      subst hwo
      go_loopw [5, 7] (fun v j wr => ∃ (t : Nat), t ≤ n ∧ v = .int .i64 (gdP crossF xs n i' + giP crossF xs i' t) ∧ j = .int .i64 t ∧ Below w.heap.size w wr)
        (fun _ j _ => n - (intOf j).toNat)
      case atStart => exact ⟨0, Nat.zero_le _, by simp [giP, cntP], rfl, hbr⟩
      case round =>
        obtain ⟨t, ht, rfl, rfl, hbr⟩ := hrel
        have hbd := giP_bd crossF xs i' t
        have hq3 := hbd.1
        have hq4 := hbd.2
        clear hbd
        by_cases htl : t < n
        · have hcell := (hbr.cell (p := ⟨b, off + i', none⟩) hblt).trans (hcc.out i' hlt)
          have hcell1 := (hbr.cell (p := ⟨b, off + t, none⟩) hblt).trans (hcc.out t htl)
          have hi2 : (t : Int) < n := by omega
          go_wp2_with fail
          refine (crossS0 b off n cap xs i' t hlt htl wr hcell hcell1).mono ?_
          rintro e w' ⟨rfl, dm, hw'⟩
          subst hw'
          by_cases hf : giF crossF xs i' t = true
          · have e1 := hid (giP_yes hf)
            rw [hf]
            clear hf
            go_wp2
            go_roundw
            case rel => exact ⟨t + 1, by omega, by rw [e1.out]; congr 1; omega, by go_num, drewN_below hbr _⟩
            case measure => simp [intOf]; omega
          · have hf2 : giF crossF xs i' t = false := by simpa using hf
            have e1 := hid (giP_no hf2)
            rw [hf2]
            clear hf hf2
            go_wp2
            go_roundw
            case rel => exact ⟨t + 1, by omega, by rw [e1.out], by go_num, drewN_below hbr _⟩
            case measure => simp [intOf]; omega
        · obtain rfl : t = n := by omega
          go_wp2
          go_roundw
          case rel => exact ⟨i' + 1, by omega, by rw [gdP], by go_num, hbr⟩
          case measure => simp [intOf]; omega
    · obtain rfl : i' = n := by omega
      go_wp2
      go_ret
      exact says_int (by rw [← grid_pairs, hlen.out]) hbr

set_option maxHeartbeats 1000000 in
theorem nestG (ao : Option Addr) (n cap : Nat) (xs : List Int) (w : World) (h : Sl w ao n cap xs) (hv : Valid xs) :
    Calls Try.prog 79 #[.slice ao n cap, .bool true] w (Says w (.int .i64 (pairs nestF xs))) := by
  have hbig := h.big
  have hlen := hid h.len
  have h7 : n ≤ 7 := by have := hv.len; rw [hlen.out] at this; exact this
  have Hv := hid hv
  clear hv
  go_enter Try.func79, Try.ntmps79
  go_wp2
  go_loopw [5, 6] (fun v i wr => ∃ (i' : Nat), i' ≤ n ∧ v = .int .i64 (gdP nestF xs n i') ∧ i = .int .i64 i' ∧ Below w.heap.size w wr)
    (fun _ i _ => n - (intOf i).toNat)
  case atStart => exact ⟨0, Nat.zero_le _, rfl, rfl, Below.refl _ _⟩
  case round =>
    obtain ⟨i', hk, rfl, rfl, hbr⟩ := hrel
    have hbd := gdP_bd nestF xs n i'
    have hq1 := hbd.1
    have hq2 : gdP nestF xs n i' ≤ 49 := Int.le_trans hbd.2 (by have : (i' : Int) * n ≤ 7 * 7 := Int.mul_le_mul (by omega) (by omega) (by omega) (by omega); omega)
    clear hbd
    by_cases hlt : i' < n
    · obtain ⟨b, off, rfl, hblt, hc⟩ := h.row (by omega)
      have hi1 : (i' : Int) < n := by omega
      have hcc := hid hc
      clear hc
      go_wp2
      obtain ⟨wo, hwo⟩ : ∃ wo : World, wo = wr := ⟨_, rfl⟩
      subst hwo
      go_loopw [5, 7] (fun v j wr => ∃ (t : Nat), t ≤ n ∧ v = .int .i64 (gdP nestF xs n i' + giP nestF xs i' t) ∧ j = .int .i64 t ∧ Below w.heap.size w wr)
        (fun _ j _ => n - (intOf j).toNat)
      case atStart => exact ⟨0, Nat.zero_le _, by simp [giP, cntP], rfl, hbr⟩
      case round =>
        obtain ⟨t, ht, rfl, rfl, hbr⟩ := hrel
        have hbd := giP_bd nestF xs i' t
        have hq3 := hbd.1
        have hq4 := hbd.2
        clear hbd
        by_cases htl : t < n
        · have hcell := (hbr.cell (p := ⟨b, off + i', none⟩) hblt).trans (hcc.out i' hlt)
          have hcell1 := (hbr.cell (p := ⟨b, off + t, none⟩) hblt).trans (hcc.out t htl)
          have hi2 : (t : Int) < n := by omega
          go_wp2_with fail
          refine (nestS0 b off n cap xs i' t hlt htl wr hcell hcell1).mono ?_
          rintro e w' ⟨rfl, dm, hw'⟩
          subst hw'
          by_cases hf : giF nestF xs i' t = true
          · have e1 := hid (giP_yes hf)
            rw [hf]
            clear hf
            go_wp2
            go_roundw
            case rel => exact ⟨t + 1, by omega, by rw [e1.out]; congr 1; omega, by go_num, drewN_below hbr _⟩
            case measure => simp [intOf]; omega
          · have hf2 : giF nestF xs i' t = false := by simpa using hf
            have e1 := hid (giP_no hf2)
            rw [hf2]
            clear hf hf2
            go_wp2
            go_roundw
            case rel => exact ⟨t + 1, by omega, by rw [e1.out], by go_num, drewN_below hbr _⟩
            case measure => simp [intOf]; omega
        · obtain rfl : t = n := by omega
          go_wp2
          go_roundw
          case rel => exact ⟨i' + 1, by omega, by rw [gdP], by go_num, hbr⟩
          case measure => simp [intOf]; omega
    · obtain rfl : i' = n := by omega
      go_wp2
      go_ret
      exact says_int (by rw [← grid_pairs, hlen.out]) hbr

end Go.Proofs.Ytjgaglfinpeeoac

/- Places above, fixed places, records and shifts, in the program and in its model. Condition: the list's cells can be read. -/
namespace Go.Proofs.Ytjgaglfinpeeoac
open Go.RowKit

set_option maxHeartbeats 1000000 in
theorem above_any (ao : Option Addr) (n cap : Nat) (xs : List Int) (w : World) (h : Sl w ao n cap xs) (h7 : n ≤ 1000) :
    Calls Try.prog 75 #[.slice ao n cap] w (Made w (above xs)) := by
  have hbig := h.big
  have hlen := hid h.len
  go_enter Try.func75, Try.ntmps75
  go_wp2
  go_loopw [3, 4] (fun v i wr => ∃ (k m : Nat) (ao' : Option Addr) (cap' : Nat), k ≤ n ∧ v = .slice ao' m cap' ∧ i = .int .i64 k ∧ Below w.heap.size w wr ∧ Own wr w.heap.size (.slice ao' m cap') (plP upF xs k))
    (fun _ i _ => n - (intOf i).toNat)
  case atStart => exact ⟨0, _, _, _, Nat.zero_le _, rfl, rfl, (Below.refl _ _).alloc (Nat.le_refl _) _, own_lit w⟩
  case round =>
    obtain ⟨k, m, ao', cap', hk, rfl, rfl, hbr, ho⟩ := hrel
    have hsz := hbr.size
    have hl : (plP upF xs k).length ≤ 2000000 := by have := plP_len upF xs k; omega
    by_cases hlt : k < n
    · obtain ⟨b, off, rfl, hblt, hc⟩ := h.row (by omega)
      have hcell := (hbr.cell (p := ⟨b, off + k, none⟩) hblt).trans (hc k hlt)
      have hi1 : (k : Int) < n := by omega
      clear hc
      by_cases he : (k : Int) < el xs k
      · have Hf := hid he
        go_wp2_with (at_builtin; refine app_int _ _ rfl _ _ rfl w.heap.size _ _ rfl ho rfl hl hsz ?_)
        intro u' w' ho' hg'
        have hb' := below_app hbr ho hg'
        rw [← plP_yes (f := upF) (by simp [upF, Hf.out])] at ho'
        have hl' := hid (rfl : (plP upF xs (k + 1)).length = (plP upF xs (k + 1)).length)
        obtain ⟨ao', cap', rfl, hs'⟩ := ho'.sl
        go_wp2
        go_roundw
        case rel => exact ⟨k + 1, _, _, _, by omega, rfl, by go_num, hb', ho'⟩
        case measure => simp [intOf]; omega
      · have Hf := hid he
        have he' : el xs k ≤ k := by omega
        go_wp2
        go_roundw
        case rel => exact ⟨k + 1, _, _, _, by omega, rfl, by go_num, hbr, by rw [plP_no (by simp [upF]; have := Hf.out; omega)]; exact ho⟩
        case measure => simp [intOf]; omega
    · obtain rfl : k = n := by omega
      go_wp2
      go_ret
      refine ⟨_, rfl, ?_, hbr⟩
      rw [above, hlen.out]
      exact ho

theorem aboveC (i u : Int) (w : World) : Calls Try.prog 116 #[.int .i64 i, .int .i64 u] w fun e w' => e = .returned (.bool (upF i u)) ∧ w' = w := by
  go_enter Try.func116, Try.ntmps116
  go_wp2
  go_ret
  exact ⟨ret_eq (by congr 1), rfl⟩

set_option maxHeartbeats 1000000 in
theorem aboveW_any (ao : Option Addr) (n cap : Nat) (xs : List Int) (w : World) (h : Sl w ao n cap xs) :
    Calls Try.prog 115 #[.slice ao n cap, .func (.func 116) #[] #[]] w (Made w (onV xs (above xs))) := by
  have hbig := h.big
  have hlen := hid h.len
  by_cases hv : Valid xs
  · have h7 : n ≤ 7 := by have := hv.len; rw [hlen.out] at this; exact this
    have Hv := hid hv
    go_enter Try.func115, Try.ntmps115
    go_wp2_with fail
    refine (validI_any _ _ _ xs _ h).mono ?_
    rintro e w1 ⟨rfl, hb1⟩
    have hsz := hb1.size
    go_wp2
    clear hsz
    go_loopw [5, 14] (fun v i wr => ∃ (k m : Nat) (ao' : Option Addr) (cap' : Nat), k ≤ n ∧ v = .slice ao' m cap' ∧ i = .int .i64 k ∧ Below w.heap.size w wr ∧ Own wr w.heap.size (.slice ao' m cap') (plP upF xs k))
      (fun _ i _ => n - (intOf i).toNat)
    case atStart => exact ⟨0, _, _, _, Nat.zero_le _, rfl, rfl, hb1.alloc hb1.size _, own_lit_at hb1.size⟩
    case round =>
      obtain ⟨k, m, ao', cap', hk, rfl, rfl, hbr, ho⟩ := hrel
      have hsz := hbr.size
      have hl : (plP upF xs k).length ≤ 2000000 := by have := plP_len upF xs k; omega
      by_cases hlt : k < n
      · obtain ⟨b, off, rfl, hblt, hc⟩ := h.row (by omega)
        have hcell := (hbr.cell (p := ⟨b, off + k, none⟩) hblt).trans (hc k hlt)
        have hi1 : (k : Int) < n := by omega
        clear hc
        by_cases he : (k : Int) < el xs k
        · have Hf := hid he
          clear he 
          go_wp2_with fail
          refine (aboveC _ _ _).mono ?_
          rintro e w' ⟨rfl, hww⟩
          subst hww
          rw [show upF k (el xs k) = true by simp [upF]; first | exact Hf.out | (have := Hf.out; omega)]
          go_wp2_with (at_builtin; refine app_int _ _ rfl _ _ rfl w.heap.size _ _ rfl ho rfl hl hsz ?_)
          intro u' w' ho' hg'
          have hb' := below_app hbr ho hg'
          rw [← plP_yes (f := upF) (by simp [upF, Hf.out])] at ho'
          have hl' := hid (rfl : (plP upF xs (k + 1)).length = (plP upF xs (k + 1)).length)
          obtain ⟨ao', cap', rfl, hs'⟩ := ho'.sl
          go_wp2
          go_roundw
          case rel => exact ⟨k + 1, _, _, _, by omega, rfl, by go_num, hb', ho'⟩
          case measure => simp [intOf]; omega
        · have Hf := hid he
          have he' : el xs k ≤ k := by omega
          clear he he'
          go_wp2_with fail
          refine (aboveC _ _ _).mono ?_
          rintro e w' ⟨rfl, hww⟩
          subst hww
          rw [show upF k (el xs k) = false by simp [upF]; first | exact Hf.out | (have := Hf.out; omega)]
          go_wp2
          go_roundw
          case rel => exact ⟨k + 1, _, _, _, by omega, rfl, by go_num, hbr, by rw [plP_no (by simp [upF]; have := Hf.out; omega)]; exact ho⟩
          case measure => simp [intOf]; omega
      · obtain rfl : k = n := by omega
        go_wp2
        go_ret
        refine ⟨_, rfl, ?_, hbr⟩
        rw [onV_yes Hv.out, above, hlen.out]
        exact ho
  · have Hv := hid hv
    go_enter Try.func115, Try.ntmps115
    go_wp2_with fail
    refine (validI_any _ _ _ xs _ h).mono ?_
    rintro e w1 ⟨rfl, hb1⟩
    go_wp2
    go_ret
    refine ⟨_, rfl, ?_, hb1⟩
    rw [onV_no Hv.out]
    exact Own.nil

set_option maxHeartbeats 1000000 in
theorem aboveI_any (ao : Option Addr) (n cap : Nat) (xs : List Int) (w : World) (h : Sl w ao n cap xs) :
    Calls Try.prog 100 #[.slice ao n cap] w (Made w (onV xs (above xs))) := by
  have hbig := h.big
  have hlen := hid h.len
  go_enter Try.func100, Try.ntmps100
  go_wp2_with fail
  refine (aboveW_any _ _ _ xs _ h).mono ?_
  rintro e w2 ⟨u2, rfl, ho2, hb2⟩
  go_wp2
  go_ret
  exact ⟨_, rfl, ho2, hb2⟩

set_option maxHeartbeats 1000000 in
theorem records_any (ao : Option Addr) (n cap : Nat) (xs : List Int) (w : World) (h : Sl w ao n cap xs) (h7 : n ≤ 1000) :
    Calls Try.prog 77 #[.slice ao n cap] w (Made w (records xs)) := by
  have hbig := h.big
  have hlen := hid h.len
  go_enter Try.func77, Try.ntmps77
  go_wp2
  go_loopw [3, 4, 5] (fun v g i wr => ∃ (k m : Nat) (ao' : Option Addr) (cap' : Nat), k ≤ n ∧ v = .slice ao' m cap' ∧ g = .int .i64 (mxP xs k) ∧ i = .int .i64 k ∧ Below w.heap.size w wr ∧ Own wr w.heap.size (.slice ao' m cap') (rcP xs k))
    (fun _ _ i _ => n - (intOf i).toNat)
  case atStart => exact ⟨0, _, _, _, Nat.zero_le _, rfl, rfl, rfl, (Below.refl _ _).alloc (Nat.le_refl _) _, own_lit w⟩
  case round =>
    obtain ⟨k, m, ao', cap', hk, rfl, rfl, rfl, hbr, ho⟩ := hrel
    have hsz := hbr.size
    have hl : (rcP xs k).length ≤ 2000000 := by have := rcP_len xs k; omega
    by_cases hlt : k < n
    · obtain ⟨b, off, rfl, hblt, hc⟩ := h.row (by omega)
      have hcell := (hbr.cell (p := ⟨b, off + k, none⟩) hblt).trans (hc k hlt)
      have hi1 : (k : Int) < n := by omega
      have hcc := hid hc
      clear hc
      by_cases he : mxP xs k < el xs k
      · have He := hid he
        go_wp2_with (at_builtin; refine app_int _ _ rfl _ _ rfl w.heap.size _ _ rfl ho rfl hl hsz ?_)
        intro u' w' ho' hg'
        have hb' := below_app hbr ho hg'
        rw [← rcP_yes He.out] at ho'
        have hl' := hid (rfl : (rcP xs (k + 1)).length = (rcP xs (k + 1)).length)
        obtain ⟨ao', cap', rfl, hs'⟩ := ho'.sl
        have hcell' := (hb'.cell (p := ⟨b, off + k, none⟩) hblt).trans (hcc.out k hlt)
        go_wp2
        go_roundw
        case rel => exact ⟨k + 1, _, _, _, by omega, rfl, by rw [mxP_yes He.out], by go_num, hb', ho'⟩
        case measure => simp [intOf]; omega
      · have he' : el xs k ≤ mxP xs k := by omega
        have He := hid he'
        go_wp2
        go_roundw
        case rel => exact ⟨k + 1, _, _, _, by omega, rfl, by rw [mxP_no He.out], by go_num, hbr, by rw [rcP_no He.out]; exact ho⟩
        case measure => simp [intOf]; omega
    · obtain rfl : k = n := by omega
      go_wp2
      go_ret
      refine ⟨_, rfl, ?_, hbr⟩
      rw [records, hlen.out]
      exact ho

set_option maxHeartbeats 1000000 in
theorem recordsI_any (ao : Option Addr) (n cap : Nat) (xs : List Int) (w : World) (h : Sl w ao n cap xs) :
    Calls Try.prog 101 #[.slice ao n cap] w (Made w (onV xs (records xs))) := by
  have hbig := h.big
  have hlen := hid h.len
  by_cases hv : Valid xs
  · have h7 : n ≤ 7 := by have := hv.len; rw [hlen.out] at this; exact this
    have Hv := hid hv
    go_enter Try.func101, Try.ntmps101
    go_wp2_with fail
    refine (validI_any _ _ _ xs _ h).mono ?_
    rintro e w1 ⟨rfl, hb1⟩
    have hsz := hb1.size
    go_wp2
    clear hsz
    go_loopw [3, 4, 13] (fun v g i wr => ∃ (k m : Nat) (ao' : Option Addr) (cap' : Nat), k ≤ n ∧ v = .slice ao' m cap' ∧ g = .int .i64 (mxP xs k) ∧ i = .int .i64 k ∧ Below w.heap.size w wr ∧ Own wr w.heap.size (.slice ao' m cap') (rcP xs k))
      (fun _ _ i _ => n - (intOf i).toNat)
    case atStart => exact ⟨0, _, _, _, Nat.zero_le _, rfl, rfl, rfl, hb1.alloc hb1.size _, own_lit_at hb1.size⟩
    case round =>
      obtain ⟨k, m, ao', cap', hk, rfl, rfl, rfl, hbr, ho⟩ := hrel
      have hsz := hbr.size
      have hl : (rcP xs k).length ≤ 2000000 := by have := rcP_len xs k; omega
      by_cases hlt : k < n
      · obtain ⟨b, off, rfl, hblt, hc⟩ := h.row (by omega)
        have hcell := (hbr.cell (p := ⟨b, off + k, none⟩) hblt).trans (hc k hlt)
        have hi1 : (k : Int) < n := by omega
        have hcc := hid hc
        clear hc
        by_cases he : mxP xs k < el xs k
        · have He := hid he
          go_wp2_with (at_builtin; refine app_int _ _ rfl _ _ rfl w.heap.size _ _ rfl ho rfl hl hsz ?_)
          intro u' w' ho' hg'
          have hb' := below_app hbr ho hg'
          rw [← rcP_yes He.out] at ho'
          have hl' := hid (rfl : (rcP xs (k + 1)).length = (rcP xs (k + 1)).length)
          obtain ⟨ao', cap', rfl, hs'⟩ := ho'.sl
          have hcell' := (hb'.cell (p := ⟨b, off + k, none⟩) hblt).trans (hcc.out k hlt)
          go_wp2
          go_roundw
          case rel => exact ⟨k + 1, _, _, _, by omega, rfl, by rw [mxP_yes He.out], by go_num, hb', ho'⟩
          case measure => simp [intOf]; omega
        · have he' : el xs k ≤ mxP xs k := by omega
          have He := hid he'
          go_wp2
          go_roundw
          case rel => exact ⟨k + 1, _, _, _, by omega, rfl, by rw [mxP_no He.out], by go_num, hbr, by rw [rcP_no He.out]; exact ho⟩
          case measure => simp [intOf]; omega
      · obtain rfl : k = n := by omega
        go_wp2
        go_ret
        refine ⟨_, rfl, ?_, hbr⟩
        rw [onV_yes Hv.out, records, hlen.out]
        exact ho
  · have Hv := hid hv
    go_enter Try.func101, Try.ntmps101
    go_wp2_with fail
    refine (validI_any _ _ _ xs _ h).mono ?_
    rintro e w1 ⟨rfl, hb1⟩
    go_wp2
    go_ret
    refine ⟨_, rfl, ?_, hb1⟩
    rw [onV_no Hv.out]
    exact Own.nil

theorem max_lt (a b : Int) : (if a < b then b else a) = max a b := by rw [Int.max_def]; split <;> split <;> omega

end Go.Proofs.Ytjgaglfinpeeoac

/- Tables and their sums, in the program and in its model: lesserBehind, sum, TableOf, InversionsOf, SignOf. Condition: the list's cells can be read; of sum: few small numbers. -/
namespace Go.Proofs.Ytjgaglfinpeeoac
open Go.RowKit

set_option maxHeartbeats 1000000 in
theorem lesser_any (ao : Option Addr) (n cap : Nat) (xs : List Int) (w : World) (h : Sl w ao n cap xs) (h7 : n ≤ 1000) :
    Calls Try.prog 105 #[.slice ao n cap] w (Made w (table xs)) := by
  have hbig := h.big
  have hlen := hid h.len
  go_enter Try.func105, Try.ntmps105
  go_wp2
  go_loopw [3, 4] (fun v i wr => ∃ (k : Nat) (ao' : Option Addr) (cap' : Nat), k ≤ n ∧ v = .slice ao' k cap' ∧ i = .int .i64 k ∧ Below w.heap.size w wr ∧ Own wr w.heap.size (.slice ao' k cap') ((List.range k).map (lb xs)))
    (fun v _ _ => n - lenOf v)
  case atStart => exact ⟨0, _, _, Nat.zero_le _, rfl, rfl, (Below.refl _ _).alloc (Nat.le_refl _) _, own_lit w⟩
  case round =>
    obtain ⟨k, ao', cap', hk, rfl, rfl, hbr, ho⟩ := hrel
    by_cases hlt : k < n
    · obtain ⟨b, off, rfl, hblt, hc⟩ := h.row (by omega)
      have hl : ((List.range k).map (lb xs)).length ≤ 2000000 := by rw [map_range_len]; omega
      have hcc := hid hc
      clear hc
      go_wp2
      obtain ⟨wo, hwo⟩ : ∃ wo : World, wo = wr := ⟨_, rfl⟩
      subst hwo
      go_loopw [5, 6] (fun c j wr => ∃ (t : Nat), t ≤ n - 1 - k ∧ c = .int .i64 (lbP xs k t) ∧ j = .int .i64 ((k : Int) + 1 + t) ∧ Below w.heap.size w wr ∧ Own wr w.heap.size (.slice ao' k cap') ((List.range k).map (lb xs)))
        (fun _ j _ => n - (intOf j).toNat)
      case atStart => exact ⟨0, Nat.zero_le _, rfl, by simp, hbr, ho⟩
      case round =>
        obtain ⟨t, ht, rfl, rfl, hbr, ho⟩ := hrel
        have hbd := lbP_bd xs k t
        have hsz := hbr.size
        by_cases htl : t < n - 1 - k
        · have hcell1 := (hbr.cell (p := ⟨b, off + (k + 1 + t), none⟩) hblt).trans (hcc.out (k + 1 + t) (by omega))
          have hcell2 := (hbr.cell (p := ⟨b, off + k, none⟩) hblt).trans (hcc.out k hlt)
          have hi1 : (k : Int) + 1 + t < n := by omega
          go_wp2
          go_quiet (fail)
          go_wp2
          · have he : el xs (k + 1 + t) < el xs k := by assumption
            go_roundw
            case rel => exact ⟨t + 1, by omega, by rw [lbP_yes he], by go_num, drewN_below hbr _, ho⟩
            case measure => simp [intOf]; omega
          · have he : el xs k ≤ el xs (k + 1 + t) := by assumption
            go_roundw
            case rel => exact ⟨t + 1, by omega, by rw [lbP_no he], by go_num, drewN_below hbr _, ho⟩
            case measure => simp [intOf]; omega
        · obtain rfl : t = n - 1 - k := by omega
          have hi1 : ¬ (k : Int) + 1 + (n - 1 - k : Nat) < n := by omega
          go_wp2_with (at_builtin; refine app_int _ _ rfl _ _ rfl w.heap.size _ _ rfl ho rfl hl hsz ?_)
          intro u' w' ho' hg'
          have hb' := below_app hbr ho hg'
          have e : lbP xs k (n - 1 - k) = lb xs k := by rw [lb, hlen.out]
          rw [e] at ho'
          obtain ⟨ao', cap', rfl, hs'⟩ := ho'.sl
          rw [← map_range_succ (lb xs), map_range_len] at *
          clear e hbd
          go_wp2
          go_roundw
          case rel => exact ⟨k + 1, _, _, by omega, rfl, by go_num, hb', ho'⟩
          case measure => simp [lenOf]; omega
    · obtain rfl : k = n := by omega
      go_wp2
      go_ret
      refine ⟨_, rfl, ?_, hbr⟩
      rw [table, hlen.out]
      exact ho

set_option maxHeartbeats 1000000 in
theorem sum_any (ao : Option Addr) (n cap : Nat) (xs : List Int) (w : World) (h : Sl w ao n cap xs) (h7 : n ≤ 1000) (hs : Hid (∀ j, j < xs.length → 0 ≤ el xs j ∧ el xs j ≤ (1000 : Nat))) :
    Calls Try.prog 104 #[.slice ao n cap] w (Says w (.int .i64 (sumL xs))) := by
  have hbig := h.big
  have hlen := hid h.len
  go_enter Try.func104, Try.ntmps104
  go_wp2
  go_loopw [3, 4] (fun v i wr => ∃ (k : Nat), k ≤ n ∧ v = .int .i64 (sumTo xs k) ∧ i = .int .i64 k ∧ Below w.heap.size w wr)
    (fun _ i _ => n - (intOf i).toNat)
  case atStart => exact ⟨0, Nat.zero_le _, rfl, rfl, Below.refl _ _⟩
  case round =>
    obtain ⟨k, hk, rfl, rfl, hbr⟩ := hrel
    have hbd := sumTo_bd hs.out k (by rw [hlen.out]; exact hk)
    have hb2 : sumTo xs k ≤ 1000000 := Int.le_trans hbd.2 (by have : (k : Int) * (1000 : Nat) ≤ 1000 * (1000 : Nat) := Int.mul_le_mul_of_nonneg_right (by omega) (by omega); omega)
    have hb1 := hbd.1
    clear hbd
    by_cases hlt : k < n
    · obtain ⟨b, off, rfl, hblt, hc⟩ := h.row (by omega)
      have hcell := (hbr.cell (p := ⟨b, off + k, none⟩) hblt).trans (hc k hlt)
      have he := hs.out k (by rw [hlen.out]; exact hlt)
      have he0 := he.1
      have he1 := he.2
      clear hc he
      go_wp2
      go_roundw
      case rel => exact ⟨k + 1, by omega, by rw [sumTo], by go_num, hbr⟩
      case measure => simp [intOf]; omega
    · obtain rfl : k = n := by omega
      go_wp2
      go_ret
      exact says_int (by rw [sumL, hlen.out]) hbr

set_option maxHeartbeats 1000000 in
theorem tableI_any (ao : Option Addr) (n cap : Nat) (xs : List Int) (w : World) (h : Sl w ao n cap xs) :
    Calls Try.prog 109 #[.slice ao n cap] w (Made w (onV xs (table xs))) := by
  have hbig := h.big
  have hlen := hid h.len
  by_cases hv : Valid xs
  · have h7 : n ≤ 7 := by have := hv.len; rw [hlen.out] at this; exact this
    have Hv := hid hv
    go_enter Try.func109, Try.ntmps109
    go_wp2_with fail
    refine (validI_any _ _ _ xs _ h).mono ?_
    rintro e w1 ⟨rfl, hb1⟩
    have hsz := hb1.size
    go_wp2_with (at_make; refine make_ints _ rfl _ _ rfl _ _ n rfl rfl rfl rfl (by omega) ?_)
    intro w2 ho2 hb2
    clear hv
    have hb3 := hb1.trans (hb2.mono hb1.size)
    go_wp2
    go_loopw [16] (fun i wr => ∃ (k : Nat) (zs : List Int), k ≤ n ∧ i = .int .i64 k ∧ Below w.heap.size w wr ∧ OwS wr w1.heap.size w1.heap.size n n zs ∧ Hid (∀ j, j < k → el zs j = lb xs j) ∧ Hid (∀ j, k ≤ j → j < n → el zs j = 0))
      (fun i _ => n - (intOf i).toNat)
    case atStart => exact ⟨0, _, Nat.zero_le _, rfl, hb3, ho2, fun j hj => by omega, fun j _ hj => by simp [el, hj]⟩
    case round =>
      obtain ⟨k, zs, hk, rfl, hbr, hr, hz1, hz2⟩ := hrel
      by_cases hlt : k < n
      · obtain ⟨b, off, rfl, hblt, hc⟩ := h.row (by omega)
        have hcell := (hbr.cell (p := ⟨b, off + k, none⟩) hblt).trans (hc k hlt)
        by_cases hcap : cap = k + 1
        · have hn1 : n = k + 1 := by have := h.le; omega
          have e : el zs k = lb xs k := by rw [hz2.out k (Nat.le_refl _) hlt, lb, hlen.out, hn1, show k + 1 - 1 - k = 0 by omega, lbP_zero]
          have He := hid e
          have Hn := hid hn1
          have hcap2 : (cap : Int) = k + 1 := by omega
          have hz0 : n - (k + 1) = 0 := by omega
          clear e hn1
          go_wp2
          go_rounds 1
          go_roundw
          case rel => exact ⟨k + 1, zs, by omega, by go_num, hbr, hr, upto_step hz1.out He.out, fun j hj hjn => hz2.out j (by omega) hjn⟩
          case measure => simp [intOf]; omega
        · have hcap2 : ¬ (cap : Int) = k + 1 := by omega
          have hcc := hid hc
          clear hc
          have hlk := hid (hz1.out k)
          go_wp2
          obtain ⟨wo, hwo⟩ : ∃ wo : World, wo = wr := ⟨_, rfl⟩
          subst hwo
          go_loopw [26] (fun j wr => ∃ (t : Nat) (zs : List Int), t ≤ n - 1 - k ∧ j = .int .i64 t ∧ Below w.heap.size w wr ∧ OwS wr w1.heap.size w1.heap.size n n zs ∧ Hid (∀ j, j < k → el zs j = lb xs j) ∧ Hid (∀ j, k < j → j < n → el zs j = 0) ∧ el zs k = lbP xs k t)
            (fun j _ => n - 1 - k - (intOf j).toNat)
          case atStart => exact ⟨0, zs, Nat.zero_le _, rfl, hbr, hr, hz1, fun j hj hjn => hz2.out j (by omega) hjn, hz2.out k (Nat.le_refl _) hlt⟩
          case round =>
            obtain ⟨t, zs, ht, rfl, hbr, hr, hz1, hz2, hzk⟩ := hrel
            have hbd := lbP_bd xs k t
            have hzl := hid hr.len
            by_cases htl : t < n - 1 - k
            · have hcell1 : wr.cell? ⟨b, off + (k + 1) + t, none⟩ = some (.int .i64 (el xs (k + 1 + t))) := (hbr.cell (p := ⟨b, off + (k + 1) + t, none⟩) hblt).trans (by have := hcc.out (k + 1 + t) (by omega); rw [← this, Nat.add_assoc off])
              have hfr := hr.frozen k
              have hcur := hr.cell hlt
              rw [hzk] at hcur
              have Hzk := hid hzk
              clear hzk
              go_wp2
              · have he : el xs (k + 1 + t) < el xs k := by assumption
                go_roundw
                case rel =>
                  refine ⟨t + 1, zs.set k (lbP xs k t + 1), by omega, by go_num, hbr.setCell hsz _, hr.set _ _, fun j hj => ?_, fun j hj hjn => ?_, ?_⟩
                  · rw [el_set_ne (by omega)]; exact hz1.out j hj
                  · rw [el_set_ne (by omega)]; exact hz2.out j hj hjn
                  · rw [el_set_same (by rw [hzl.out]; exact hlt), lbP_yes he]
                case measure => simp [intOf]; omega
              · have he : el xs k ≤ el xs (k + 1 + t) := by assumption
                go_roundw
                case rel => exact ⟨t + 1, zs, by omega, by go_num, hbr, hr, hz1, hz2, by rw [lbP_no he]; exact Hzk.out⟩
                case measure => simp [intOf]; omega
            · obtain rfl : t = n - 1 - k := by omega
              have e : lbP xs k (n - 1 - k) = lb xs k := by rw [lb, hlen.out]
              rw [e] at hzk
              have Hzk := hid hzk
              clear hzk e
              go_wp2
              go_roundw
              case rel => exact ⟨k + 1, zs, by omega, by go_num, hbr, hr, upto_step hz1.out Hzk.out, fun j hj hjn => hz2.out j (by omega) hjn⟩
              case measure => simp [intOf]; omega
      · obtain rfl : k = n := by omega
        go_wp2
        go_ret
        refine ⟨_, rfl, ?_, hbr⟩
        have e : zs = table xs := ext_el (by rw [hr.len, table_len, hlen.out]) (fun j hj => by rw [hr.len] at hj; rw [hz1.out j hj, el_table (by rw [hlen.out]; exact hj)])
        rw [onV_yes Hv.out, ← e]
        exact hr.own.mono hsz
  · have Hv := hid hv
    go_enter Try.func109, Try.ntmps109
    go_wp2_with fail
    refine (validI_any _ _ _ xs _ h).mono ?_
    rintro e w1 ⟨rfl, hb1⟩
    go_wp2
    go_ret
    refine ⟨_, rfl, ?_, hb1⟩
    rw [onV_no Hv.out]
    exact Own.nil

theorem table_small {xs : List Int} (h : Valid xs) : ∀ j, j < (table xs).length → 0 ≤ el (table xs) j ∧ el (table xs) j ≤ (1000 : Nat) := fun j hj => by
  have := table_bd xs j hj
  have := h.len
  omega

set_option maxHeartbeats 1000000 in
theorem invsI_any (ao : Option Addr) (n cap : Nat) (xs : List Int) (w : World) (h : Sl w ao n cap xs) :
    Calls Try.prog 93 #[.slice ao n cap] w (Says w (.int .i64 (onVi xs (sumL (table xs)) (-1)))) := by
  have hbig := h.big
  have hlen := hid h.len
  by_cases hv : Valid xs
  · have h7 : n ≤ 7 := by have := hv.len; rw [hlen.out] at this; exact this
    have Hv := hid hv
    go_enter Try.func93, Try.ntmps93
    go_wp2_with fail
    refine (validI_any _ _ _ xs _ h).mono ?_
    rintro e w1 ⟨rfl, hb1⟩
    have hsz := hb1.size
    go_wp2_with fail
    refine (tableI_any _ _ _ xs _ (h.later hb1)).mono ?_
    rintro e w2 ⟨u2, rfl, ho2, hb2⟩
    rw [onV_yes Hv.out] at ho2
    obtain ⟨a2, c2, rfl, hs2⟩ := ho2.sl
    have hl2 : (table xs).length ≤ 7 := by rw [table_len, hlen.out]; omega
    have hts := hid (table_small Hv.out)
    have hb3 := hb1.trans (hb2.mono hsz)
    clear hv
    obtain ⟨ts, Hts⟩ : ∃ ts, Hid (ts = table xs) := ⟨_, rfl⟩
    rw [← Hts.out] at hs2 hl2 hts ⊢
    obtain ⟨m, hm⟩ : ∃ m, ts.length = m := ⟨_, rfl⟩
    rw [hm] at hs2 hl2 ⊢
    have Hm := hid hm
    clear hm ho2
    go_wp2
    go_loopw [3, 12] (fun v i wr => ∃ (k : Nat), k ≤ m ∧ v = .int .i64 (sumTo ts k) ∧ i = .int .i64 k ∧ Below w2.heap.size w2 wr)
      (fun _ i _ => m - (intOf i).toNat)
    case atStart => exact ⟨0, Nat.zero_le _, rfl, rfl, Below.refl _ _⟩
    case round =>
      obtain ⟨k, hk, rfl, rfl, hbr⟩ := hrel
      have hbd := sumTo_bd hts.out k (by rw [Hm.out]; exact hk)
      have hbb2 : sumTo ts k ≤ 1000000 := Int.le_trans hbd.2 (by have : (k : Int) * (1000 : Nat) ≤ 1000 * (1000 : Nat) := Int.mul_le_mul_of_nonneg_right (by omega) (by omega); omega)
      have hbb1 := hbd.1
      clear hbd
      by_cases hlt : k < m
      · obtain ⟨b, off, rfl, hblt, hc⟩ := hs2.row (by omega)
        have hcell := (hbr.cell (p := ⟨b, off + k, none⟩) hblt).trans (hc k hlt)
        have he := hts.out k (by rw [Hm.out]; exact hlt)
        have he0 := he.1
        have he1 := he.2
        clear hc he
        go_wp2
        go_roundw
        case rel => exact ⟨k + 1, by omega, by rw [sumTo], by go_num, hbr⟩
        case measure => simp [intOf]; omega
      · obtain rfl : k = m := by omega
        go_wp2
        go_ret
        rw [onVi_yes Hv.out]
        exact says_int (by rw [← Hts.out, sumL, Hm.out]) (hb3.trans (hbr.mono hb3.size))
  · have Hv := hid hv
    go_enter Try.func93, Try.ntmps93
    go_wp2_with fail
    refine (validI_any _ _ _ xs _ h).mono ?_
    rintro e w1 ⟨rfl, hb1⟩
    go_wp2
    go_ret
    rw [onVi_no Hv.out]
    exact ⟨rfl, hb1⟩

end Go.Proofs.Ytjgaglfinpeeoac

/- Descents, major indices and signs, in the program and in its model. Condition: the list's cells can be read. -/
namespace Go.Proofs.Ytjgaglfinpeeoac
open Go.RowKit

set_option maxHeartbeats 1000000 in
theorem descents_any (ao : Option Addr) (n cap : Nat) (xs : List Int) (w : World) (h : Sl w ao n cap xs) (h7 : n ≤ 1000) :
    Calls Try.prog 74 #[.slice ao n cap] w (Made w (desc xs)) := by
  have hbig := h.big
  have hlen := hid h.len
  go_enter Try.func74, Try.ntmps74
  go_wp2
  go_loopw [3, 4] (fun v i wr => ∃ (k m : Nat) (ao' : Option Addr) (cap' : Nat), k ≤ n - 1 ∧ v = .slice ao' m cap' ∧ i = .int .i64 ((k : Nat)) ∧ Below w.heap.size w wr ∧ Own wr w.heap.size (.slice ao' m cap') (dsP xs k))
    (fun _ i _ => n - (intOf i).toNat)
  case atStart => exact ⟨0, _, _, _, Nat.zero_le _, rfl, rfl, (Below.refl _ _).alloc (Nat.le_refl _) _, own_lit w⟩
  case round =>
    obtain ⟨k, m, ao', cap', hk, rfl, rfl, hbr, ho⟩ := hrel
    have hsz := hbr.size
    have hl : (dsP xs k).length ≤ 2000000 := by have := dsP_len xs k; omega
    by_cases hlt : k + 1 < n
    · obtain ⟨b, off, rfl, hblt, hc⟩ := h.row (by omega)
      have hcell := (hbr.cell (p := ⟨b, off + k, none⟩) hblt).trans (hc k (by omega))
      have hcell1 := (hbr.cell (p := ⟨b, off + (k + 1), none⟩) hblt).trans (hc (k + 1) hlt)
      have hi1 : (k : Int) + 1 < n := by omega
      have hi2 : (k : Int) < n := by omega
      clear hc
      by_cases he : el xs (k + 1) < el xs k
      · go_wp2_with fail
        go_quiet (fail)
        go_wp2_with (at_builtin; refine app_int _ _ rfl _ _ rfl w.heap.size _ _ rfl (ho.drewN _) rfl hl hsz ?_)
        intro u' w' ho' hg'
        have hb' := below_app (drewN_below hbr _) (ho.drewN _) hg'
        rw [← dsP_yes he] at ho'
        have hl' := hid (rfl : (dsP xs (k + 1)).length = (dsP xs (k + 1)).length)
        obtain ⟨ao', cap', rfl, hs'⟩ := ho'.sl
        go_wp2
        go_roundw
        case rel => exact ⟨k + 1, _, _, _, by omega, rfl, by go_num, hb', ho'⟩
        case measure => simp [intOf]; omega
      · have he' : el xs k ≤ el xs (k + 1) := by omega
        go_wp2_with fail
        go_quiet (fail)
        go_wp2
        go_roundw
        case rel => exact ⟨k + 1, _, _, _, by omega, rfl, by go_num, drewN_below hbr _, by rw [dsP_no he']; exact ho.drewN _⟩
        case measure => simp [intOf]; omega
    · have hk1 : k = n - 1 := by omega
      have Hk1 := hid hk1
      clear hk1
      go_wp2
      go_ret
      refine ⟨_, rfl, ?_, hbr⟩
      rw [desc, hlen.out, ← Hk1.out]
      exact ho

set_option maxHeartbeats 1000000 in
theorem descI_any (ao : Option Addr) (n cap : Nat) (xs : List Int) (w : World) (h : Sl w ao n cap xs) :
    Calls Try.prog 99 #[.slice ao n cap] w (Made w (onV xs (desc xs))) := by
  have hbig := h.big
  have hlen := hid h.len
  by_cases hv : Valid xs
  · have h7 : n ≤ 7 := by have := hv.len; rw [hlen.out] at this; exact this
    have Hv := hid hv
    go_enter Try.func99, Try.ntmps99
    go_wp2_with fail
    refine (validI_any _ _ _ xs _ h).mono ?_
    rintro e w1 ⟨rfl, hb1⟩
    have hsz := hb1.size
    go_wp2
    clear hsz
    go_loopw [3, 4] (fun v i wr => ∃ (k m : Nat) (ao' : Option Addr) (cap' : Nat), k ≤ n - 1 ∧ v = .slice ao' m cap' ∧ i = .int .i64 ((k : Int) + 1) ∧ Below w.heap.size w wr ∧ Own wr w.heap.size (.slice ao' m cap') (dsP xs k))
      (fun _ i _ => n - (intOf i).toNat)
    case atStart => exact ⟨0, _, _, _, Nat.zero_le _, rfl, by simp, hb1.alloc hb1.size _, own_lit_at hb1.size⟩
    case round =>
      obtain ⟨k, m, ao', cap', hk, rfl, rfl, hbr, ho⟩ := hrel
      have hsz := hbr.size
      have hl : (dsP xs k).length ≤ 2000000 := by have := dsP_len xs k; omega
      by_cases hlt : k + 1 < n
      · obtain ⟨b, off, rfl, hblt, hc⟩ := h.row (by omega)
        have hcell := (hbr.cell (p := ⟨b, off + k, none⟩) hblt).trans (hc k (by omega))
        have hcell1 := (hbr.cell (p := ⟨b, off + (k + 1), none⟩) hblt).trans (hc (k + 1) hlt)
        have hi1 : (k : Int) + 1 < n := by omega
        have hi2 : (k : Int) < n := by omega
        clear hc
        by_cases he : el xs (k + 1) < el xs k
        · go_wp2_with fail
          go_quiet (fail)
          go_wp2_with (at_builtin; refine app_int _ _ rfl _ _ rfl w.heap.size _ _ rfl (ho.drewN _) rfl hl hsz ?_)
          intro u' w' ho' hg'
          have hb' := below_app (drewN_below hbr _) (ho.drewN _) hg'
          rw [← dsP_yes he] at ho'
          have hl' := hid (rfl : (dsP xs (k + 1)).length = (dsP xs (k + 1)).length)
          obtain ⟨ao', cap', rfl, hs'⟩ := ho'.sl
          go_wp2
          go_roundw
          case rel => exact ⟨k + 1, _, _, _, by omega, rfl, by go_num, hb', ho'⟩
          case measure => simp [intOf]; omega
        · have he' : el xs k ≤ el xs (k + 1) := by omega
          go_wp2_with fail
          go_quiet (fail)
          go_wp2
          go_roundw
          case rel => exact ⟨k + 1, _, _, _, by omega, rfl, by go_num, drewN_below hbr _, by rw [dsP_no he']; exact ho.drewN _⟩
          case measure => simp [intOf]; omega
      · have hk1 : k = n - 1 := by omega
        have Hk1 := hid hk1
        clear hk1
        go_wp2
        go_ret
        refine ⟨_, rfl, ?_, hbr⟩
        rw [onV_yes Hv.out, desc, hlen.out, ← Hk1.out]
        exact ho
  · have Hv := hid hv
    go_enter Try.func99, Try.ntmps99
    go_wp2_with fail
    refine (validI_any _ _ _ xs _ h).mono ?_
    rintro e w1 ⟨rfl, hb1⟩
    go_wp2
    go_ret
    refine ⟨_, rfl, ?_, hb1⟩
    rw [onV_no Hv.out]
    exact Own.nil

set_option maxHeartbeats 1000000 in
theorem major_any (ao : Option Addr) (n cap : Nat) (xs : List Int) (w : World) (h : Sl w ao n cap xs) (h7 : n ≤ 1000) :
    Calls Try.prog 73 #[.slice ao n cap] w (Says w (.int .i64 (major xs))) := by
  have hbig := h.big
  have hlen := hid h.len
  have hl2 : (desc xs).length ≤ 1000 := by have := desc_len xs; rw [hlen.out] at this; omega
  have hds := hid (desc_small (xs := xs) (by rw [hlen.out]; exact h7))
  have hbd := sumL_bd hds.out hl2
  have hbd1 := hbd.1
  have hbd2 : sumL (desc xs) ≤ 1000000 := by have := hbd.2; omega
  clear hbd
  go_enter Try.func73, Try.ntmps73
  go_wp2_with fail
  refine (descents_any _ _ _ xs _ h h7).mono ?_
  rintro e w2 ⟨u2, rfl, ho2, hb2⟩
  obtain ⟨a2, c2, rfl, hs2⟩ := ho2.sl
  go_wp2_with fail
  refine (sum_any _ _ _ _ _ hs2 hl2 hds).mono ?_
  rintro e w3 ⟨rfl, hb3⟩
  go_wp2
  go_ret
  exact ⟨rfl, hb2.trans (hb3.mono hb2.size)⟩

set_option maxHeartbeats 1000000 in
theorem majorI_any (ao : Option Addr) (n cap : Nat) (xs : List Int) (w : World) (h : Sl w ao n cap xs) :
    Calls Try.prog 94 #[.slice ao n cap] w (Says w (.int .i64 (onVi xs (major xs) (-1)))) := by
  have hbig := h.big
  have hlen := hid h.len
  by_cases hv : Valid xs
  · have h7 : n ≤ 7 := by have := hv.len; rw [hlen.out] at this; exact this
    have Hv := hid hv
    go_enter Try.func94, Try.ntmps94
    go_wp2_with fail
    refine (validI_any _ _ _ xs _ h).mono ?_
    rintro e w1 ⟨rfl, hb1⟩
    have hsz := hb1.size
    go_wp2_with fail
    refine (descI_any _ _ _ xs _ (h.later hb1)).mono ?_
    rintro e w2 ⟨u2, rfl, ho2, hb2⟩
    rw [onV_yes Hv.out] at ho2
    obtain ⟨a2, c2, rfl, hs2⟩ := ho2.sl
    have hl2 : (desc xs).length ≤ 7 := by have := desc_len xs; rw [hlen.out] at this; omega
    have hts := hid (desc_small (xs := xs) (by rw [hlen.out]; omega))
    have hb3 := hb1.trans (hb2.mono hsz)
    clear hv
    obtain ⟨ts, Hts⟩ : ∃ ts, Hid (ts = desc xs) := ⟨_, rfl⟩
    rw [← Hts.out] at hs2 hl2 hts ⊢
    obtain ⟨m, hm⟩ : ∃ m, ts.length = m := ⟨_, rfl⟩
    rw [hm] at hs2 hl2 ⊢
    have Hm := hid hm
    clear hm ho2
    go_wp2
    go_loopw [3, 12] (fun v i wr => ∃ (k : Nat), k ≤ m ∧ v = .int .i64 (sumTo ts k + k) ∧ i = .int .i64 k ∧ Below w2.heap.size w2 wr)
      (fun _ i _ => m - (intOf i).toNat)
    case atStart => exact ⟨0, Nat.zero_le _, rfl, rfl, Below.refl _ _⟩
    case round =>
      obtain ⟨k, hk, rfl, rfl, hbr⟩ := hrel
      have hbd := sumTo_bd hts.out k (by rw [Hm.out]; exact hk)
      have hbb2 : sumTo ts k ≤ 1000000 := Int.le_trans hbd.2 (by have : (k : Int) * (1000 : Nat) ≤ 1000 * (1000 : Nat) := Int.mul_le_mul_of_nonneg_right (by omega) (by omega); omega)
      have hbb1 := hbd.1
      clear hbd
      by_cases hlt : k < m
      · obtain ⟨b, off, rfl, hblt, hc⟩ := hs2.row (by omega)
        have hcell := (hbr.cell (p := ⟨b, off + k, none⟩) hblt).trans (hc k hlt)
        have he := hts.out k (by rw [Hm.out]; exact hlt)
        have he0 := he.1
        have he1 := he.2
        clear hc he
        go_wp2
        go_roundw
        case rel => exact ⟨k + 1, by omega, by rw [sumTo]; congr 1; omega, by go_num, hbr⟩
        case measure => simp [intOf]; omega
      · obtain rfl : k = m := by omega
        go_wp2
        go_ret
        rw [onVi_yes Hv.out]
        exact says_int (by rw [major, ← Hts.out, sumL, Hm.out]) (hb3.trans (hbr.mono hb3.size))
  · have Hv := hid hv
    go_enter Try.func94, Try.ntmps94
    go_wp2_with fail
    refine (validI_any _ _ _ xs _ h).mono ?_
    rintro e w1 ⟨rfl, hb1⟩
    go_wp2
    go_ret
    rw [onVi_no Hv.out]
    exact ⟨rfl, hb1⟩

end Go.Proofs.Ytjgaglfinpeeoac

/- What the laws' own small functions answer: equal lists, a number in a list, sums, products. Condition: the lists' cells can be read. -/
namespace Go.Proofs.Ytjgaglfinpeeoac
open Go.RowKit

set_option maxHeartbeats 400000 in
theorem equalInts_any (ao : Option Addr) (n cap : Nat) (xs : List Int) (bo : Option Addr) (m cap2 : Nat) (ys : List Int) (w : World) (h : Sl w ao n cap xs) (g : Sl w bo m cap2 ys) :
    Calls Try.prog 24 #[.slice ao n cap, .slice bo m cap2] w (Says w (.bool (decide (xs = ys)))) := by
  have hbig := h.big
  have hbig2 := g.big
  have hlen := hid h.len
  have glen := hid g.len
  by_cases hnm : n = m
  · subst hnm
    go_enter Try.func24, Try.ntmps24
    go_wp2
    go_loopw [5] (fun i wr => ∃ k : Nat, k ≤ n ∧ i = .int .i64 k ∧ Below w.heap.size w wr ∧ Hid (∀ j, j < k → el xs j = el ys j))
      (fun i _ => n - (intOf i).toNat)
    case atStart => exact ⟨0, Nat.zero_le _, rfl, Below.refl _ _, fun j hj => by omega⟩
    case round =>
      obtain ⟨k, hk, rfl, hbr, heq⟩ := hrel
      by_cases hlt : k < n
      · obtain ⟨b, off, rfl, hblt, hc⟩ := h.row (by omega)
        obtain ⟨b2, off2, rfl, hblt2, hc2⟩ := g.row (by omega)
        have hcell := (hbr.cell (p := ⟨b, off + k, none⟩) hblt).trans (hc k hlt)
        have hcell2 := (hbr.cell (p := ⟨b2, off2 + k, none⟩) hblt2).trans (hc2 k hlt)
        clear hc hc2
        have hi1 : (k : Int) < n := by omega
        go_wp2
        go_quiet (fail)
        go_wp2
        · have hne : ¬ el xs k = el ys k := by
            have : (el xs k != el ys k) = true := by assumption
            simpa using this
          go_ret
          exact says_false (fun e => hne (by rw [e])) (drewN_below hbr _)
        · have he : el xs k = el ys k := by
            have : (el xs k != el ys k) = false := by assumption
            simpa using this
          go_roundw
          case rel => exact ⟨k + 1, by omega, by go_num, drewN_below hbr _, fun j hj => by
            by_cases hjk : j = k
            · rw [hjk]; exact he
            · exact heq.out j (by omega)⟩
          case measure => simp [intOf]; omega
      · obtain rfl : k = n := by omega
        go_wp2
        go_ret
        exact says_true (ext_el (by rw [hlen.out, glen.out]) (fun j hj => heq.out j (by rw [hlen.out] at hj; exact hj))) hbr
  · have hne : ¬ (n : Int) = m := by omega
    go_enter Try.func24, Try.ntmps24
    go_wp2
    go_ret
    exact says_false (fun e => hnm (by rw [← hlen.out, ← glen.out, e])) (Below.refl _ _)

set_option maxHeartbeats 1000000 in
theorem total_any (ao : Option Addr) (n cap : Nat) (xs : List Int) (w : World) (h : Sl w ao n cap xs) (h7 : n ≤ 1000) (hs : Hid (∀ j, j < xs.length → 0 ≤ el xs j ∧ el xs j ≤ (1000 : Nat))) :
    Calls Try.prog 35 #[.slice ao n cap] w (Says w (.int .i64 (sumL xs))) := by
  have hbig := h.big
  have hlen := hid h.len
  go_enter Try.func35, Try.ntmps35
  go_wp2
  go_loopw [3, 4] (fun v i wr => ∃ (k : Nat), k ≤ n ∧ v = .int .i64 (sumTo xs k) ∧ i = .int .i64 k ∧ Below w.heap.size w wr)
    (fun _ i _ => n - (intOf i).toNat)
  case atStart => exact ⟨0, Nat.zero_le _, rfl, rfl, Below.refl _ _⟩
  case round =>
    obtain ⟨k, hk, rfl, rfl, hbr⟩ := hrel
    have hbd := sumTo_bd hs.out k (by rw [hlen.out]; exact hk)
    have hb2 : sumTo xs k ≤ 1000000 := Int.le_trans hbd.2 (by have : (k : Int) * (1000 : Nat) ≤ 1000 * (1000 : Nat) := Int.mul_le_mul_of_nonneg_right (by omega) (by omega); omega)
    have hb1 := hbd.1
    clear hbd
    by_cases hlt : k < n
    · obtain ⟨b, off, rfl, hblt, hc⟩ := h.row (by omega)
      have hcell := (hbr.cell (p := ⟨b, off + k, none⟩) hblt).trans (hc k hlt)
      have he := hs.out k (by rw [hlen.out]; exact hlt)
      have he0 := he.1
      have he1 := he.2
      clear hc he
      go_wp2
      go_roundw
      case rel => exact ⟨k + 1, by omega, by rw [sumTo], by go_num, hbr⟩
      case measure => simp [intOf]; omega
    · obtain rfl : k = n := by omega
      go_wp2
      go_ret
      exact says_int (by rw [sumL, hlen.out]) hbr

end Go.Proofs.Ytjgaglfinpeeoac

/- Ranks as plain functions of tables, and that both ways to reckon them agree. No condition. -/
namespace Go.Proofs.Ytjgaglfinpeeoac

def fac : Nat → Int
  | 0 => 1
  | n + 1 => fac n * ((n : Int) + 1)
theorem fac_pos (n : Nat) : 1 ≤ fac n := by
  induction n with
  | zero => exact Int.le_refl _
  | succ n ih =>
    rw [fac]
    have : 1 * 1 ≤ fac n * ((n : Int) + 1) := Int.mul_le_mul ih (by omega) (by omega) (by omega)
    omega
theorem fac_le {n : Nat} (h : n ≤ 7) : fac n ≤ 5040 := by
  have : ∀ n : Nat, n ≤ 7 → fac n ≤ 5040 := by decide
  exact this n h

/-- The rank, place by place from the front: as the program reckons it. -/
def rkP (t : List Int) (n : Nat) : Nat → Int
  | 0 => 0
  | k + 1 => rkP t n k * ((n : Int) - k) + el t k
/-- The rank as a sum: as the model reckons it. -/
def rkS (t : List Int) (n : Nat) : Nat → Int
  | 0 => 0
  | k + 1 => rkS t n k + el t k * fac (n - 1 - k)
theorem rk_both (t : List Int) (n : Nat) : ∀ k, k ≤ n → rkS t n k = rkP t n k * fac (n - k) := by
  intro k
  induction k with
  | zero => intro _; simp [rkS, rkP]
  | succ k ih =>
    intro hk
    rw [rkS, ih (by omega), rkP]
    obtain ⟨m, hm⟩ : ∃ m, n - k = m + 1 := ⟨n - k - 1, by omega⟩
    rw [hm, show n - 1 - k = m by omega, show n - (k + 1) = m by omega, fac, Int.add_mul]
    have e : (n : Int) - k = (m : Int) + 1 := by omega
    rw [e, ← Int.mul_assoc, Int.mul_assoc (rkP t n k) (fac m), Int.mul_comm (fac m), ← Int.mul_assoc]
theorem rk_eq (t : List Int) (n : Nat) : rkS t n n = rkP t n n := by
  rw [rk_both t n n (Nat.le_refl _), Nat.sub_self, fac, Int.mul_one]

def pow8 : Nat → Int
  | 0 => 1
  | k + 1 => pow8 k * 8
theorem rkP_bd {t : List Int} {n : Nat} (hn : n ≤ 7) (ht : ∀ j, j < n → 0 ≤ el t j ∧ el t j ≤ 7) : ∀ k, k ≤ n → 0 ≤ rkP t n k ∧ rkP t n k ≤ pow8 k - 1 := by
  intro k
  induction k with
  | zero => intro _; simp [rkP, pow8]
  | succ k ih =>
    intro hk
    have h1 := ih (by omega)
    have h2 := ht k (by omega)
    rw [rkP, pow8]
    have h3 : rkP t n k * ((n : Int) - k) ≤ rkP t n k * 7 := Int.mul_le_mul_of_nonneg_left (by omega) h1.1
    have h4 : 0 ≤ rkP t n k * ((n : Int) - k) := Int.mul_nonneg h1.1 (by omega)
    omega
theorem pow8_le {k : Nat} (h : k ≤ 7) : pow8 k ≤ 2097152 := by
  have : ∀ k : Nat, k ≤ 7 → pow8 k ≤ 2097152 := by decide
  exact this k h
theorem rkS_bd {t : List Int} {n : Nat} (hn : n ≤ 7) (ht : ∀ j, j < n → 0 ≤ el t j ∧ el t j ≤ 7) : ∀ k, k ≤ n → 0 ≤ rkS t n k ∧ rkS t n k ≤ k * 35280 := by
  intro k
  induction k with
  | zero => intro _; simp [rkS]
  | succ k ih =>
    intro hk
    have h1 := ih (by omega)
    have h2 := ht k (by omega)
    have f1 := fac_pos (n - 1 - k)
    have f2 := fac_le (n := n - 1 - k) (by omega)
    rw [rkS]
    have h3 : 0 ≤ el t k * fac (n - 1 - k) := Int.mul_nonneg h2.1 (by omega)
    have h4 : el t k * fac (n - 1 - k) ≤ 7 * 5040 := Int.mul_le_mul h2.2 f2 (by omega) (by omega)
    omega
def rk (xs : List Int) : Int := rkP (table xs) xs.length xs.length
theorem table_seven {xs : List Int} (h : Valid xs) : ∀ j, j < xs.length → 0 ≤ el (table xs) j ∧ el (table xs) j ≤ 7 := fun j hj => by
  have h1 := table_bd xs j (by rw [table_len]; exact hj)
  have := h.len
  omega
theorem rk_bd {xs : List Int} (h : Valid xs) : 0 ≤ rk xs ∧ rk xs ≤ 2097151 := by
  have h1 := rkP_bd h.len (table_seven h) xs.length (Nat.le_refl _)
  have h2 := pow8_le h.len
  unfold rk
  omega

end Go.Proofs.Ytjgaglfinpeeoac

/- Ranks, in the program and in its model. Condition: the list's cells can be read. -/
namespace Go.Proofs.Ytjgaglfinpeeoac
open Go.RowKit

theorem fac_mul {j : Nat} (h : j ≤ 7) : wrap64 (fac j * ((j : Int) + 1)) = fac (j + 1) := by
  have f1 := fac_pos (j + 1)
  have f2 : fac (j + 1) ≤ 40320 := by
    have : ∀ n : Nat, n ≤ 7 → fac (n + 1) ≤ 40320 := by decide
    exact this j h
  have e : fac j * ((j : Int) + 1) = fac (j + 1) := rfl
  rw [e]
  exact IntWalk.wrap64_in _ ⟨by omega, by omega⟩

theorem fac_ret {a b : Int} (h : a = b) : Ending.returned (.int .i64 a) = .returned (.int .i64 b) := by rw [h]

set_option maxHeartbeats 400000 in
theorem fac_nat (n : Nat) (w : World) (h : n ≤ 7) :
    Calls Try.prog 80 #[.int .i64 n] w fun e w' => e = .returned (.int .i64 (fac n)) ∧ w' = w := by
  go_enter Try.func80, Try.ntmps80
  go_wp2
  go_loop [3, 4] (fun v i => ∃ j : Nat, j ≤ n - 1 ∧ v = .int .i64 (fac (j + 1)) ∧ i = .int .i64 ((j : Int) + 2)) (fun _ i => n + 2 - (intOf i).toNat)
  case atStart => exact ⟨0, Nat.zero_le _, rfl, rfl⟩
  case round =>
    obtain ⟨j, hj, rfl, rfl⟩ := hrel
    by_cases hlt : j + 2 ≤ n
    · have hm := fac_mul (j := j + 1) (by omega)
      have e1 : ((j + 1 : Nat) : Int) + 1 = (j : Int) + 2 := by omega
      rw [e1] at hm
      have hi : (j : Int) + 2 ≤ n := by omega
      clear e1
      go_wp2
      go_round
      case rel => exact ⟨j + 1, by omega, by rw [hm], by go_num⟩
      case measure => simp [intOf]; omega
    · have hi : ¬ (j : Int) + 2 ≤ n := by omega
      have e : fac (j + 1) = fac n := by
        rcases Nat.lt_or_ge j (n - 1) with h1 | h1
        · omega
        · rcases Nat.eq_zero_or_pos n with h0 | h0
          · subst h0; obtain rfl : j = 0 := by omega
            rfl
          · obtain rfl : n = j + 1 := by omega
            rfl
      have He := hid e
      clear e
      go_wp2
      go_ret
      exact ⟨fac_ret He.out, rfl⟩

theorem fac_any (a : Int) (w : World) (h0 : 0 ≤ a) (h : a ≤ 7) :
    Calls Try.prog 80 #[.int .i64 a] w fun e w' => e = .returned (.int .i64 (fac a.toNat)) ∧ w' = w := by
  obtain ⟨n, rfl⟩ := Int.eq_ofNat_of_zero_le h0
  exact fac_nat n w (by omega)

end Go.Proofs.Ytjgaglfinpeeoac

/- A reckoning over all orders, in eight parts: those of at most six values, and those of seven by their first values. No condition. -/
namespace Go.Proofs.Ytjgaglfinpeeoac

/-- All orders of seven values that begin with x. -/
def begun (x : Int) : List (List Int) := (perms 6 ((rng 7).erase x)).map (x :: ·)
theorem Valid.parts {xs : List Int} (h : Valid xs) {p : List Int → Bool} (h6 : (allUpTo 6).all p = true) (h7 : ∀ x ∈ rng 7, (begun x).all p = true) : p xs = true := by
  by_cases e : xs.length ≤ 6
  · exact h.all' e h6
  · have e7 : xs.length = 7 := by have := h.len; omega
    have hm := h.in_orders
    rw [e7, orders] at hm
    simp only [perms, List.mem_flatMap] at hm
    obtain ⟨x, hx, hm⟩ := hm
    exact List.all_eq_true.1 (h7 x hx) xs hm
theorem seven {P : Int → Prop} (h0 : P 0) (h1 : P 1) (h2 : P 2) (h3 : P 3) (h4 : P 4) (h5 : P 5) (h6 : P 6) : ∀ x ∈ rng 7, P x := by
  intro x hx
  have := (mem_rng 7 x).1 hx
  obtain ⟨v, rfl⟩ := Int.eq_ofNat_of_zero_le this.1
  match v, this.2 with
  | 0, _ => exact h0
  | 1, _ => exact h1
  | 2, _ => exact h2
  | 3, _ => exact h3
  | 4, _ => exact h4
  | 5, _ => exact h5
  | 6, _ => exact h6
  | v + 7, h => exact absurd h (by omega)

end Go.Proofs.Ytjgaglfinpeeoac

/- Counts of orders, reckoned fast: for what the kernel reckons over all orders. No condition. -/
namespace Go.Proofs.Ytjgaglfinpeeoac

def ltb : Int → Int → Bool
  | .ofNat m, .ofNat n => Nat.blt m n
  | .ofNat _, .negSucc _ => false
  | .negSucc _, .ofNat _ => true
  | .negSucc m, .negSucc n => Nat.blt n m
theorem ltb_eq (a b : Int) : ltb a b = decide (a < b) := by
  cases a with
  | ofNat m => cases b with
    | ofNat n => rw [ltb, Bool.eq_iff_iff, Nat.blt_eq, decide_eq_true_iff]; simp only [Int.ofNat_eq_natCast]; omega
    | negSucc n => rw [ltb, eq_comm, decide_eq_false_iff_not]; simp only [Int.ofNat_eq_natCast]; omega
  | negSucc m => cases b with
    | ofNat n => rw [ltb, eq_comm, decide_eq_true_iff]; simp only [Int.ofNat_eq_natCast]; omega
    | negSucc n => rw [ltb, Bool.eq_iff_iff, Nat.blt_eq, decide_eq_true_iff]; omega
def eqb : Int → Int → Bool
  | .ofNat m, .ofNat n => Nat.beq m n
  | .ofNat _, .negSucc _ => false
  | .negSucc _, .ofNat _ => false
  | .negSucc m, .negSucc n => Nat.beq m n
theorem eqb_eq (a b : Int) : eqb a b = decide (a = b) := by
  cases a with
  | ofNat m => cases b with
    | ofNat n => rw [eqb, Bool.eq_iff_iff, Nat.beq_eq, decide_eq_true_iff]; simp only [Int.ofNat_eq_natCast]; omega
    | negSucc n => rw [eqb, eq_comm, decide_eq_false_iff_not]; simp only [Int.ofNat_eq_natCast]; omega
  | negSucc m => cases b with
    | ofNat n => rw [eqb, eq_comm, decide_eq_false_iff_not]; simp only [Int.ofNat_eq_natCast]; omega
    | negSucc n => rw [eqb, Bool.eq_iff_iff, Nat.beq_eq, decide_eq_true_iff]; omega
def eqs : List Int → List Int → Bool
  | [], [] => true
  | x :: xs, y :: ys => match eqb x y with
    | true => eqs xs ys
    | false => false
  | _, _ => false
theorem eqs_eq {xs ys : List Int} (h : eqs xs ys = true) : xs = ys := by
  induction xs generalizing ys with
  | nil => cases ys <;> simp_all [eqs]
  | cons x xs ih =>
    cases ys with
    | nil => simp [eqs] at h
    | cons y ys =>
      rw [eqs, eqb_eq] at h
      by_cases e : x = y
      · simp only [e, decide_true] at h
        rw [e, ih h]
      · simp [e] at h
/-- How many of xs are less than x, and n. -/
def clF (x : Int) : List Int → Nat → Nat
  | [], n => n
  | y :: v, n => match ltb y x with
    | true => clF x v (n + 1)
    | false => clF x v n
def invF : List Int → Nat → Nat
  | [], n => n
  | x :: xs, n => invF xs (clF x xs n)
def majF : List Int → Nat → Nat → Nat
  | [], _, n => n
  | [_], _, n => n
  | x :: y :: xs, k, n => match ltb y x with
    | true => majF (y :: xs) (k + 1) (n + k)
    | false => majF (y :: xs) (k + 1) n

theorem clF_eq (x : Int) (v : List Int) (n : Nat) : clF x v n = v.countP (fun y => decide (y < x)) + n := by
  induction v generalizing n with
  | nil => simp [clF]
  | cons y v ih =>
    rw [clF, ltb_eq]
    by_cases e : y < x
    · simp [e, ih]; omega
    · simp [e, ih]
theorem invF_add (xs : List Int) (n : Nat) : invF xs n = invF xs 0 + n := by
  induction xs generalizing n with
  | nil => simp [invF]
  | cons x xs ih => rw [invF, invF, ih, ih (clF x xs 0), clF_eq, clF_eq]; omega
theorem majF_add (xs : List Int) (k n : Nat) : majF xs k n = majF xs k 0 + n := by
  induction xs generalizing k n with
  | nil => simp [majF]
  | cons x xs ih =>
    cases xs with
    | nil => simp [majF]
    | cons y xs =>
      rw [majF, majF, ltb_eq]
      cases decide (y < x)
      · exact ih _ _
      · show majF (y :: xs) (k + 1) (n + k) = majF (y :: xs) (k + 1) (0 + k) + n
        rw [ih (k + 1) (n + k), ih (k + 1) (0 + k)]; omega
theorem el_cons (x : Int) (xs : List Int) (k : Nat) : el (x :: xs) (k + 1) = el xs k := by simp [el]
theorem el_zero (x : Int) (xs : List Int) : el (x :: xs) 0 = x := by simp [el]
theorem cntP_front (p : Nat → Bool) (k : Nat) : cntP p (k + 1) = (if p 0 then 1 else 0) + cntP (fun j => p (j + 1)) k := by
  induction k with
  | zero => simp [cntP]
  | succ k ih => rw [cntP, ih, cntP]; split <;> split <;> omega
theorem cntP_countP (v : List Int) (f : Int → Bool) : cntP (fun j => f (el v j)) v.length = (v.countP f : Int) := by
  induction v with
  | nil => rfl
  | cons y v ih =>
    rw [List.length_cons, cntP_front, el_zero]
    have e : (fun j => f (el (y :: v) (j + 1))) = fun j => f (el v j) := by funext j; rw [el_cons]
    rw [e, ih, List.countP_cons]
    split <;> simp <;> omega
theorem lb_cons (x : Int) (xs : List Int) (k : Nat) : lb (x :: xs) (k + 1) = lb xs k := by
  unfold lb lbP
  have e : (fun j => decide (el (x :: xs) (k + 1 + 1 + j) < el (x :: xs) (k + 1))) = fun j => decide (el xs (k + 1 + j) < el xs k) := by
    funext j
    rw [show k + 1 + 1 + j = (k + 1 + j) + 1 by omega, el_cons, el_cons]
  rw [e, List.length_cons]
  congr 1
  omega
theorem lb_zero (x : Int) (xs : List Int) : lb (x :: xs) 0 = (xs.countP (fun y => decide (y < x)) : Int) := by
  unfold lb lbP
  have e : (fun j => decide (el (x :: xs) (0 + 1 + j) < el (x :: xs) 0)) = fun j => (fun y => decide (y < x)) (el xs j) := by
    funext j
    rw [show 0 + 1 + j = j + 1 by omega, el_cons, el_zero]
  rw [e, ← cntP_countP]
  congr 1
theorem table_cons (x : Int) (xs : List Int) : table (x :: xs) = (xs.countP (fun y => decide (y < x)) : Int) :: table xs := by
  rw [table, List.length_cons, List.range_succ_eq_map, List.map_cons, lb_zero, List.map_map]
  congr 1
  exact List.map_congr_left (fun k _ => lb_cons x xs k)
theorem sumTo_cons (x : Int) (xs : List Int) (k : Nat) : sumTo (x :: xs) (k + 1) = x + sumTo xs k := by
  induction k with
  | zero => simp [sumTo, el_zero]
  | succ k ih => rw [sumTo, ih, el_cons, sumTo]; omega
theorem sumL_cons (x : Int) (xs : List Int) : sumL (x :: xs) = x + sumL xs := by rw [sumL, List.length_cons, sumTo_cons, sumL]
theorem sumL_nil : sumL [] = 0 := rfl
theorem invF_eq (xs : List Int) : (invF xs 0 : Int) = sumL (table xs) := by
  induction xs with
  | nil => rfl
  | cons x xs ih => rw [invF, invF_add, clF_eq, table_cons, sumL_cons, ← ih]; omega

/-- The sum of the places, from s on, behind which a lesser number stands. -/
def mjP (xs : List Int) : Nat → Int
  | 0 => 0
  | k + 1 => if el xs (k + 1) < el xs k then mjP xs k + k + 1 else mjP xs k
theorem sumL_app (xs : List Int) (v : Int) : sumL (xs ++ [v]) = sumL xs + v := by
  induction xs with
  | nil => simp [sumL, sumTo, el]
  | cons x xs ih => rw [List.cons_append, sumL_cons, ih, sumL_cons]; omega
theorem mjP_eq (xs : List Int) : ∀ k, sumL (dsP xs k) + (dsP xs k).length = mjP xs k := by
  intro k
  induction k with
  | zero => rfl
  | succ k ih =>
    rw [dsP, mjP]
    split
    · rw [sumL_app, List.length_append, List.length_singleton]; omega
    · exact ih
theorem major_eq (xs : List Int) : major xs = mjP xs (xs.length - 1) := mjP_eq xs _
theorem majF_drop (xs : List Int) (d : Nat) : ∀ (m : Nat), m + d = xs.length → (majF (xs.drop m) (m + 1) 0 : Int) + mjP xs (m - 0) = mjP xs (m + (d - 1)) := by
  induction d with
  | zero =>
    intro m hm
    rw [List.drop_eq_nil_of_le (by omega)]
    simp [majF]
  | succ d ih =>
    intro m hm
    have h1 : m < xs.length := by omega
    have e1 : xs.drop m = el xs m :: xs.drop (m + 1) := by rw [el_lt h1]; exact List.drop_eq_getElem_cons h1
    cases d with
    | zero =>
      rw [e1, List.drop_eq_nil_of_le (by omega)]
      simp [majF]
    | succ d =>
      have h2 : m + 1 < xs.length := by omega
      have e2 : xs.drop (m + 1) = el xs (m + 1) :: xs.drop (m + 1 + 1) := by rw [el_lt h2]; exact List.drop_eq_getElem_cons h2
      have := ih (m + 1) (by omega)
      rw [e1, e2, majF, ltb_eq, ← e2]
      simp only [Nat.sub_zero] at this ⊢
      rw [show m + 1 + (d + 1 - 1) = m + (d + 1 + 1 - 1) by omega] at this
      rw [← this, mjP]
      by_cases e : el xs (m + 1) < el xs m
      · simp only [e, decide_true, if_true]
        rw [majF_add]; omega
      · simp only [e, decide_false, if_false]
theorem majF_eq (xs : List Int) : (majF xs 1 0 : Int) = major xs := by
  have := majF_drop xs xs.length 0 (by omega)
  simp only [List.drop_zero, Nat.zero_add, Nat.sub_zero] at this
  rw [major_eq, ← this, mjP]
  omega

end Go.Proofs.Ytjgaglfinpeeoac

