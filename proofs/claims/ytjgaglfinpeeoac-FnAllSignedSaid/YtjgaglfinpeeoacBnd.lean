/- Texts of this claim put into one: Pure, Mirror, MirR, Fin, FinInv, MirT, MirK, Nxt, Kit, ValidI, Ops, Valid. -/
import Derived.WalkKit
import Derived.ProofKit
import Derived.Handy
import Derived.Outline
import Derived.WalkLawsBesides
import Derived.WalkSpells
import Derived.Deep.QuietTactic
import Derived.BigQuiet
import Derived.ChangeKeysEq
import Derived.Laws.AppendOwnNone
import Derived.Test.YtjgaglfinpeeoacChecked
/- The plain mathematics of orders: which lists of numbers are orders, and that there are finitely many of them, so that what is to be shown of all orders may be reckoned. No condition. -/
namespace Go.Proofs.Ytjgaglfinpeeoac

/-- The number at place k. -/
def el (xs : List Int) (k : Nat) : Int := xs.getD k 0

theorem el_lt {xs : List Int} {k : Nat} (h : k < xs.length) : el xs k = xs[k] := by simp [el, h]
theorem el_set_same {xs : List Int} {k : Nat} {v : Int} (h : k < xs.length) : el (xs.set k v) k = v := by simp [el, h]
theorem el_set_ne {xs : List Int} {j k : Nat} {v : Int} (h : k ≠ j) : el (xs.set k v) j = el xs j := by simp [el, List.getD, h]
theorem take_el {xs : List Int} {k : Nat} (h : k < xs.length) : xs.take (k + 1) = xs.take k ++ [el xs k] := by
  rw [List.take_succ_eq_append_getElem h, el_lt h]
theorem ext_el {xs ys : List Int} (h : xs.length = ys.length) (hj : ∀ j, j < xs.length → el xs j = el ys j) : xs = ys := by
  apply List.ext_getElem h
  intro j h1 h2
  have := hj j h1
  rwa [el_lt h1, el_lt h2] at this

/-- The numbers are an order: at most seven, each of 0, 1, .. once. -/
structure Valid (xs : List Int) : Prop where
  len : xs.length ≤ 7
  lo : ∀ j, j < xs.length → 0 ≤ el xs j
  hi : ∀ j, j < xs.length → el xs j < xs.length
  ne : ∀ i j, i < j → j < xs.length → el xs i ≠ el xs j

theorem valid_iff (xs : List Int) : Valid xs ↔ (xs.length ≤ 7 ∧ (∀ j, j < xs.length → 0 ≤ el xs j) ∧ (∀ j, j < xs.length → el xs j < xs.length) ∧ ∀ j, j < xs.length → ∀ i, i < j → el xs i ≠ el xs j) :=
  ⟨fun h => ⟨h.len, h.lo, h.hi, fun j hj i hij => h.ne i j hij hj⟩, fun h => ⟨h.1, h.2.1, h.2.2.1, fun i j hij hj => h.2.2.2 j hj i hij⟩⟩
instance (xs : List Int) : Decidable (Valid xs) := decidable_of_iff _ (valid_iff xs).symm

/-- Lists of equal length, place by place: what the walks learn, step by step. -/
theorem upto_step {P : Nat → Prop} {k : Nat} (h : ∀ j, j < k → P j) (hk : P k) : ∀ j, j < k + 1 → P j := fun j hj => by
  by_cases e : j = k
  · rw [e]; exact hk
  · exact h j (by omega)
theorem not_ne {a b : Int} (h : (a == b) = true) : a = b := by simpa using h
theorem is_ne {a b : Int} (h : (a == b) = false) : a ≠ b := by simpa using h
theorem nn_ne {a b : Int} (h : (a != b) = true) : a ≠ b := by simpa using h
theorem nn_eq {a b : Int} (h : (a != b) = false) : a = b := by simpa using h

def rng : Nat → List Int
  | 0 => []
  | n + 1 => rng n ++ [(n : Int)]

/-- All lists that take f of the numbers av, each once. -/
def perms : Nat → List Int → List (List Int)
  | 0, _ => [[]]
  | f + 1, av => av.flatMap fun x => (perms f (av.erase x)).map (x :: ·)

/-- All orders of n values. -/
def orders (n : Nat) : List (List Int) := perms n (rng n)

/-- All orders of at most seven values. -/
def allUpTo (m : Nat) : List (List Int) := (List.range (m + 1)).flatMap orders

theorem mem_rng (n : Nat) (x : Int) : x ∈ rng n ↔ 0 ≤ x ∧ x < n := by
  induction n with
  | zero => simp [rng]
  | succ n ih => simp [rng, ih]; omega

theorem mem_perms : ∀ (xs av : List Int), (∀ x ∈ xs, x ∈ av) → xs.Nodup → xs ∈ perms xs.length av := by
  intro xs
  induction xs with
  | nil => intro av _ _; simp [perms]
  | cons x xs ih =>
    intro av hsub hnd
    rw [List.length_cons]
    simp only [perms, List.mem_flatMap, List.mem_map]
    rw [List.nodup_cons] at hnd
    refine ⟨x, hsub x (by simp), xs, ih _ ?_ hnd.2, rfl⟩
    intro y hy
    have hyx : y ≠ x := fun e => hnd.1 (e ▸ hy)
    exact (List.mem_erase_of_ne hyx).2 (hsub y (by simp [hy]))

theorem Valid.nodup {xs : List Int} (h : Valid xs) : xs.Nodup := by
  rw [List.nodup_iff_pairwise_ne, List.pairwise_iff_getElem]
  intro i j hi hj hij
  have := h.ne i j hij hj
  rwa [el_lt hi, el_lt hj] at this

theorem Valid.mem {xs : List Int} (h : Valid xs) {x : Int} (hx : x ∈ xs) : 0 ≤ x ∧ x < xs.length := by
  obtain ⟨j, hj, rfl⟩ := List.mem_iff_getElem.1 hx
  have h1 := h.lo j hj
  have h2 := h.hi j hj
  rw [el_lt hj] at h1 h2
  exact ⟨h1, h2⟩

theorem Valid.in_orders {xs : List Int} (h : Valid xs) : xs ∈ orders xs.length :=
  mem_perms xs _ (fun _ hx => (mem_rng _ _).2 (h.mem hx)) h.nodup

theorem Valid.in_all {xs : List Int} (h : Valid xs) : xs ∈ allUpTo 7 := by
  unfold allUpTo
  rw [List.mem_flatMap]
  exact ⟨xs.length, by have := h.len; simp; omega, h.in_orders⟩

/-- What a reckoning shows of every order holds of every order. -/
theorem Valid.all {xs : List Int} (h : Valid xs) {p : List Int → Bool} (hp : (allUpTo 7).all p = true) : p xs = true :=
  List.all_eq_true.1 hp xs h.in_all

theorem Valid.all' {xs : List Int} (h : Valid xs) {m : Nat} (hm : xs.length ≤ m) {p : List Int → Bool} (hp : (allUpTo m).all p = true) : p xs = true := by
  refine List.all_eq_true.1 hp xs ?_
  unfold allUpTo
  rw [List.mem_flatMap]
  exact ⟨xs.length, by simp; omega, h.in_orders⟩

theorem count_take {xs : List Int} {k : Nat} (h : k < xs.length) (v : Int) : (xs.take (k + 1)).count v = (xs.take k).count v + if el xs k = v then 1 else 0 := by
  rw [take_el h, List.count_append, List.count_singleton]
  simp

theorem count_two {xs : List Int} {i j : Nat} (hij : i < j) (hj : j < xs.length) (h : el xs i = el xs j) : 2 ≤ xs.count (el xs j) := by
  have h1 : xs.count (el xs j) = (xs.take j).count (el xs j) + (xs.drop j).count (el xs j) := by rw [← List.count_append, List.take_append_drop]
  have h2 : 0 < (xs.take j).count (el xs j) := by
    rw [List.count_pos_iff, ← h, el_lt (by omega)]
    exact List.mem_take_iff_getElem.2 ⟨i, by omega, rfl⟩
  have h3 : 0 < (xs.drop j).count (el xs j) := by
    rw [List.count_pos_iff, el_lt hj]
    exact List.mem_drop_iff_getElem.2 ⟨0, by simpa using hj, rfl⟩
  omega

/-- State a after k steps. -/
def iter {α : Type} (f : α → Nat → α) (a : α) : Nat → α
  | 0 => a
  | k + 1 => f (iter f a k) k

theorem iter_len {f : List Int → Nat → List Int} (hf : ∀ a k, (f a k).length = a.length) (a : List Int) (k : Nat) : (iter f a k).length = a.length := by
  induction k with
  | zero => rfl
  | succ k ih => rw [iter, hf, ih]

theorem iter_app {g : Nat → Int} (n : Nat) : iter (fun a k => a ++ [g k]) [] n = (List.range n).map g := by
  induction n with
  | zero => rfl
  | succ n ih => rw [iter, ih, List.range_succ, List.map_append]; rfl

theorem map_range_len {g : Nat → Int} (n : Nat) : ((List.range n).map g).length = n := by simp
theorem el_map {g : Nat → Int} {n j : Nat} (h : j < n) : el ((List.range n).map g) j = g j := by simp [el, h]

theorem iter_set {g : Nat → Int} (n : Nat) : iter (fun a k => a.set k (g k)) (List.replicate n 0) n = (List.range n).map g := by
  have key : ∀ k, k ≤ n → (iter (fun a k => a.set k (g k)) (List.replicate n 0) k).length = n ∧ ∀ j, j < k → el (iter (fun a k => a.set k (g k)) (List.replicate n 0) k) j = g j := by
    intro k
    induction k with
    | zero => intro _; exact ⟨by simp [iter], fun j hj => by omega⟩
    | succ k ih =>
      intro hk
      obtain ⟨h1, h2⟩ := ih (by omega)
      refine ⟨by simp [iter, h1], fun j hj => ?_⟩
      rw [iter]
      by_cases e : j = k
      · rw [e, el_set_same (by rw [h1]; omega)]
      · rw [el_set_ne (by omega), h2 j (by omega)]
  refine ext_el (by rw [(key n (Nat.le_refl _)).1]; simp) (fun j hj => ?_)
  rw [(key n (Nat.le_refl _)).1] at hj
  rw [(key n (Nat.le_refl _)).2 j hj, el_map hj]

end Go.Proofs.Ytjgaglfinpeeoac

/- The lists and numbers that the functions give, as plain functions of lists. No condition. -/
namespace Go.Proofs.Ytjgaglfinpeeoac

/-- What a function of orders gives: a list for an order, nil for other numbers. -/
def onV (xs ys : List Int) : List Int := if Valid xs then ys else []
theorem onV_yes {xs ys : List Int} (h : Valid xs) : onV xs ys = ys := if_pos h
theorem onV_no {xs ys : List Int} (h : ¬ Valid xs) : onV xs ys = [] := if_neg h

/-! The lists that the functions make. -/
def rise (n : Nat) : List Int := (List.range n).map fun (k : Nat) => (k : Int)
theorem map_range_succ (g : Nat → Int) (k : Nat) : (List.range (k + 1)).map g = (List.range k).map g ++ [g k] := by simp [List.range_succ]
theorem rise_len (n : Nat) : (rise n).length = n := by simp [rise]
theorem rise_succ (n : Nat) : rise (n + 1) = rise n ++ [(n : Int)] := by simp [rise, List.range_succ]
def inv (xs : List Int) : List Int := iter (fun (a : List Int) k => a.set (el xs k).toNat (k : Int)) (List.replicate xs.length 0) xs.length
def turn (xs : List Int) : List Int := (List.range xs.length).map fun k => el xs (xs.length - 1 - k)
def turnI (xs : List Int) : List Int := iter (fun a k => a.set (xs.length - 1 - k) (el xs k)) (List.replicate xs.length 0) xs.length
def opp (xs : List Int) : List Int := (List.range xs.length).map fun k => (xs.length : Int) - 1 - el xs k

theorem inv_len (xs : List Int) (k : Nat) : (iter (fun (a : List Int) k => a.set (el xs k).toNat (k : Int)) (List.replicate xs.length 0) k).length = xs.length :=
  (iter_len (fun _ _ => List.length_set) _ k).trans List.length_replicate
theorem turnI_len (xs : List Int) (k : Nat) : (iter (fun a k => a.set (xs.length - 1 - k) (el xs k)) (List.replicate xs.length 0) k).length = xs.length :=
  (iter_len (fun _ _ => List.length_set) _ k).trans List.length_replicate

theorem turnI_eq (xs : List Int) : turnI xs = turn xs := by
  have key : ∀ k, k ≤ xs.length → ∀ j, j < xs.length → xs.length - 1 - j < k → el (iter (fun a k => a.set (xs.length - 1 - k) (el xs k)) (List.replicate xs.length 0) k) j = el xs (xs.length - 1 - j) := by
    intro k
    induction k with
    | zero => intro _ j _ hj; omega
    | succ k ih =>
      intro hk j hj hjk
      rw [iter]
      by_cases e : xs.length - 1 - k = j
      · subst e
        rw [el_set_same (by rw [turnI_len]; exact hj)]
        congr 1; omega
      · rw [el_set_ne e, ih (by omega) j hj (by omega)]
  refine ext_el (by rw [turnI, turnI_len, turn, map_range_len]) (fun j hj => ?_)
  rw [turnI, turnI_len] at hj
  rw [turnI, key _ (Nat.le_refl _) j hj (by omega), turn, el_map hj]

/-- How many of the first k numbers have the property. -/
def cntP (p : Nat → Bool) : Nat → Int
  | 0 => 0
  | k + 1 => if p k then cntP p k + 1 else cntP p k
theorem cntP_bd (p : Nat → Bool) (k : Nat) : 0 ≤ cntP p k ∧ cntP p k ≤ k := by
  induction k with
  | zero => exact ⟨Int.le_refl _, Int.le_refl _⟩
  | succ k ih => rw [cntP]; split <;> omega
theorem cntP_yes {p : Nat → Bool} {k : Nat} (h : p k = true) : cntP p (k + 1) = cntP p k + 1 := by rw [cntP, if_pos h]
theorem cntP_no {p : Nat → Bool} {k : Nat} (h : p k = false) : cntP p (k + 1) = cntP p k := by rw [cntP, h]; simp

/-- How many lesser numbers stand behind place i, among the first t behind it. -/
def lbP (xs : List Int) (i t : Nat) : Int := cntP (fun j => decide (el xs (i + 1 + j) < el xs i)) t
def lb (xs : List Int) (i : Nat) : Int := lbP xs i (xs.length - 1 - i)
theorem lbP_bd (xs : List Int) (i t : Nat) : 0 ≤ lbP xs i t ∧ lbP xs i t ≤ t := cntP_bd _ _
theorem lbP_zero (xs : List Int) (i : Nat) : lbP xs i 0 = 0 := rfl
theorem lbP_yes {xs : List Int} {i t : Nat} (h : el xs (i + 1 + t) < el xs i) : lbP xs i (t + 1) = lbP xs i t + 1 := cntP_yes (by simpa using h)
theorem lbP_no {xs : List Int} {i t : Nat} (h : el xs i ≤ el xs (i + 1 + t)) : lbP xs i (t + 1) = lbP xs i t := cntP_no (by simpa using h)
def table (xs : List Int) : List Int := (List.range xs.length).map (lb xs)
theorem table_len (xs : List Int) : (table xs).length = xs.length := map_range_len _
theorem el_table {xs : List Int} {j : Nat} (h : j < xs.length) : el (table xs) j = lb xs j := el_map h
theorem lb_bd (xs : List Int) (i : Nat) : 0 ≤ lb xs i ∧ lb xs i ≤ xs.length := by
  have := lbP_bd xs i (xs.length - 1 - i)
  unfold lb
  omega
theorem table_bd (xs : List Int) : ∀ j, j < (table xs).length → 0 ≤ el (table xs) j ∧ el (table xs) j ≤ xs.length := fun j hj => by
  rw [table_len] at hj
  rw [el_table hj]
  exact lb_bd xs j

/-- The sum of the first k numbers. -/
def sumTo (xs : List Int) : Nat → Int
  | 0 => 0
  | k + 1 => sumTo xs k + el xs k
def sumL (xs : List Int) : Int := sumTo xs xs.length
theorem sumTo_bd {xs : List Int} {M : Nat} (h : ∀ j, j < xs.length → 0 ≤ el xs j ∧ el xs j ≤ M) : ∀ k, k ≤ xs.length → 0 ≤ sumTo xs k ∧ sumTo xs k ≤ k * M := by
  intro k
  induction k with
  | zero => intro _; simp [sumTo]
  | succ k ih =>
    intro hk
    have h1 := ih (by omega)
    have h2 := h k (by omega)
    rw [sumTo]
    have e : ((k + 1 : Nat) : Int) * M = k * M + M := by rw [Int.natCast_add, Int.add_mul]; simp
    omega
/-- What a function of orders answers: a number for an order, another one for other numbers. -/
def onVi (xs : List Int) (v d : Int) : Int := if Valid xs then v else d
theorem onVi_yes {xs : List Int} {v d : Int} (h : Valid xs) : onVi xs v d = v := if_pos h
theorem onVi_no {xs : List Int} {v d : Int} (h : ¬ Valid xs) : onVi xs v d = d := if_neg h

/-- The places among the first k behind which a lesser number stands. -/
def dsP (xs : List Int) : Nat → List Int
  | 0 => []
  | k + 1 => if el xs (k + 1) < el xs k then dsP xs k ++ [(k : Int)] else dsP xs k
def desc (xs : List Int) : List Int := dsP xs (xs.length - 1)
theorem dsP_yes {xs : List Int} {k : Nat} (h : el xs (k + 1) < el xs k) : dsP xs (k + 1) = dsP xs k ++ [(k : Int)] := by rw [dsP, if_pos h]
theorem dsP_no {xs : List Int} {k : Nat} (h : el xs k ≤ el xs (k + 1)) : dsP xs (k + 1) = dsP xs k := by rw [dsP, if_neg (by omega)]
theorem dsP_len (xs : List Int) (k : Nat) : (dsP xs k).length ≤ k := by
  induction k with
  | zero => simp [dsP]
  | succ k ih =>
    rw [dsP]
    split
    · rw [List.length_append, List.length_singleton]; omega
    · omega
theorem dsP_mem (xs : List Int) (k : Nat) : ∀ x ∈ dsP xs k, 0 ≤ x ∧ x < k := by
  induction k with
  | zero => intro x hx; simp [dsP] at hx
  | succ k ih =>
    intro x hx
    rw [dsP] at hx
    split at hx
    · rw [List.mem_append, List.mem_singleton] at hx
      rcases hx with hx | hx
      · have := ih x hx; omega
      · omega
    · have := ih x hx; omega
theorem el_mem {xs : List Int} {j : Nat} (h : j < xs.length) : el xs j ∈ xs := by rw [el_lt h]; exact List.getElem_mem h
theorem desc_len (xs : List Int) : (desc xs).length ≤ xs.length - 1 := dsP_len _ _
theorem desc_small {xs : List Int} (h : xs.length ≤ 1000) : ∀ j, j < (desc xs).length → 0 ≤ el (desc xs) j ∧ el (desc xs) j ≤ (1000 : Nat) := fun j hj => by
  have : 0 ≤ el (desc xs) j ∧ el (desc xs) j < (xs.length - 1 : Nat) := dsP_mem xs _ _ (el_mem hj)
  omega
def major (xs : List Int) : Int := sumL (desc xs) + (desc xs).length
theorem sumL_bd {xs : List Int} {M L : Nat} (h : ∀ j, j < xs.length → 0 ≤ el xs j ∧ el xs j ≤ M) (hl : xs.length ≤ L) : 0 ≤ sumL xs ∧ sumL xs ≤ L * M := by
  have h1 := sumTo_bd h xs.length (Nat.le_refl _)
  refine ⟨h1.1, Int.le_trans h1.2 (Int.mul_le_mul_of_nonneg_right (by omega) (by omega))⟩
def sgn (xs : List Int) : Int := 1 - 2 * (sumL (table xs) % 2)

/-- One list moved up by a, and another one moved up by b behind it. -/
def up (xs : List Int) (a : Int) : List Int := (List.range xs.length).map fun j => el xs j + a
def join (xs : List Int) (a : Int) (ys : List Int) (b : Int) : List Int := up xs a ++ up ys b
theorem up_len (xs : List Int) (a : Int) : (up xs a).length = xs.length := map_range_len _
theorem up_zero (xs : List Int) : up xs 0 = xs := ext_el (up_len xs 0) (fun j hj => by rw [up_len] at hj; rw [up, el_map hj]; omega)
theorem up_app (xs : List Int) (g : Nat → Int) (k : Nat) : xs ++ (List.range (k + 1)).map g = (xs ++ (List.range k).map g) ++ [g k] := by rw [map_range_succ, List.append_assoc]
/-- Two orders that may be put behind each other. -/
def Two (xs ys : List Int) : Prop := Valid xs ∧ Valid ys ∧ xs.length + ys.length ≤ 7
instance (xs ys : List Int) : Decidable (Two xs ys) := inferInstanceAs (Decidable (_ ∧ _ ∧ _))
def onT (xs ys zs : List Int) : List Int := if Two xs ys then zs else []
theorem onT_yes {xs ys zs : List Int} (h : Two xs ys) : onT xs ys zs = zs := if_pos h
theorem onT_no {xs ys zs : List Int} (h : ¬ Two xs ys) : onT xs ys zs = [] := if_neg h

/-- Two orders of one length. -/
def Mat (xs ys : List Int) : Prop := Valid xs ∧ Valid ys ∧ xs.length = ys.length
instance (xs ys : List Int) : Decidable (Mat xs ys) := inferInstanceAs (Decidable (_ ∧ _ ∧ _))
def onM (xs ys zs : List Int) : List Int := if Mat xs ys then zs else []
theorem onM_yes {xs ys zs : List Int} (h : Mat xs ys) : onM xs ys zs = zs := if_pos h
theorem onM_no {xs ys zs : List Int} (h : ¬ Mat xs ys) : onM xs ys zs = [] := if_neg h
def comp (xs ys : List Int) : List Int := (List.range ys.length).map fun k => el xs (el ys k).toNat

/-- The numbers are the table of an order. -/
structure VT (ts : List Int) : Prop where
  len : ts.length ≤ 7
  lo : ∀ j, j < ts.length → 0 ≤ el ts j
  hi : ∀ j, j < ts.length → el ts j ≤ (ts.length : Int) - 1 - j
theorem vt_iff (ts : List Int) : VT ts ↔ (ts.length ≤ 7 ∧ (∀ j, j < ts.length → 0 ≤ el ts j) ∧ ∀ j, j < ts.length → el ts j ≤ (ts.length : Int) - 1 - j) :=
  ⟨fun h => ⟨h.len, h.lo, h.hi⟩, fun h => ⟨h.1, h.2.1, h.2.2⟩⟩
instance (ts : List Int) : Decidable (VT ts) := decidable_of_iff _ (vt_iff ts).symm

end Go.Proofs.Ytjgaglfinpeeoac

/- Ranks as plain functions of tables, and that both ways to reckon them agree. No condition. -/
namespace Go.Proofs.Ytjgaglfinpeeoac

def fac : Nat → Int
  | 0 => 1
  | n + 1 => fac n * ((n : Int) + 1)
theorem fac_pos (n : Nat) : 1 ≤ fac n := by
  induction n with
  | zero => exact Int.le_refl _
  | succ n ih =>
    rw [fac]
    have : 1 * 1 ≤ fac n * ((n : Int) + 1) := Int.mul_le_mul ih (by omega) (by omega) (by omega)
    omega
theorem fac_le {n : Nat} (h : n ≤ 7) : fac n ≤ 5040 := by
  have : ∀ n : Nat, n ≤ 7 → fac n ≤ 5040 := by decide
  exact this n h

/-- The rank, place by place from the front: as the program reckons it. -/
def rkP (t : List Int) (n : Nat) : Nat → Int
  | 0 => 0
  | k + 1 => rkP t n k * ((n : Int) - k) + el t k
/-- The rank as a sum: as the model reckons it. -/
def rkS (t : List Int) (n : Nat) : Nat → Int
  | 0 => 0
  | k + 1 => rkS t n k + el t k * fac (n - 1 - k)
theorem rk_both (t : List Int) (n : Nat) : ∀ k, k ≤ n → rkS t n k = rkP t n k * fac (n - k) := by
  intro k
  induction k with
  | zero => intro _; simp [rkS, rkP]
  | succ k ih =>
    intro hk
    rw [rkS, ih (by omega), rkP]
    obtain ⟨m, hm⟩ : ∃ m, n - k = m + 1 := ⟨n - k - 1, by omega⟩
    rw [hm, show n - 1 - k = m by omega, show n - (k + 1) = m by omega, fac, Int.add_mul]
    have e : (n : Int) - k = (m : Int) + 1 := by omega
    rw [e, ← Int.mul_assoc, Int.mul_assoc (rkP t n k) (fac m), Int.mul_comm (fac m), ← Int.mul_assoc]
theorem rk_eq (t : List Int) (n : Nat) : rkS t n n = rkP t n n := by
  rw [rk_both t n n (Nat.le_refl _), Nat.sub_self, fac, Int.mul_one]

def pow8 : Nat → Int
  | 0 => 1
  | k + 1 => pow8 k * 8
theorem rkP_bd {t : List Int} {n : Nat} (hn : n ≤ 7) (ht : ∀ j, j < n → 0 ≤ el t j ∧ el t j ≤ 7) : ∀ k, k ≤ n → 0 ≤ rkP t n k ∧ rkP t n k ≤ pow8 k - 1 := by
  intro k
  induction k with
  | zero => intro _; simp [rkP, pow8]
  | succ k ih =>
    intro hk
    have h1 := ih (by omega)
    have h2 := ht k (by omega)
    rw [rkP, pow8]
    have h3 : rkP t n k * ((n : Int) - k) ≤ rkP t n k * 7 := Int.mul_le_mul_of_nonneg_left (by omega) h1.1
    have h4 : 0 ≤ rkP t n k * ((n : Int) - k) := Int.mul_nonneg h1.1 (by omega)
    omega
theorem pow8_le {k : Nat} (h : k ≤ 7) : pow8 k ≤ 2097152 := by
  have : ∀ k : Nat, k ≤ 7 → pow8 k ≤ 2097152 := by decide
  exact this k h
theorem rkS_bd {t : List Int} {n : Nat} (hn : n ≤ 7) (ht : ∀ j, j < n → 0 ≤ el t j ∧ el t j ≤ 7) : ∀ k, k ≤ n → 0 ≤ rkS t n k ∧ rkS t n k ≤ k * 35280 := by
  intro k
  induction k with
  | zero => intro _; simp [rkS]
  | succ k ih =>
    intro hk
    have h1 := ih (by omega)
    have h2 := ht k (by omega)
    have f1 := fac_pos (n - 1 - k)
    have f2 := fac_le (n := n - 1 - k) (by omega)
    rw [rkS]
    have h3 : 0 ≤ el t k * fac (n - 1 - k) := Int.mul_nonneg h2.1 (by omega)
    have h4 : el t k * fac (n - 1 - k) ≤ 7 * 5040 := Int.mul_le_mul h2.2 f2 (by omega) (by omega)
    omega
def rk (xs : List Int) : Int := rkP (table xs) xs.length xs.length
theorem table_seven {xs : List Int} (h : Valid xs) : ∀ j, j < xs.length → 0 ≤ el (table xs) j ∧ el (table xs) j ≤ 7 := fun j hj => by
  have h1 := table_bd xs j (by rw [table_len]; exact hj)
  have := h.len
  omega
theorem rk_bd {xs : List Int} (h : Valid xs) : 0 ≤ rk xs ∧ rk xs ≤ 2097151 := by
  have h1 := rkP_bd h.len (table_seven h) xs.length (Nat.le_refl _)
  have h2 := pow8_le h.len
  unfold rk
  omega

end Go.Proofs.Ytjgaglfinpeeoac

/- What a reckoning over all orders of at most seven values shows. No condition. -/
namespace Go.Proofs.Ytjgaglfinpeeoac

set_option maxRecDepth 100000 in
theorem count_all : (allUpTo 7).all (fun xs => (List.range 7).all fun v => xs.count (v : Int) == if v < xs.length then 1 else 0) = true := by decide +kernel

theorem count_valid {xs : List Int} (hn : xs.length ≤ 7) (hr : ∀ j, j < xs.length → 0 ≤ el xs j ∧ el xs j < xs.length) :
    (∀ v : Nat, v < 7 → xs.count (v : Int) = if v < xs.length then 1 else 0) ↔ Valid xs := by
  constructor
  · intro h
    refine ⟨hn, fun j hj => (hr j hj).1, fun j hj => (hr j hj).2, fun i j hij hj e => ?_⟩
    have h2 := count_two hij hj e
    obtain ⟨v, hv⟩ := Int.eq_ofNat_of_zero_le (hr j hj).1
    have h3 := (hr j hj).2
    rw [hv] at h2 h3
    have := h v (by omega)
    rw [this] at h2
    split at h2 <;> omega
  · intro h v hv
    have := h.all count_all
    rw [List.all_eq_true] at this
    simpa using this v (by simpa using hv)

end Go.Proofs.Ytjgaglfinpeeoac

/- Inverses of orders: they are orders, and their products rise. No condition. -/
namespace Go.Proofs.Ytjgaglfinpeeoac

theorem inv_length (xs : List Int) : (inv xs).length = xs.length := inv_len xs xs.length

/-- Each value has a place. -/
theorem Valid.place {xs : List Int} (h : Valid xs) {v : Nat} (hv : v < xs.length) : ∃ k, k < xs.length ∧ el xs k = v := by
  have hc := (count_valid h.len (fun j hj => ⟨h.lo j hj, h.hi j hj⟩)).2 h v (by have := h.len; omega)
  rw [if_pos hv] at hc
  have hm : (v : Int) ∈ xs := List.count_pos_iff.1 (by omega)
  obtain ⟨k, hk, he⟩ := List.mem_iff_getElem.1 hm
  exact ⟨k, hk, by rw [el_lt hk]; exact he⟩

/-- The inverse at a value is its place. -/
theorem inv_el {xs : List Int} (h : Valid xs) {k : Nat} (hk : k < xs.length) : el (inv xs) (el xs k).toNat = k := by
  have key : ∀ m, m ≤ xs.length → ∀ j, j < m → el (iter (fun (a : List Int) k => a.set (el xs k).toNat (k : Int)) (List.replicate xs.length 0) m) (el xs j).toNat = j := by
    intro m
    induction m with
    | zero => intro _ j hj; omega
    | succ m ih =>
      intro hm j hj
      have hmlo := h.lo m (by omega)
      have hmhi := h.hi m (by omega)
      rw [iter]
      by_cases e : j = m
      · rw [e, el_set_same (by rw [inv_len]; omega)]
      · have hjlo := h.lo j (by omega)
        have := h.ne j m (by omega) (by omega)
        rw [el_set_ne (by omega), ih (by omega) j (by omega)]
  exact key xs.length (Nat.le_refl _) k hk

theorem inv_at {xs : List Int} (h : Valid xs) {v : Nat} (hv : v < xs.length) : ∃ k, k < xs.length ∧ el xs k = v ∧ el (inv xs) v = k := by
  obtain ⟨k, hk, he⟩ := h.place hv
  have := inv_el h hk
  rw [he, Int.toNat_natCast] at this
  exact ⟨k, hk, he, this⟩

theorem inv_valid {xs : List Int} (h : Valid xs) : Valid (inv xs) := by
  refine ⟨by rw [inv_length]; exact h.len, fun j hj => ?_, fun j hj => ?_, fun i j hij hj => ?_⟩
  · rw [inv_length] at hj
    obtain ⟨k, hk, _, he⟩ := inv_at h hj
    rw [he]; omega
  · rw [inv_length] at hj ⊢
    obtain ⟨k, hk, _, he⟩ := inv_at h hj
    rw [he]; omega
  · rw [inv_length] at hj
    obtain ⟨k, hk, h1, he⟩ := inv_at h hj
    obtain ⟨k2, hk2, h2, he2⟩ := inv_at h (show i < xs.length by omega)
    rw [he, he2]
    intro e
    have : k2 = k := by omega
    rw [this] at h2
    omega

theorem comp_inv {xs : List Int} (h : Valid xs) : comp xs (inv xs) = rise xs.length := by
  refine ext_el (by rw [comp, map_range_len, inv_length, rise_len]) (fun j hj => ?_)
  rw [comp, map_range_len, inv_length] at hj
  obtain ⟨k, hk, h1, he⟩ := inv_at h hj
  rw [comp, el_map (by rw [inv_length]; exact hj), he, Int.toNat_natCast, h1, rise, el_map hj]

theorem inv_inv {xs : List Int} (h : Valid xs) : inv (inv xs) = xs := by
  refine ext_el (by rw [inv_length, inv_length]) (fun j hj => ?_)
  rw [inv_length, inv_length] at hj
  have hlo := h.lo j hj
  have hhi := h.hi j hj
  obtain ⟨v, hv⟩ := Int.eq_ofNat_of_zero_le hlo
  have h1 := inv_el h hj
  rw [hv, Int.toNat_natCast] at h1
  have h2 := inv_el (inv_valid h) (k := v) (by rw [inv_length]; omega)
  rw [h1, Int.toNat_natCast] at h2
  rw [h2, hv]

end Go.Proofs.Ytjgaglfinpeeoac

/- The order of a table: the values that are left, in their order. No condition. -/
namespace Go.Proofs.Ytjgaglfinpeeoac

/-- The values that are left behind the first k places. -/
def leP (ts : List Int) : Nat → List Int
  | 0 => rise ts.length
  | k + 1 => (leP ts k).eraseIdx (el ts k).toNat
def ordT (ts : List Int) : List Int := (List.range ts.length).map fun k => el (leP ts k) (el ts k).toNat

theorem rise_pw (n : Nat) : (rise n).Pairwise (· < ·) := by
  rw [rise, List.pairwise_map]
  exact List.pairwise_lt_range.imp (fun h => by omega)
theorem rise_mem {n : Nat} {x : Int} : x ∈ rise n ↔ 0 ≤ x ∧ x < n := by
  rw [rise, List.mem_map]
  constructor
  · rintro ⟨k, hk, rfl⟩
    have := List.mem_range.1 hk
    omega
  · rintro ⟨h1, h2⟩
    exact ⟨x.toNat, List.mem_range.2 (by omega), by omega⟩
theorem leP_sub (ts : List Int) (k : Nat) : (leP ts k).Sublist (rise ts.length) := by
  induction k with
  | zero => exact List.Sublist.refl _
  | succ k ih => exact (List.eraseIdx_sublist _ _).trans ih
theorem leP_pw (ts : List Int) (k : Nat) : (leP ts k).Pairwise (· < ·) := (rise_pw _).sublist (leP_sub ts k)
theorem leP_mem {ts : List Int} {k : Nat} {x : Int} (h : x ∈ leP ts k) : 0 ≤ x ∧ x < ts.length := rise_mem.1 ((leP_sub ts k).subset h)
theorem vt_nat {ts : List Int} (h : VT ts) {k : Nat} (hk : k < ts.length) : ((el ts k).toNat : Int) = el ts k ∧ (el ts k).toNat + k < ts.length := by
  have h1 := h.lo k hk
  have h2 := h.hi k hk
  omega
theorem leP_len {ts : List Int} (h : VT ts) : ∀ k, k ≤ ts.length → (leP ts k).length = ts.length - k := by
  intro k
  induction k with
  | zero => intro _; simp [leP, rise_len]
  | succ k ih =>
    intro hk
    have h1 := ih (by omega)
    have h2 := vt_nat h (k := k) (by omega)
    rw [leP, List.length_eraseIdx, if_pos (by omega), h1]
    omega

/-- How many numbers of a list are less than x. -/
def less (L : List Int) (x : Int) : Nat := L.countP fun y => decide (y < x)
theorem less_succ (L : List Int) (x : Int) : less L (x + 1) = less L x + L.count x := by
  induction L with
  | nil => rfl
  | cons a l ih =>
    unfold less at *
    rw [List.countP_cons, List.countP_cons, ih, List.count_cons]
    by_cases h1 : a < x
    · have h2 : a < x + 1 := by omega
      have h3 : ¬ a = x := by omega
      simp [h1, h2, h3]; omega
    · by_cases h3 : a = x
      · subst h3
        have h2 : a < a + 1 := by omega
        simp [h2]; omega
      · have h2 : ¬ a < x + 1 := by omega
        simp [h1, h2, h3]
theorem erase_perm {L : List Int} {i : Nat} (hi : i < L.length) : (L[i] :: L.eraseIdx i).Perm L := by
  have e : L = L.take i ++ L[i] :: L.drop (i + 1) := by
    rw [← List.drop_eq_getElem_cons hi, List.take_append_drop]
  have h := (List.perm_middle (a := L[i]) (l₁ := L.take i) (l₂ := L.drop (i + 1))).symm
  rw [← e, ← List.eraseIdx_eq_take_drop_succ] at h
  exact h
theorem pw_nodup {L : List Int} (h : L.Pairwise (· < ·)) : L.Nodup := h.imp (fun h => by omega)
theorem less_in {L : List Int} (h : L.Pairwise (· < ·)) {x : Int} (hx : x ∈ L) : less L (x + 1) = less L x + 1 := by
  rw [less_succ, List.Nodup.count (pw_nodup h), if_pos hx]
theorem less_out {L : List Int} {x : Int} (hx : x ∉ L) : less L (x + 1) = less L x := by
  rw [less_succ, List.count_eq_zero_of_not_mem hx]; rfl
theorem less_none {L : List Int} {x : Int} (h : ∀ y ∈ L, x ≤ y) : less L x = 0 := by
  rw [less, List.countP_eq_zero]
  intro y hy
  have := h y hy
  simp; omega
theorem less_all {L : List Int} {x : Int} (h : ∀ y ∈ L, y < x) : less L x = L.length := by
  rw [less, List.countP_eq_length]
  intro y hy
  simpa using h y hy
theorem less_at {L : List Int} (h : L.Pairwise (· < ·)) : ∀ i, i < L.length → less L (el L i) = i := by
  induction L with
  | nil => intro i hi; simp at hi
  | cons a l ih =>
    intro i hi
    rw [List.pairwise_cons] at h
    cases i with
    | zero =>
      refine less_none (fun y hy => ?_)
      have e : el (a :: l) 0 = a := rfl
      rw [e]
      rcases List.mem_cons.1 hy with rfl | hy
      · omega
      · have := h.1 y hy; omega
    | succ i =>
      have e : el (a :: l) (i + 1) = el l i := by simp [el]
      have hi' : i < l.length := by simpa using hi
      have ha := h.1 (el l i) (el_mem hi')
      rw [e]
      have := ih h.2 i hi'
      unfold less at *
      rw [List.countP_cons, this]
      simp [ha]
theorem less_find {L : List Int} (h : L.Pairwise (· < ·)) {x : Int} (hx : x ∈ L) : less L x < L.length ∧ el L (less L x) = x := by
  obtain ⟨i, hi, rfl⟩ := List.mem_iff_getElem.1 hx
  have e : el L i = L[i] := el_lt hi
  have := less_at h i hi
  rw [e] at this
  rw [this]
  exact ⟨hi, e⟩
theorem less_perm {L M : List Int} (h : L.Perm M) (x : Int) : less L x = less M x := h.countP_eq _
theorem erase_mem {L : List Int} (h : L.Nodup) {i : Nat} (hi : i < L.length) {y : Int} : y ∈ L.eraseIdx i ↔ y ∈ L ∧ y ≠ el L i := by
  have hp : (el L i :: L.eraseIdx i).Perm L := by rw [el_lt hi]; exact erase_perm hi
  have hn : (el L i :: L.eraseIdx i).Nodup := hp.nodup_iff.2 h
  rw [List.nodup_cons] at hn
  rw [← hp.mem_iff, List.mem_cons]
  constructor
  · intro hy
    exact ⟨Or.inr hy, fun e => hn.1 (e ▸ hy)⟩
  · rintro ⟨h1, h2⟩
    exact h1.resolve_left h2

theorem ordT_len (ts : List Int) : (ordT ts).length = ts.length := by simp [ordT]
theorem el_ordT {ts : List Int} {k : Nat} (h : k < ts.length) : el (ordT ts) k = el (leP ts k) (el ts k).toNat := by rw [ordT, el_map h]

theorem drop_el {xs : List Int} {k : Nat} (h : k < xs.length) : xs.drop k = el xs k :: xs.drop (k + 1) := by
  rw [List.drop_eq_getElem_cons h, el_lt h]
theorem leP_step {ts : List Int} (h : VT ts) {k : Nat} (hk : k < ts.length) : (el (ordT ts) k :: leP ts (k + 1)).Perm (leP ts k) := by
  have h1 := vt_nat h hk
  have h2 := leP_len h k (by omega)
  rw [el_ordT hk, leP, el_lt (by omega)]
  exact erase_perm _
theorem ordT_drop {ts : List Int} (h : VT ts) : ∀ m, m ≤ ts.length → ((ordT ts).drop (ts.length - m)).Perm (leP ts (ts.length - m)) := by
  intro m
  induction m with
  | zero =>
    intro _
    have h1 := leP_len h ts.length (Nat.le_refl _)
    have h2 : leP ts ts.length = [] := List.eq_nil_of_length_eq_zero (by omega)
    rw [Nat.sub_zero, h2, List.drop_eq_nil_of_le (by rw [ordT_len]; omega)]
  | succ m ih =>
    intro hm
    have hk : ts.length - (m + 1) < ts.length := by omega
    have e : ts.length - (m + 1) + 1 = ts.length - m := by omega
    rw [drop_el (by rw [ordT_len]; omega), e]
    have := leP_step h hk
    rw [e] at this
    exact ((ih (by omega)).cons _).trans this
theorem ordT_perm {ts : List Int} (h : VT ts) {k : Nat} (hk : k ≤ ts.length) : ((ordT ts).drop k).Perm (leP ts k) := by
  have := ordT_drop h (ts.length - k) (by omega)
  rwa [show ts.length - (ts.length - k) = k by omega] at this

/-- How many of the numbers behind place k are less: as the table has it. -/
theorem cnt_less (xs : List Int) (x : Int) (b : Nat) : ∀ t, b + t ≤ xs.length → cntP (fun j => decide (el xs (b + j) < x)) t = less ((xs.drop b).take t) x := by
  intro t
  induction t with
  | zero => intro _; simp [cntP, less]
  | succ t ih =>
    intro ht
    have e : (xs.drop b).take (t + 1) = (xs.drop b).take t ++ [el xs (b + t)] := by
      rw [take_el (by simp; omega)]
      congr 1
      simp [el]
    rw [cntP, ih (by omega), e, less, less, List.countP_append, List.countP_singleton]
    split <;> simp
theorem lb_less {xs : List Int} {k : Nat} (hk : k < xs.length) : lb xs k = less (xs.drop (k + 1)) (el xs k) := by
  rw [lb, lbP, cnt_less xs (el xs k) (k + 1) (xs.length - 1 - k) (by omega), List.take_of_length_le (by simp; omega)]

theorem table_ordT {ts : List Int} (h : VT ts) : table (ordT ts) = ts := by
  refine ext_el (by rw [table_len, ordT_len]) (fun k hk => ?_)
  rw [table_len, ordT_len] at hk
  have h1 := vt_nat h hk
  have h2 := leP_len h k (by omega)
  have hlt : (el ts k).toNat < (leP ts k).length := by omega
  rw [el_table (by rw [ordT_len]; exact hk), lb_less (by rw [ordT_len]; exact hk), less_perm (ordT_perm h (by omega)) _]
  have e1 := less_perm (leP_step h hk) (el (ordT ts) k)
  have e2 : less (el (ordT ts) k :: leP ts (k + 1)) (el (ordT ts) k) = less (leP ts (k + 1)) (el (ordT ts) k) := by
    unfold less
    rw [List.countP_cons]
    simp
  rw [e2] at e1
  rw [e1, el_ordT hk, less_at (leP_pw ts k) _ hlt]
  exact h1.1

theorem ordT_valid {ts : List Int} (h : VT ts) : Valid (ordT ts) := by
  have hp := ordT_perm h (Nat.zero_le _)
  rw [List.drop_zero] at hp
  have hl := ordT_len ts
  have hn : (ordT ts).Nodup := hp.nodup_iff.2 (pw_nodup (rise_pw _))
  have hm : ∀ j, j < (ordT ts).length → 0 ≤ el (ordT ts) j ∧ el (ordT ts) j < ts.length := fun j hj => rise_mem.1 (hp.mem_iff.1 (el_mem hj))
  refine ⟨by rw [hl]; exact h.len, fun j hj => (hm j hj).1, fun j hj => by rw [hl]; exact (hm j hj).2, fun i j hij hj e => ?_⟩
  rw [el_lt (by omega), el_lt hj] at e
  have := (List.nodup_iff_pairwise_ne.1 hn)
  rw [List.pairwise_iff_getElem] at this
  exact this i j (by omega) hj hij e

theorem table_vt {xs : List Int} (h : Valid xs) : VT (table xs) := by
  refine ⟨by rw [table_len]; exact h.len, fun j hj => ?_, fun j hj => ?_⟩
  · exact (table_bd xs j hj).1
  · rw [table_len] at hj ⊢
    rw [el_table hj]
    have := lbP_bd xs j (xs.length - 1 - j)
    unfold lb
    omega

theorem valid_perm {xs : List Int} (h : Valid xs) : xs.Perm (rise xs.length) := by
  refine (List.perm_ext_iff_of_nodup h.nodup (pw_nodup (rise_pw _))).2 (fun x => ?_)
  rw [rise_mem]
  constructor
  · intro hx; exact h.mem hx
  · rintro ⟨h0, h1⟩
    obtain ⟨j, hj, e⟩ := h.place (v := x.toNat) (by omega)
    have e2 : el xs j = x := by omega
    exact e2 ▸ el_mem hj

theorem leP_table {xs : List Int} (h : Valid xs) : ∀ k, k ≤ xs.length → (leP (table xs) k).Perm (xs.drop k) ∧ ∀ j, j < k → el (leP (table xs) j) (el (table xs) j).toNat = el xs j := by
  intro k
  induction k with
  | zero =>
    intro _
    refine ⟨?_, fun j hj => by omega⟩
    rw [leP, table_len, List.drop_zero]
    exact (valid_perm h).symm
  | succ k ih =>
    intro hk
    obtain ⟨hp, hj⟩ := ih (by omega)
    have hx : el xs k ∈ leP (table xs) k := hp.mem_iff.2 (by rw [drop_el (by omega)]; simp)
    have e : less (leP (table xs) k) (el xs k) = (el (table xs) k).toNat := by
      rw [less_perm hp, drop_el (by omega), el_table (by omega), lb_less (by omega)]
      unfold less
      rw [List.countP_cons]
      simp
    have hf := less_find (leP_pw (table xs) k) hx
    rw [e] at hf
    refine ⟨?_, fun j hjk => ?_⟩
    · rw [leP]
      have h1 : (el xs k :: (leP (table xs) k).eraseIdx (el (table xs) k).toNat).Perm (leP (table xs) k) := by
        have := erase_perm hf.1
        rwa [← el_lt hf.1, hf.2] at this
      have h2 := h1.trans hp
      rw [drop_el (xs := xs) (k := k) (by omega)] at h2
      exact (List.perm_cons _).1 h2
    · by_cases e2 : j = k
      · rw [e2]; exact hf.2
      · exact hj j (by omega)
theorem ordT_table {xs : List Int} (h : Valid xs) : ordT (table xs) = xs := by
  refine ext_el (by rw [ordT_len, table_len]) (fun k hk => ?_)
  rw [ordT_len, table_len] at hk
  rw [el_ordT (by rw [table_len]; exact hk)]
  exact (leP_table h xs.length (Nat.le_refl _)).2 k hk

end Go.Proofs.Ytjgaglfinpeeoac

/- Tables of ranks: the digits of a number to growing bases, and that they are read back. No condition. -/
namespace Go.Proofs.Ytjgaglfinpeeoac

theorem fac_step {n k : Nat} (h : k < n) : fac (n - k) = fac (n - 1 - k) * ((n : Int) - k) := by
  obtain ⟨m, hm⟩ : ∃ m, n - 1 - k = m := ⟨_, rfl⟩
  rw [hm, show n - k = m + 1 by omega, fac]
  congr 1; omega

/-- The digit at place k of the rank r of n values. -/
def dig (n : Nat) (r : Int) (k : Nat) : Int := (r / fac (n - 1 - k)) % ((n : Int) - k)
def digs (n : Nat) (r : Int) : List Int := (List.range n).map (dig n r)
theorem digs_len (n : Nat) (r : Int) : (digs n r).length = n := map_range_len _
theorem el_digs {n k : Nat} {r : Int} (h : k < n) : el (digs n r) k = dig n r k := el_map h
theorem dig_bd {n k : Nat} {r : Int} (h : k < n) : 0 ≤ dig n r k ∧ dig n r k < (n : Int) - k :=
  ⟨Int.emod_nonneg _ (by omega), Int.emod_lt_of_pos _ (by omega)⟩
theorem digs_vt {n : Nat} {r : Int} (h : n ≤ 7) : VT (digs n r) := by
  refine ⟨by rw [digs_len]; exact h, fun j hj => ?_, fun j hj => ?_⟩
  · rw [digs_len] at hj; rw [el_digs hj]; exact (dig_bd hj).1
  · rw [digs_len] at hj ⊢; rw [el_digs hj]; have := (dig_bd (r := r) hj).2; omega

theorem fac_pos0 (n : Nat) : 0 < fac n := by have := fac_pos n; omega

/-- What is left of the rank ahead of place k, as the program has it, and behind it, as the model has it. -/
theorem rest_up {n k : Nat} {r : Int} (h : k < n) : r / fac (n - 1 - k) / ((n : Int) - k) = r / fac (n - k) := by
  rw [fac_step h, Int.ediv_ediv_of_nonneg (Int.le_of_lt (fac_pos0 _))]
theorem rest_dn {n k : Nat} {r : Int} (h : k < n) : (r % fac (n - k)) % fac (n - 1 - k) = r % fac (n - 1 - k) := by
  rw [fac_step h]
  exact Int.emod_emod_of_dvd _ (Int.dvd_mul_right _ _)
theorem dig_dn {n k : Nat} {r : Int} (h : k < n) : (r % fac (n - k)) / fac (n - 1 - k) = dig n r k := by
  have f1 := fac_pos0 (n - 1 - k)
  have h1 := Int.emod_add_mul_ediv r (fac (n - k))
  have e : r = fac (n - 1 - k) * (((n : Int) - k) * (r / fac (n - k))) + r % fac (n - k) := by
    rw [← Int.mul_assoc, ← fac_step h]; omega
  have hb0 := Int.emod_nonneg r (Int.ne_of_gt (fac_pos0 (n - k)))
  have hb1 := Int.emod_lt_of_pos r (fac_pos0 (n - k))
  have e2 : r / fac (n - 1 - k) = ((n : Int) - k) * (r / fac (n - k)) + (r % fac (n - k)) / fac (n - 1 - k) := by
    conv => lhs; rw [e]
    rw [Int.mul_add_ediv_left _ _ (by omega)]
  have q0 : 0 ≤ (r % fac (n - k)) / fac (n - 1 - k) := Int.ediv_nonneg hb0 (by omega)
  have q1 : (r % fac (n - k)) / fac (n - 1 - k) < (n : Int) - k := by
    refine Int.ediv_lt_of_lt_mul f1 ?_
    rw [Int.mul_comm, ← fac_step h]
    exact hb1
  rw [dig, e2, Int.add_comm, Int.add_mul_emod_self_left, Int.emod_eq_of_lt q0 q1]

theorem rkP_digs {n : Nat} {r : Int} (h0 : 0 ≤ r) (h1 : r < fac n) : ∀ k, k ≤ n → rkP (digs n r) n k = r / fac (n - k) := by
  intro k
  induction k with
  | zero => intro _; rw [rkP, Nat.sub_zero, Int.ediv_eq_zero_of_lt h0 h1]
  | succ k ih =>
    intro hk
    rw [rkP, ih (by omega), el_digs (by omega), dig, ← rest_up (k := k) (by omega), show n - (k + 1) = n - 1 - k by omega]
    have := Int.emod_add_mul_ediv (r / fac (n - 1 - k)) ((n : Int) - k)
    rw [Int.mul_comm] at this
    omega
theorem rank_digs {n : Nat} {r : Int} (hn : n ≤ 7) (h0 : 0 ≤ r) (h1 : r < fac n) : rk (ordT (digs n r)) = r := by
  rw [rk, table_ordT (digs_vt hn), ordT_len, digs_len, rkP_digs h0 h1 n (Nat.le_refl _), Nat.sub_self, fac, Int.ediv_one]

theorem rkP_lt {t : List Int} (h : VT t) : ∀ k, k ≤ t.length → 0 ≤ rkP t t.length k ∧ rkP t t.length k * fac (t.length - k) + fac (t.length - k) ≤ fac t.length := by
  intro k
  induction k with
  | zero => intro _; rw [rkP, Nat.sub_zero]; omega
  | succ k ih =>
    intro hk
    obtain ⟨a, b⟩ := ih (by omega)
    have h1 := h.lo k (by omega)
    have h2 := h.hi k (by omega)
    have f1 := fac_pos0 (t.length - 1 - k)
    have h3 : el t k ≤ (t.length : Int) - k - 1 := by omega
    rw [rkP]
    refine ⟨by have := Int.mul_nonneg a (show 0 ≤ (t.length : Int) - k by omega); omega, ?_⟩
    rw [fac_step (n := t.length) (k := k) (by omega)] at b
    rw [show t.length - (k + 1) = t.length - 1 - k by omega]
    generalize fac (t.length - 1 - k) = f at *
    generalize (t.length : Int) - k = m at *
    have e1 : (rkP t t.length k * m + el t k) * f = rkP t t.length k * (f * m) + el t k * f := by
      rw [Int.add_mul, Int.mul_assoc, Int.mul_comm m f]
    have e2 : el t k * f ≤ (m - 1) * f := Int.mul_le_mul_of_nonneg_right (by omega) (by omega)
    have e3 : (m - 1) * f = f * m - f := by rw [Int.sub_mul, Int.one_mul, Int.mul_comm]
    rw [e1]
    omega
theorem rk_fac {xs : List Int} (h : Valid xs) : 0 ≤ rk xs ∧ rk xs < fac xs.length := by
  have hv := table_vt h
  have hl := table_len xs
  have := rkP_lt hv (table xs).length (Nat.le_refl _)
  rw [Nat.sub_self, fac, hl] at this
  rw [rk]
  omega
theorem rk_rest {t : List Int} (h : VT t) {k : Nat} (hk : k < t.length) : rkP t t.length (k + 1) % ((t.length : Int) - k) = el t k ∧ rkP t t.length (k + 1) / ((t.length : Int) - k) = rkP t t.length k := by
  have h1 := h.lo k hk
  have h2 := h.hi k hk
  rw [rkP, Int.add_comm, Int.mul_comm]
  refine ⟨?_, ?_⟩
  · rw [Int.add_mul_emod_self_left, Int.emod_eq_of_lt h1 (by omega)]
  · rw [Int.add_mul_ediv_left _ _ (by omega), Int.ediv_eq_zero_of_lt h1 (by omega)]; omega
theorem digs_rk {xs : List Int} (h : Valid xs) : digs xs.length (rk xs) = table xs := by
  have hv := table_vt h
  have hl := table_len xs
  have key : ∀ m, m ≤ xs.length → rk xs / fac m = rkP (table xs) xs.length (xs.length - m) := by
    intro m
    induction m with
    | zero => intro _; rw [fac, Int.ediv_one, Nat.sub_zero, rk]
    | succ m ih =>
      intro hm
      have h1 := ih (by omega)
      have h2 := rk_rest hv (k := xs.length - (m + 1)) (by omega)
      rw [hl, show xs.length - (m + 1) + 1 = xs.length - m by omega] at h2
      rw [fac, ← Int.ediv_ediv_of_nonneg (Int.le_of_lt (fac_pos0 m)), h1, ← h2.2]
      congr 1; omega
  refine ext_el (by rw [digs_len, table_len]) (fun k hk => ?_)
  rw [digs_len] at hk
  rw [el_digs hk, dig, key _ (by omega)]
  have h2 := rk_rest hv (k := k) (by omega)
  rw [hl] at h2
  rw [show xs.length - (xs.length - 1 - k) = k + 1 by omega, h2.1]
theorem ord_rk {xs : List Int} (h : Valid xs) : ordT (digs xs.length (rk xs)) = xs := by rw [digs_rk h, ordT_table h]

end Go.Proofs.Ytjgaglfinpeeoac

/- The order of the next rank, as the program reckons it in an array of seven places, and that it is the one of the next rank, reckoned over all orders of at most five values. No condition. -/
namespace Go.Proofs.Ytjgaglfinpeeoac

/-- An order in seven places, those that are not there hold 0. -/
def pad7 (xs : List Int) : List Int := xs ++ List.replicate (7 - xs.length) 0
/-- The order of n values whose rank is k. -/
def ordK (n k : Nat) : List Int := ordT (digs n k)
theorem ordK_len (n k : Nat) : (ordK n k).length = n := by rw [ordK, ordT_len, digs_len]
theorem ordK_valid {n : Nat} (h : n ≤ 7) (k : Nat) : Valid (ordK n k) := ordT_valid (digs_vt h)
theorem pad7_len {xs : List Int} (h : xs.length ≤ 7) : (pad7 xs).length = 7 := by rw [pad7, List.length_append, List.length_replicate]; omega
theorem el_pad7 {xs : List Int} {j : Nat} (h : j < xs.length) : el (pad7 xs) j = el xs j := by simp [pad7, el, List.getD, List.getElem?_append_left h]
/-- The first rise, from place r down. -/
def rsF (xs : List Int) : Nat → Nat
  | 0 => 0
  | r + 1 => if el xs (r + 1 + 1) < el xs (r + 1) then rsF xs r else r + 1
/-- The first value that is not less than v, from place g down. -/
def gtD (xs : List Int) (v : Int) : Nat → Nat
  | 0 => 0
  | g + 1 => if el xs (g + 1) < v then gtD xs v g else g + 1
def swp (xs : List Int) (i k : Nat) : List Int := (xs.set i (el xs k)).set k (el xs i)
/-- The values from place i to place k, turned. -/
def rvF : Nat → List Int → Nat → Nat → List Int
  | 0, xs, _, _ => xs
  | f + 1, xs, i, k => if i < k then rvF f (swp xs i k) (i + 1) (k - 1) else xs
def nxt (xs : List Int) (n : Nat) : List Int :=
  rvF 7 (swp xs (rsF xs (n - 2)) (gtD xs (el xs (rsF xs (n - 2))) (n - 1))) (rsF xs (n - 2) + 1) (n - 1)
theorem swp_len (xs : List Int) (i k : Nat) : (swp xs i k).length = xs.length := by simp [swp]
theorem rvF_len (f : Nat) : ∀ (xs : List Int) (i k : Nat), (rvF f xs i k).length = xs.length := by
  induction f with
  | zero => intro xs i k; rfl
  | succ f ih => intro xs i k; rw [rvF]; split
                 · rw [ih, swp_len]
                 · rfl

/-- What the program leans on at an order, and what comes of it. -/
structure Nx (xs : List Int) (n r g : Nat) (ys : List Int) : Prop where
  two : 2 ≤ n
  top : n ≤ 5
  rr : r + 2 ≤ n
  gg : g + 1 ≤ n
  rup : ∀ j, r < j → j + 2 ≤ n → el xs (j + 1) < el xs j
  rat : el xs r ≤ el xs (r + 1)
  gup : ∀ j, g < j → j + 1 ≤ n → el xs j < el xs r
  gat : el xs r ≤ el xs g
  out : rvF 7 (swp xs r g) (r + 1) (n - 1) = ys
  bd : ∀ j, 0 ≤ el xs j ∧ el xs j ≤ 7
theorem rsF_le (xs : List Int) : ∀ r, rsF xs r ≤ r := by
  intro r
  induction r with
  | zero => exact Nat.le_refl _
  | succ r ih => rw [rsF]; split <;> omega
theorem rsF_up (xs : List Int) : ∀ r j, rsF xs r < j → j ≤ r → el xs (j + 1) < el xs j := by
  intro r
  induction r with
  | zero => intro j h1 h2; omega
  | succ r ih =>
    intro j h1 h2
    rw [rsF] at h1
    split at h1
    · rename_i h
      by_cases e : j = r + 1
      · subst e; exact h
      · exact ih j h1 (by omega)
    · omega
theorem gtD_le (xs : List Int) (v : Int) : ∀ r, gtD xs v r ≤ r := by
  intro r
  induction r with
  | zero => exact Nat.le_refl _
  | succ r ih => rw [gtD]; split <;> omega
theorem gtD_up (xs : List Int) (v : Int) : ∀ r j, gtD xs v r < j → j ≤ r → el xs j < v := by
  intro r
  induction r with
  | zero => intro j h1 h2; omega
  | succ r ih =>
    intro j h1 h2
    rw [gtD] at h1
    split at h1
    · rename_i h
      by_cases e : j = r + 1
      · subst e; exact h
      · exact ih j h1 (by omega)
    · omega
def nxOk (n k : Nat) : Bool :=
  decide (2 ≤ n) && decide (el (pad7 (ordK n k)) (rsF (pad7 (ordK n k)) (n - 2)) ≤ el (pad7 (ordK n k)) (rsF (pad7 (ordK n k)) (n - 2) + 1)) &&
  decide (el (pad7 (ordK n k)) (rsF (pad7 (ordK n k)) (n - 2)) ≤ el (pad7 (ordK n k)) (gtD (pad7 (ordK n k)) (el (pad7 (ordK n k)) (rsF (pad7 (ordK n k)) (n - 2))) (n - 1))) &&
  decide (nxt (pad7 (ordK n k)) n = pad7 (ordK n (k + 1)))
def facN : Nat → Nat
  | 0 => 1
  | n + 1 => facN n * (n + 1)
theorem nx_all : ∀ n, n < 6 → (List.range (facN n - 1)).all (nxOk n) = true := by decide +kernel
theorem facN_pos : ∀ n, n < 6 → 1 ≤ facN n ∧ facN n ≤ 120 := by decide
theorem facN_fac : ∀ n, n < 6 → (facN n : Int) = fac n := by decide
theorem nx_at {n k : Nat} (hn : n ≤ 5) (hk : k + 1 < facN n) : ∃ r g, Nx (pad7 (ordK n k)) n r g (pad7 (ordK n (k + 1))) := by
  have h := List.all_eq_true.1 (nx_all n (by omega)) k (List.mem_range.2 (by omega))
  simp only [nxOk, Bool.and_eq_true, decide_eq_true_eq] at h
  obtain ⟨⟨⟨h2, h3⟩, h4⟩, h5⟩ := h
  refine ⟨_, _, h2, hn, by have := rsF_le (pad7 (ordK n k)) (n - 2); omega, by have := gtD_le (pad7 (ordK n k)) (el (pad7 (ordK n k)) (rsF (pad7 (ordK n k)) (n - 2))) (n - 1); omega,
    fun j h6 h7 => rsF_up _ (n - 2) j h6 (by omega), h3, fun j h6 h7 => gtD_up _ _ (n - 1) j h6 (by omega), h4, h5, fun j => ?_⟩
  by_cases hj : j < n
  · rw [el_pad7 (by rw [ordK_len]; exact hj)]
    have hv := ordK_valid (n := n) (by omega) k
    have h8 := hv.lo j (by rw [ordK_len]; exact hj)
    have h9 := hv.hi j (by rw [ordK_len]; exact hj)
    rw [ordK_len] at h9
    omega
  · have : el (pad7 (ordK n k)) j = 0 := by
      rw [el, pad7, List.getD, List.getElem?_append_right (by rw [ordK_len]; omega)]
      by_cases h9 : j - (ordK n k).length < 7 - (ordK n k).length
      · simp [h9]
      · simp [h9]
    omega
/-- The rising order comes first, the falling one last. -/
theorem ordK_first : ∀ n, n < 6 → ordK n 0 = rise n := by decide +kernel
theorem ordK_last : ∀ n, n < 6 → ordK n (facN n - 1) = turn (rise n) := by decide +kernel
theorem ordK_ne_all : ∀ n, n < 6 → (List.range (facN n - 1)).all (fun k => decide (pad7 (ordK n k) ≠ pad7 (ordK n (facN n - 1)))) = true := by decide +kernel
theorem ordK_ne {n k : Nat} (hn : n ≤ 5) (hk : k + 1 < facN n) : pad7 (ordK n k) ≠ pad7 (ordK n (facN n - 1)) :=
  of_decide_eq_true (List.all_eq_true.1 (ordK_ne_all n (by omega)) k (List.mem_range.2 (by omega)))
theorem pad7_inj {xs ys : List Int} (h : xs.length = ys.length) (e : pad7 xs = pad7 ys) : xs = ys := by
  unfold pad7 at e
  exact (List.append_inj e h).1
theorem ordK_rank {n k : Nat} (hn : n ≤ 5) (hk : k < facN n) : rk (ordK n k) = k :=
  rank_digs (by omega) (by omega) (by rw [← facN_fac n (by omega)]; omega)
theorem ordK_inj {n k m : Nat} (hn : n ≤ 5) (hk : k < facN n) (hm : m < facN n) (e : pad7 (ordK n k) = pad7 (ordK n m)) : k = m := by
  have h1 := pad7_inj (by rw [ordK_len, ordK_len]) e
  have h2 := ordK_rank hn hk
  have h3 := ordK_rank hn hm
  rw [h1, h3] at h2
  omega
/-- All orders of n values, by their ranks. -/
def allK (n : Nat) : List (List Int) := (List.range (facN n)).map (ordK n)
theorem allK_len (n : Nat) : (allK n).length = facN n := by simp [allK]

end Go.Proofs.Ytjgaglfinpeeoac

/- Words for what the walks say of memory: a slice of numbers that is read, a slice that a call has made, and how both fare in later worlds. No condition. -/
namespace Go.Proofs.Ytjgaglfinpeeoac
open Go.RowKit

/-- The slice value with address ao, length n and capacity cap reads as the numbers xs. -/
structure Sl (w : World) (ao : Option Addr) (n cap : Nat) (xs : List Int) : Prop where
  len : xs.length = n
  le : n ≤ cap
  max : cap ≤ maxLen
  row : 0 < n → ∃ b off, ao = some ⟨b, off, none⟩ ∧ b < w.heap.size ∧ ∀ j, j < n → w.cell? ⟨b, off + j, none⟩ = some (.int .i64 (el xs j))

/-- What a call has made: the slice value u owns the numbers ys, in a block from B on. -/
def Own (w : World) (B : Nat) (u : Value) (ys : List Int) : Prop := w.ownsRow B 3 1 u ys.length (ys.map (Value.int .i64))

/-- The same with its place known: block g, length n, capacity cap. -/
def OwS (w : World) (B g n cap : Nat) (ys : List Int) : Prop := w.ownsRow B 3 1 (.slice (some ⟨g, 0, none⟩) n cap) n (ys.map (Value.int .i64))

theorem OwS.len {w : World} {B g n cap : Nat} {ys : List Int} (h : OwS w B g n cap ys) : ys.length = n := by
  have := h.1
  simpa using this

theorem OwS.own {w : World} {B g n cap : Nat} {ys : List Int} (h : OwS w B g n cap ys) : Own w B (.slice (some ⟨g, 0, none⟩) n cap) ys := by
  have := h.len
  subst this
  exact h

theorem OwS.cell {w : World} {B g n cap : Nat} {ys : List Int} (h : OwS w B g n cap ys) {j : Nat} (hj : j < n) : w.cell? ⟨g, j, none⟩ = some (.int .i64 (el ys j)) := by
  have h1 := World.ownsRow.cellAt h j (by omega)
  rw [h1]
  have := h.len
  simp [el, show j < ys.length by omega]

theorem OwS.frozen {w : World} {B g n cap : Nat} {ys : List Int} (h : OwS w B g n cap ys) (j : Nat) : w.frozen? ⟨g, j, none⟩ = false := World.ownsRow.frozenAt h j

theorem OwS.set {w : World} {B g n cap : Nat} {ys : List Int} (h : OwS w B g n cap ys) (j : Nat) (v : Int) : OwS (w.setCell ⟨g, j, none⟩ (.int .i64 v)) B g n cap (ys.set j v) := by
  have := (World.ownsRow.stored h j (.int .i64 v)).1
  rwa [← List.map_set] at this

theorem OwS.lt {w : World} {B g n cap : Nat} {ys : List Int} (h : OwS w B g n cap ys) : B ≤ g ∧ g < w.heap.size := World.ownsRow.lt h g rfl

theorem OwS.sl {w : World} {B g n cap : Nat} {ys : List Int} (h : OwS w B g n cap ys) : Sl w (some ⟨g, 0, none⟩) n cap ys := by
  have h0 := h
  rcases h.2 with ⟨h1, _⟩ | ⟨g', cap', cur, hv, hB, hg, h1, h2, h3, h4⟩
  · simp at h1
  · simp only [Value.slice.injEq, Option.some.injEq, Addr.mk.injEq, and_true, true_and] at hv
    obtain ⟨rfl, rfl⟩ := hv
    exact ⟨h.len, h1, h2, fun _ => ⟨g, 0, rfl, h0.lt.2, fun j hj => by rw [Nat.zero_add]; exact h0.cell hj⟩⟩

theorem OwS.drewN {w : World} {B g n cap : Nat} {ys : List Int} (h : OwS w B g n cap ys) (m : Nat) : OwS (w.drewN m) B g n cap ys := h

/-- A store into another block. -/
theorem OwS.other {w : World} {B g n cap : Nat} {ys : List Int} (h : OwS w B g n cap ys) {a : Addr} (ha : a.block ≠ g) (v : Value) : OwS (w.setCell a v) B g n cap ys := by
  refine ⟨h.1, ?_⟩
  rcases h.2 with ⟨h1, _⟩ | ⟨g', cap', cur, hv, hB, hg, r⟩
  · simp at h1
  · have : g' = g := by simp at hv; omega
    subst this
    exact Or.inr ⟨g', cap', cur, hv, hB, by rw [Below.heap_setCell _ _ _ _ (by omega)]; exact hg, r⟩

theorem Sl.later {w w' : World} {ao : Option Addr} {n cap : Nat} {xs : List Int} (h : Sl w ao n cap xs) (hb : Below w.heap.size w w') : Sl w' ao n cap xs := by
  refine ⟨h.len, h.le, h.max, fun hn => ?_⟩
  obtain ⟨b, off, rfl, hlt, hc⟩ := h.row hn
  exact ⟨b, off, rfl, Nat.lt_of_lt_of_le hlt hb.size, fun j hj => (hb.cell hlt).trans (hc j hj)⟩

theorem Sl.below {B : Nat} {w w' : World} {ao : Option Addr} {n cap : Nat} {xs : List Int} (h : Sl w ao n cap xs) (hB : w.heap.size ≤ B) (hb : Below B w w') : Sl w' ao n cap xs := h.later (hb.mono hB)

theorem Sl.nil {w : World} : Sl w none 0 0 [] := ⟨rfl, Nat.le_refl _, Nat.zero_le _, fun h => by omega⟩

theorem Sl.big {w : World} {ao : Option Addr} {n cap : Nat} {xs : List Int} (h : Sl w ao n cap xs) : n ≤ 9223372036854775807 := by
  have := h.le
  have := h.max
  unfold maxLen at this
  omega

theorem Own.place {w : World} {B : Nat} {u : Value} {ys : List Int} (h : Own w B u ys) : (u = .slice none 0 0 ∧ ys = []) ∨ ∃ g cap, u = .slice (some ⟨g, 0, none⟩) ys.length cap ∧ OwS w B g ys.length cap ys := by
  have h0 := h
  rcases h.2 with ⟨rfl, h2⟩ | ⟨g, cap, cur, rfl, hB, hg, h1, h2, h3, h4⟩
  · exact Or.inl ⟨rfl, List.eq_nil_of_length_eq_zero h2⟩
  · exact Or.inr ⟨g, cap, rfl, h0⟩

theorem Own.sl {w : World} {B : Nat} {u : Value} {ys : List Int} (h : Own w B u ys) : ∃ ao cap, u = .slice ao ys.length cap ∧ Sl w ao ys.length cap ys := by
  rcases h.place with ⟨rfl, rfl⟩ | ⟨g, cap, rfl, h1⟩
  · exact ⟨none, 0, rfl, Sl.nil⟩
  · exact ⟨_, cap, rfl, h1.sl⟩

theorem Own.read {w : World} {B : Nat} {ao : Option Addr} {n cap : Nat} {ys : List Int} (h : Own w B (.slice ao n cap) ys) : Sl w ao n cap ys := by
  rcases h.place with ⟨e, rfl⟩ | ⟨g, cap', e, h1⟩
  · simp only [Value.slice.injEq] at e
    obtain ⟨rfl, rfl, rfl⟩ := e
    exact Sl.nil
  · simp only [Value.slice.injEq] at e
    obtain ⟨rfl, rfl, rfl⟩ := e
    exact h1.sl

theorem Own.nilcap {w : World} {B : Nat} {ao : Option Addr} {n cap : Nat} {ys : List Int} (h : Own w B (.slice ao n cap) ys) : ao = none → cap = 0 := by
  rintro rfl
  rcases h.place with ⟨e, rfl⟩ | ⟨g, cap', e, h1⟩
  · simp only [Value.slice.injEq] at e
    exact e.2.2
  · simp at e

theorem Own.below {B B' : Nat} {w w' : World} {u : Value} {ys : List Int} (h : Own w B u ys) (hB : w.heap.size ≤ B') (hb : Below B' w w') : Own w' B u ys := by
  refine ⟨h.1, ?_⟩
  rcases h.2 with h2 | ⟨g, cap, cur, hv, hg, hh, r⟩
  · exact Or.inl h2
  · exact Or.inr ⟨g, cap, cur, hv, hg, (hb.block g (Nat.lt_of_lt_of_le (Array.getElem?_eq_some_iff.1 hh).1 hB)).trans hh, r⟩

theorem Own.mono {B B' : Nat} {w : World} {u : Value} {ys : List Int} (h : Own w B u ys) (hB : B' ≤ B) : Own w B' u ys := by
  refine ⟨h.1, ?_⟩
  rcases h.2 with h2 | ⟨g, cap, cur, hv, hg, r⟩
  · exact Or.inl h2
  · exact Or.inr ⟨g, cap, cur, hv, Nat.le_trans hB hg, r⟩

theorem Own.drewN {w : World} {B : Nat} {u : Value} {ys : List Int} (h : Own w B u ys) (m : Nat) : Own (w.drewN m) B u ys := h

theorem Own.nil {w : World} {B : Nat} : Own w B (.slice none 0 0) [] := World.ownsRow_nil _ _ _ _

theorem drewN_below {B : Nat} {a w : World} (h : Below B a w) (m : Nat) : Below B a (w.drewN m) := ⟨h.os, h.tape, h.output, h.size, h.block⟩

theorem grown_trans {a b c : World} {row : Option Nat} (h : a.grownBy b row) (k : b.grownBy c row) : a.grownBy c row :=
  ⟨k.os.trans h.os, k.tape.trans h.tape, k.output.trans h.output, Nat.le_trans h.size k.size, fun i hi hr => (k.block i (Nat.lt_of_lt_of_le hi h.size) hr).trans (h.block i hi hr)⟩
theorem grown_set {w : World} {g j : Nat} {v : Value} : w.grownBy (w.setCell ⟨g, j, none⟩ v) (some g) :=
  ⟨rfl, rfl, rfl, by simp [World.setCell], fun k _ hk => Below.heap_setCell _ _ _ _ (fun e => hk (by rw [e]))⟩
theorem grown_drewN {a b : World} {row : Option Nat} (h : a.grownBy b row) (m : Nat) : a.grownBy (b.drewN m) row := ⟨h.os, h.tape, h.output, h.size, h.block⟩
theorem below_of_grown {w w' : World} {row : Option Nat} {B : Nat} (h : w.grownBy w' row) (hB : B ≤ w.heap.size) (hr : ∀ k, row = some k → B ≤ k) : Below B w w' :=
  (Below.refl B w).grown h hB hr
theorem Own.kept {w w' : World} {B : Nat} {u : Value} {ys : List Int} {row : Option Nat} (h : Own w B u ys) (hg : w.grownBy w' row) (hne : u.ownBlock = none ∨ u.ownBlock ≠ row) : Own w' B u ys := World.ownsRow.kept h hg hne
theorem Own.blocks {w : World} {B : Nat} {u : Value} {ys : List Int} (h : Own w B u ys) : ∀ k, u.ownBlock = some k → B ≤ k ∧ k < w.heap.size := World.ownsRow.lt h

/-- What two calls have made lies apart. -/
theorem Own.apart {w1 w2 : World} {B1 B2 : Nat} {u1 u2 : Value} {y1 y2 : List Int} (h1 : Own w1 B1 u1 y1) (h2 : Own w2 B2 u2 y2) (hB : w1.heap.size ≤ B2) : u1.ownBlock = none ∨ u1.ownBlock ≠ u2.ownBlock := by
  cases e : u1.ownBlock with
  | none => exact Or.inl rfl
  | some k =>
    refine Or.inr (fun e2 => ?_)
    have := (h1.blocks k e).2
    have := (h2.blocks k e2.symm).1
    omega
theorem Own.apart' {w1 w2 : World} {B1 B2 : Nat} {u1 u2 : Value} {y1 y2 : List Int} (h1 : Own w1 B1 u1 y1) (h2 : Own w2 B2 u2 y2) (hB : w2.heap.size ≤ B1) : u1.ownBlock = none ∨ u1.ownBlock ≠ u2.ownBlock := by
  cases e : u1.ownBlock with
  | none => exact Or.inl rfl
  | some k =>
    refine Or.inr (fun e2 => ?_)
    have := (h1.blocks k e).1
    have := (h2.blocks k e2.symm).2
    omega

/-- k, k + 1, .. : n numbers. -/
def marks (k : Int) (n : Nat) : List Int := (List.range n).map fun i => k + (i : Nat)
theorem marks_len (k : Int) (n : Nat) : (marks k n).length = n := by simp [marks]
theorem el_marks {k : Int} {n j : Nat} (h : j < n) : el (marks k n) j = k + j := by simp [marks, el, h]
theorem marks_ext {xs : List Int} {k : Int} {n : Nat} (h : xs.length = n) (hj : ∀ j, j < n → el xs j = k + j) : xs = marks k n :=
  ext_el (by rw [h, marks_len]) (fun j hl => by rw [hj j (by omega), el_marks (by omega)])

/-- A call made a slice of the numbers ys, and turned nothing that was there. -/
def Made (w : World) (ys : List Int) (e : Ending) (w' : World) : Prop := ∃ u, e = .returned u ∧ Own w' w.heap.size u ys ∧ Below w.heap.size w w'

/-- A call made a slice of the numbers ys, said b beside it, and turned nothing that was there. -/
def Made2 (w : World) (ys : List Int) (b : Bool) (e : Ending) (w' : World) : Prop := ∃ u, e = .returned (.tuple #[u, .bool b]) ∧ Own w' w.heap.size u ys ∧ Below w.heap.size w w'

/-- A call answered v, and turned nothing that was there. -/
def Says (w : World) (v : Value) (e : Ending) (w' : World) : Prop := e = .returned v ∧ Below w.heap.size w w'

theorem made2_yes {p : Prop} [Decidable p] {w w' : World} {ys : List Int} {u : Value} (h : p) (ho : Own w' w.heap.size u ys) (hb : Below w.heap.size w w') : Made2 w ys (decide p) (.returned (.tuple #[u, .bool true])) w' :=
  ⟨u, by rw [decide_eq_true h], ho, hb⟩
theorem made2_no {p : Prop} [Decidable p] {w w' : World} {ys : List Int} (h : ¬ p) (hy : ys = []) (hb : Below w.heap.size w w') : Made2 w ys (decide p) (.returned (.tuple #[.slice none 0 0, .bool false])) w' :=
  ⟨_, by rw [decide_eq_false h], by rw [hy]; exact Own.nil, hb⟩
theorem says_to {P : Program} {f : FuncId} {a : Array Value} {w : World} {v v' : Int} (h : Calls P f a w (Says w (.int .i64 v))) (e : v = v') : Calls P f a w (Says w (.int .i64 v')) := e ▸ h
theorem says_tob {P : Program} {f : FuncId} {a : Array Value} {w : World} {v v' : Bool} (h : Calls P f a w (Says w (.bool v))) (e : v = v') : Calls P f a w (Says w (.bool v')) := e ▸ h
theorem made_to {P : Program} {f : FuncId} {a : Array Value} {w : World} {v v' : List Int} (h : Calls P f a w (Made w v)) (e : v = v') : Calls P f a w (Made w v') := e ▸ h
theorem says_true {p : Prop} [Decidable p] {w w' : World} (h : p) (hb : Below w.heap.size w w') : Says w (.bool (decide p)) (.returned (.bool true)) w' := ⟨by rw [decide_eq_true h], hb⟩
theorem says_false {p : Prop} [Decidable p] {w w' : World} (h : ¬ p) (hb : Below w.heap.size w w') : Says w (.bool (decide p)) (.returned (.bool false)) w' := ⟨by rw [decide_eq_false h], hb⟩
theorem says_bool {w w' : World} {a b : Bool} (h : a = b) (hb : Below w.heap.size w w') : Says w (.bool b) (.returned (.bool a)) w' := ⟨by rw [h], hb⟩
theorem says_str {w w' : World} {a b : ByteArray} (h : a = b) (hb : Below w.heap.size w w') : Says w (.string b) (.returned (.string a)) w' := ⟨by rw [h], hb⟩
theorem says_int {w w' : World} {a b : Int} (h : a = b) (hb : Below w.heap.size w w') : Says w (.int .i64 b) (.returned (.int .i64 a)) w' := ⟨by rw [h], hb⟩
theorem hid {p : Prop} (h : p) : Hid p := h

theorem ret_eq {a b : Value} (h : a = b) : Ending.returned a = .returned b := by rw [h]

/-- The length of the slice in a slot: for a loop's measure. -/
def lenOf : Value → Nat | .slice _ n _ => n | _ => 0

/-- What was appended to is the call's own. -/
theorem below_app {w wr w' : World} {u : Value} {ys : List Int} (hb : Below w.heap.size w wr) (ho : Own wr w.heap.size u ys) (hg : wr.grownBy w' u.ownBlock) : Below w.heap.size w w' :=
  hb.grown hg hb.size (fun k hk => (ho.blocks k hk).1)

/-- Block g is an array that holds the numbers fs. -/
def Arr (w : World) (g T : Nat) (fs : List Int) : Prop := w.heap[g]? = some (.cells (fs.map (Value.int .i64)).toArray T (0, 0))

theorem Arr.lt {w : World} {g T : Nat} {fs : List Int} (h : Arr w g T fs) : g < w.heap.size := (Array.getElem?_eq_some_iff.1 h).1
theorem Arr.cell {w : World} {g T : Nat} {fs : List Int} (h : Arr w g T fs) {j : Nat} (hj : j < fs.length) : w.cell? ⟨g, j, none⟩ = some (.int .i64 (el fs j)) := by
  rw [cell_of_row w g j _ T (0, 0) h]
  simp [el, hj]
theorem Arr.frozen {w : World} {g T : Nat} {fs : List Int} (h : Arr w g T fs) (j : Nat) : w.frozen? ⟨g, j, none⟩ = false := frozen_of_row w g j _ T h
theorem Arr.set {w : World} {g T : Nat} {fs : List Int} (h : Arr w g T fs) (j : Nat) (v : Int) : Arr (w.setCell ⟨g, j, none⟩ (.int .i64 v)) g T (fs.set j v) := by
  have := heap_setCell_same w g j _ T (.int .i64 v) h
  rw [Arr, this]
  simp [List.map_set]
theorem Arr.other {w : World} {g T : Nat} {fs : List Int} (h : Arr w g T fs) {a : Addr} (ha : a.block ≠ g) (v : Value) : Arr (w.setCell a v) g T fs := by
  rw [Arr, Below.heap_setCell _ _ _ _ (by omega)]; exact h
theorem Arr.drewN {w : World} {g T : Nat} {fs : List Int} (h : Arr w g T fs) (m : Nat) : Arr (w.drewN m) g T fs := h
theorem Arr.below {B : Nat} {w w' : World} {g T : Nat} {fs : List Int} (h : Arr w g T fs) (hg : g < B) (hb : Below B w w') : Arr w' g T fs := (hb.block g hg).trans h
theorem Arr.alloc {w : World} {g T : Nat} {fs : List Int} (h : Arr w g T fs) (o : Obj) : Arr (w.alloc o) g T fs := (Below.heap_alloc w o g h.lt).trans h
theorem Arr.made (w : World) (T : Nat) (fs : List Int) : Arr (w.alloc (.cells (fs.map (Value.int .i64)).toArray T)) w.heap.size T fs := heap_alloc_new w _

section
variable {P : Program} (w : World)
theorem run_items (d e : Nat) (xs ys : List Int) (he : P.underlying e = some (.int .i64)) (is : List Nat) (hx : ∀ i ∈ is, i < xs.length) (hy : ∀ i ∈ is, i < ys.length) :
    (Op.eqItems (d + 1) e 1 (xs.map (Value.int .i64)).toArray (ys.map (Value.int .i64)).toArray is).run P w = .ok (is.all fun i => el xs i == el ys i) w := by
  induction is with
  | nil => simp [Op.eqItems]
  | cons i is ih =>
    have hxi := hx i (by simp)
    have hyi := hy i (by simp)
    have px : (part e (xs.map (Value.int .i64)).toArray (i * 1)).run P w = .ok (.int .i64 (el xs i)) w := by
      simp [part, isAgg, run_underlying he, el, hxi]
    have py : (part e (ys.map (Value.int .i64)).toArray (i * 1)).run P w = .ok (.int .i64 (el ys i)) w := by
      simp [part, isAgg, run_underlying he, el, hyi]
    have pe := run_equalIn_int (P := P) w d e .i64 .i64 (el xs i) (el ys i) he
    simp only [Op.eqItems, Sem.run_bind, px, py, pe, Result.andThen_ok, List.all_cons]
    cases hb : (el xs i == el ys i)
    · simp
    · simp only [Bool.not_true, Bool.false_eq_true, if_false, Bool.true_and]
      exact ih (fun j hj => hx j (by simp [hj])) (fun j hj => hy j (by simp [hj]))

theorem run_eql_arr (t e n : Nat) {i : TypeInfo} (xs ys : List Int) (hu : P.underlying t = some (.array n e)) (hi : P.info? e = some i) (hc : P.cellsOf e = 1) (he : P.underlying e = some (.int .i64)) (hx : xs.length = n) (hy : ys.length = n) :
    (binOp .eql t (.agg (xs.map (Value.int .i64)).toArray) (.agg (ys.map (Value.int .i64)).toArray)).run P w = .ok (.bool (decide (xs = ys))) w := by
  rw [run_eql_struct, run_equalIn_array w 9999 _ _ hu hi, hc, run_items w 9998 e xs ys he _ (fun i hi => by have := List.mem_range.1 hi; omega) (fun i hi => by have := List.mem_range.1 hi; omega)]
  simp only [Result.andThen_ok]
  congr 2
  rw [Bool.eq_iff_iff, List.all_eq_true, decide_eq_true_iff]
  constructor
  · intro h
    exact ext_el (by omega) (fun j hj => by have := h j (by simp; omega); simpa using this)
  · intro h i _
    simp [h]
end

end Go.Proofs.Ytjgaglfinpeeoac

/- What the program answers when asked whether numbers are an order. No condition but that the list's cells can be read. -/
namespace Go.Proofs.Ytjgaglfinpeeoac
open Go.RowKit

theorem infoP : ∃ i, Try.prog.info? 3 = some i := by
  have h : (Try.prog.info? 3).isSome = true := by kernel_rfl
  exact Option.isSome_iff_exists.1 h
theorem cellsI : Try.prog.cellsOf 3 = 1 := by kernel_rfl

theorem counted {xs fs os : List Int} (hn : xs.length ≤ 7) (hr : ∀ j, j < xs.length → 0 ≤ el xs j ∧ el xs j < xs.length) (hf : fs.length = 7) (ho : os.length = 7)
    (hfc : ∀ v, v < 7 → el fs v = (xs.count (v : Int) : Nat)) (hoc : ∀ v, v < 7 → el os v = if v < xs.length then 1 else 0) : decide (fs = os) = decide (Valid xs) := by
  rw [decide_eq_decide, ← count_valid hn hr]
  constructor
  · intro e v hv
    have h1 := hfc v hv
    have h2 := hoc v hv
    rw [e, h2] at h1
    split at h1 <;> split <;> omega
  · intro h
    refine ext_el (by omega) (fun v hv => ?_)
    rw [hfc v (by omega), hoc v (by omega), h v (by omega)]
    split <;> rfl

theorem zeros : ∀ v, v < 7 → el [0, 0, 0, 0, 0, 0, 0] v = 0 := by decide

set_option maxHeartbeats 1000000 in
theorem validI_any (ao : Option Addr) (n cap : Nat) (xs : List Int) (w : World) (h : Sl w ao n cap xs) :
    Calls Try.prog 43 #[.slice ao n cap] w (Says w (.bool (decide (Valid xs)))) := by
  have hbig := h.big
  have hlen := hid h.len
  by_cases h7 : n ≤ 7
  · go_enter Try.func43, Try.ntmps43
    go_wp2
    go_loopw [12] (fun i wr => ∃ (k : Nat) (fs os : List Int), k ≤ n ∧ i = .int .i64 k ∧ Below w.heap.size w wr ∧ Arr wr w.heap.size 77 fs ∧ Arr wr (w.heap.size + 1) 77 os ∧ fs.length = 7 ∧ os.length = 7 ∧
        Hid (∀ j, j < k → 0 ≤ el xs j ∧ el xs j < n) ∧ Hid (∀ v, v < 7 → el fs v = ((xs.take k).count (v : Int) : Nat)) ∧ Hid (∀ v, v < 7 → el os v = if v < k then 1 else 0))
      (fun i _ => n - (intOf i).toNat)
    case atStart =>
      refine ⟨0, [0, 0, 0, 0, 0, 0, 0], [0, 0, 0, 0, 0, 0, 0], Nat.zero_le _, rfl, by go_grown, ?_, ?_, rfl, rfl, fun j hj => by omega, fun v hv => ?_, fun v hv => ?_⟩
      · exact (Arr.made w _ [0, 0, 0, 0, 0, 0, 0]).alloc _
      · have := Arr.made (w.alloc (.cells ([0, 0, 0, 0, 0, 0, 0].map (Value.int .i64)).toArray 77)) 77 [0, 0, 0, 0, 0, 0, 0]
        rwa [World.size_alloc] at this
      · rw [zeros v hv]; simp
      · rw [zeros v hv]; simp
    case round =>
      obtain ⟨k, fs, os, hk, rfl, hbr, hF, hO, hf7, ho7, hr, hfc, hoc⟩ := hrel
      have Hf7 := hid hf7
      have Ho7 := hid ho7
      by_cases hlt : k < n
      · obtain ⟨b, off, rfl, hblt, hc⟩ := h.row (by omega)
        have hcell := (hbr.cell (p := ⟨b, off + k, none⟩) hblt).trans (hc k hlt)
        clear hc
        by_cases hin : 0 ≤ el xs k ∧ el xs k < n
        · obtain ⟨v, hv⟩ := Int.eq_ofNat_of_zero_le hin.1
          have hvn : v < n := by omega
          rw [hv] at hcell
          have Hv := hid hv
          have hfb : el fs v ≤ 7 ∧ 0 ≤ el fs v := by
            rw [hfc.out v (by omega)]
            have := List.count_le_length (a := (v : Int)) (l := xs.take k)
            rw [List.length_take] at this
            omega
          have hcF := hF.cell (j := v) (by omega)
          have hfF := hF.frozen v
          have hcO := hO.cell (j := k) (by omega)
          have hfO := hO.frozen k
          have hcO' : (wr.setCell ⟨w.heap.size, v, none⟩ (.int .i64 (el fs v + 1))).cell? ⟨w.heap.size + 1, k, none⟩ = some (.int .i64 (el os k)) := (hO.other (by simp) _).cell (by omega)
          clear hf7 ho7 hv hin
          go_wp2
          go_roundw
          case rel =>
            refine ⟨k + 1, fs.set v (el fs v + 1), os.set k 1, by omega, by go_num, ?_, ?_, ?_, by simp [Hf7.out], by simp [Ho7.out], ?_, ?_, ?_⟩
            · exact (hbr.setCell (Nat.le_refl _) _).setCell (Nat.le_succ _) _
            · exact (hF.set v _).other (by simp) _
            · exact (hO.other (by simp) _).set k 1
            · exact upto_step hr.out ⟨by rw [Hv.out]; omega, by rw [Hv.out]; omega⟩
            · intro t ht
              rw [count_take (by rw [hlen.out]; exact hlt), Hv.out]
              have := hfc.out t ht
              by_cases e : v = t
              · subst e
                rw [el_set_same (by rw [Hf7.out]; exact ht), this]; simp
              · rw [el_set_ne e, this, if_neg (by omega)]; simp
            · intro t ht
              have := hoc.out t ht
              by_cases e : k = t
              · subst e
                rw [el_set_same (by rw [Ho7.out]; exact ht), if_pos (by omega)]
              · rw [el_set_ne e, this]
                split <;> split <;> omega
          case measure => simp [intOf]; omega
        · have hno : Hid (¬ Valid xs) := fun v => hin ⟨v.lo k (by rw [hlen.out]; exact hlt), by have := v.hi k (by rw [hlen.out]; exact hlt); rwa [hlen.out] at this⟩
          have Hin := hid hin
          clear hin
          by_cases h0 : el xs k < 0
          · go_wp2
            go_ret
            exact says_false hno.out hbr
          · have h1 : (n : Int) ≤ el xs k := by have := Hin.out; omega
            go_wp2
            go_ret
            exact says_false hno.out hbr
      · obtain rfl : k = n := by omega
        have hsF : (Try.prog.info? 77).map (·.size) = some (fs.map (Value.int .i64)).toArray.size := by
          have : (Try.prog.info? 77).map (·.size) = some 7 := by kernel_rfl
          rw [this]; simp [hf7]
        have hsO : (Try.prog.info? 77).map (·.size) = some (os.map (Value.int .i64)).toArray.size := by rw [hsF]; simp [hf7, ho7]
        obtain ⟨ip, hip⟩ := infoP
        have hE := fun w => run_eql_arr (P := Try.prog) w 77 3 7 fs os Try.underlying77 hip cellsI Try.underlying3 hf7 ho7
        clear hf7 ho7
        go_wp2_with (first
          | (refine wpList_load_row rfl 77 (.tmp 3) rfl w.heap.size rfl 77 _ (0, 0) _ hF Try.underlying77 rfl hsF ?_)
          | (refine wpList_load_row rfl 77 (.tmp 4) rfl (w.heap.size + 1) rfl 77 _ (0, 0) _ hO Try.underlying77 rfl hsO ?_))
        go_ret
        refine says_bool (counted (by rw [hlen.out]; exact h7) (fun j hj => ?_) Hf7.out Ho7.out (fun v hv => ?_) (fun v hv => ?_)) hbr
        · rw [hlen.out] at hj ⊢
          exact hr.out j hj
        · have := hfc.out v hv
          rwa [List.take_of_length_le (Nat.le_of_eq hlen.out)] at this
        · rw [hlen.out]; exact hoc.out v hv
  · go_enter Try.func43, Try.ntmps43
    go_wp2
    go_ret
    exact says_false (fun v => h7 (by have := v.len; rw [hlen.out] at this; exact this)) (Below.refl _ _)
end Go.Proofs.Ytjgaglfinpeeoac

/- The walk's laws for the lists of numbers that the functions make: make, append of one number, and lists that a step builds. No condition. -/
namespace Go.Proofs.Ytjgaglfinpeeoac
open Go.RowKit

theorem infoI : (Try.prog.info? 3).map (fun i => (i.zero, i.size, i.bytes)) = some (some (.int .i64 0), 1, 8) := by kernel_rfl

/-- make([]int, n). -/
theorem make_ints (w : World) {ops : Array Oper} {rest : List Oper} {o : Oper} {a : Act} {Q : Exit → Act → World → Prop}
    (hg : o.guard = none) (l c : Operand) (hop : o.op = Op.makeSlice 28 l c) (L C : Int) (n : Nat) (hl : a.eval l = .int .i64 L) (hc : a.eval c = .int .i64 C) (hL : L = (n : Int)) (hC : C = (n : Int)) (hn : n ≤ 2000000)
    (hK : ∀ w', OwS w' w.heap.size w.heap.size n n (List.replicate n 0) → Below w.heap.size w w' → wpList Try.prog ops Q rest (a.put o.dst (.slice (some ⟨w.heap.size, 0, none⟩) n n)) w') :
    wpList Try.prog ops Q (o :: rest) a w := by
  obtain ⟨i0, hi, hz0, hz1, hz2⟩ := info_parts infoI
  refine wpList_make_full w hg l c 28 hop w.heap.size 3 i0 (.int .i64 0) 1 Try.underlying28 hi hz0 hz1 _ _ _ _ n hl hc hL hC (by rw [hz2]; omega) (by unfold maxLen; omega) (Nat.le_refl _) ?_
  intro w' hown hgrow
  refine hK w' ?_ ((Below.refl _ _).grown hgrow (Nat.le_refl _) (fun k hk => by simp at hk))
  unfold OwS
  have e : (madeCells (Value.cells (.int .i64 0)) (n * 1)).toList = (List.replicate n (0 : Int)).map (Value.int .i64) := by
    rw [Nat.mul_one, show Value.cells (.int .i64 0) = #[Value.int .i64 0] from rfl, toList_madeCells_one, List.map_replicate]
  rw [← e]; exact hown

/-- append(out, v), out the call's own. -/
theorem app_int (w : World) (v : Int) {ops : Array Oper} {rest : List Oper} {o : Oper} {a : Act} {Q : Exit → Act → World → Prop}
    (hg : o.guard = none) (s x : Operand) (hop : o.op = Op.call { callee := Callee.builtin Builtin.append, args := #[s, x], argTypes := #[28, 28] })
    (B : Nat) (u : Value) (ys : List Int) (hs : a.eval s = u) (hown : Own w B u ys) (hx : a.eval x = .slice (some ⟨w.heap.size, 0, none⟩) 1 1) (hlen : ys.length ≤ 2000000) (hB : B ≤ w.heap.size)
    (hK : ∀ u' w', Own w' B u' (ys ++ [v]) → w.grownBy w' u.ownBlock → wpList Try.prog ops Q rest (a.put o.dst u') w') :
    wpList Try.prog ops Q (o :: rest) a (w.alloc (.cells #[.int .i64 v] 3)) := by
  obtain ⟨i0, hi, hz0, hz1, hz2⟩ := info_parts infoI
  refine wpList_append_own _ hg s x 28 hop B 3 i0 (.int .i64 0) 1 8 Try.underlying28 hi hz0 hz1 hz2 rfl (by decide) u ys.length _ hs (World.ownsRow.alloc hown _) ⟨w.heap.size, 0, none⟩ 1 1 [.int .i64 v] hx rfl ?_ ?_ ?_ ?_ ?_ ?_
  · intro j t hj
    match j, hj with
    | 0, hj => simp at hj; subst hj; simp [Addr.add]
  · intro t ht; simp at ht; subst ht; rfl
  · unfold maxLen; omega
  · omega
  · simp; omega
  · intro v' w' hown' hgrow _
    refine hK v' w' ?_ (grown_trans (World.grownBy_alloc w _ _) hgrow)
    unfold Own
    rw [List.length_append, List.map_append]
    exact hown'

/-- append(out, p...), out the call's own, p whatever list of numbers. -/
theorem app_list (w : World) {ops : Array Oper} {rest : List Oper} {o : Oper} {a : Act} {Q : Exit → Act → World → Prop}
    (hg : o.guard = none) (s x : Operand) (hop : o.op = Op.call { callee := Callee.builtin Builtin.append, args := #[s, x], argTypes := #[28, 28] })
    (B : Nat) (u : Value) (ys : List Int) (hs : a.eval s = u) (hown : Own w B u ys) (ao : Option Addr) (n cap : Nat) (xs : List Int) (hx : a.eval x = .slice ao n cap) (hsl : Sl w ao n cap xs) (hnil : ao = none → cap = 0)
    (hlen : ys.length + n ≤ 2000000) (hB : B ≤ w.heap.size)
    (hK : ∀ u' w', Own w' B u' (ys ++ xs) → w.grownBy w' u.ownBlock → wpList Try.prog ops Q rest (a.put o.dst u') w') :
    wpList Try.prog ops Q (o :: rest) a w := by
  obtain ⟨i0, hi, hz0, hz1, hz2⟩ := info_parts infoI
  have hl := hsl.len
  cases ao with
  | none =>
    have hn : n = 0 := by
      rcases Nat.eq_zero_or_pos n with h | h
      · exact h
      · obtain ⟨b, off, hb, _⟩ := hsl.row h
        cases hb
    subst hn
    have hc := hnil rfl
    subst hc
    have hxs : xs = [] := List.eq_nil_of_length_eq_zero hl
    subst hxs
    refine wpList_append_own_none hg s x 28 hop B 3 i0 1 Try.underlying28 hi u ys.length _ hs hown hx ?_
    refine hK u w ?_ (World.grownBy.refl _ _)
    rw [List.append_nil]; exact hown
  | some ad =>
    refine wpList_append_own _ hg s x 28 hop B 3 i0 (.int .i64 0) 1 8 Try.underlying28 hi hz0 hz1 hz2 rfl (by decide) u ys.length _ hs hown ad n cap (xs.map (Value.int .i64)) hx (by simp [hl]) ?_ (ints_oneCell _ _) ?_ ?_ ?_ ?_
    · intro j t hj
      have hjn : j < n := by
        have := (List.getElem?_eq_some_iff.1 hj).1
        rw [List.length_map, hl] at this; exact this
      obtain ⟨b, off, hb, _, hc⟩ := hsl.row (by omega)
      obtain rfl := Option.some.inj hb
      rw [Addr.add_lit, hc j hjn]
      rw [List.getElem?_map, List.getElem?_eq_getElem (by omega)] at hj
      rw [el_lt (by omega)]
      exact hj
    · unfold maxLen; omega
    · omega
    · exact hB
    · intro v' w' hown' hgrow _
      refine hK v' w' ?_ hgrow
      unfold Own
      rw [List.length_append, List.map_append, hl]
      exact hown'

/-- make([]int, 0, n). -/
theorem make_cap (w : World) {ops : Array Oper} {rest : List Oper} {o : Oper} {a : Act} {Q : Exit → Act → World → Prop}
    (hg : o.guard = none) (l c : Operand) (hop : o.op = Op.makeSlice 28 l c) (C : Int) (n : Nat) (hl : a.eval l = .int .i64 0) (hc : a.eval c = .int .i64 C) (hC : C = (n : Int)) (hn : n ≤ 2000000)
    (hK : ∀ w', Own w' w.heap.size (.slice (some ⟨w.heap.size, 0, none⟩) 0 n) [] → Below w.heap.size w w' → wpList Try.prog ops Q rest (a.put o.dst (.slice (some ⟨w.heap.size, 0, none⟩) 0 n)) w') :
    wpList Try.prog ops Q (o :: rest) a w := by
  obtain ⟨i0, hi, hz0, hz1, hz2⟩ := info_parts infoI
  refine wpList_make_own w hg l c 28 hop w.heap.size 3 i0 (.int .i64 0) 1 Try.underlying28 hi hz0 hz1 _ _ _ n hl hc hC (by rw [hz2]; omega) (by unfold maxLen; omega) (Nat.le_refl _) ?_
  intro w' hown hgrow
  exact hK w' hown ((Below.refl _ _).grown hgrow (Nat.le_refl _) (fun k hk => by simp at hk))

end Go.Proofs.Ytjgaglfinpeeoac

/- What the program and its model answer when asked whether numbers are an order: both say so exactly if they are. No condition but that the list's cells can be read. -/
namespace Go.Proofs.Ytjgaglfinpeeoac
open Go.RowKit

