/- Texts of this claim put into one: Pure, Mirror, MirC, MirF, FinAll, Fast, Fin, FinInv, MirFo, MirT, MirI, Kit, Ops, ValidI, Ord1I, Valid, Ord1S, Tab, Desc, LawFn, MirR, Rank, FinMajor, LawFn2, FinTurn, FinSum, FinPairs, MirD, MirRow, FinPairsC, MirW, MirG, MirX, MirU. -/
import Derived.WalkKit
import Derived.ProofKit
import Derived.Handy
import Derived.Outline
import Derived.WalkLawsBesides
import Derived.WalkSpells
import Derived.Deep.QuietTactic
import Derived.BigQuiet
import Derived.ChangeKeysEq
import Derived.Laws.AppendOwnNone
import Derived.Test.YtaceiebmgnhdgaaGreatDoorChecked
/- The plain mathematics of orders: which lists of numbers are orders, and that there are finitely many of them, so that what is to be shown of all orders may be reckoned. No condition. -/
namespace Go.Proofs.YtaceiebmgnhdgaaGreatDoor

/-- The number at place k. -/
def el (xs : List Int) (k : Nat) : Int := xs.getD k 0

theorem el_lt {xs : List Int} {k : Nat} (h : k < xs.length) : el xs k = xs[k] := by simp [el, h]
theorem el_set_same {xs : List Int} {k : Nat} {v : Int} (h : k < xs.length) : el (xs.set k v) k = v := by simp [el, h]
theorem el_set_ne {xs : List Int} {j k : Nat} {v : Int} (h : k ≠ j) : el (xs.set k v) j = el xs j := by simp [el, List.getD, h]
theorem take_el {xs : List Int} {k : Nat} (h : k < xs.length) : xs.take (k + 1) = xs.take k ++ [el xs k] := by
  rw [List.take_succ_eq_append_getElem h, el_lt h]
theorem ext_el {xs ys : List Int} (h : xs.length = ys.length) (hj : ∀ j, j < xs.length → el xs j = el ys j) : xs = ys := by
  apply List.ext_getElem h
  intro j h1 h2
  have := hj j h1
  rwa [el_lt h1, el_lt h2] at this

/-- The numbers are an order: at most seven, each of 0, 1, .. once. -/
structure Valid (xs : List Int) : Prop where
  len : xs.length ≤ 7
  lo : ∀ j, j < xs.length → 0 ≤ el xs j
  hi : ∀ j, j < xs.length → el xs j < xs.length
  ne : ∀ i j, i < j → j < xs.length → el xs i ≠ el xs j

theorem valid_iff (xs : List Int) : Valid xs ↔ (xs.length ≤ 7 ∧ (∀ j, j < xs.length → 0 ≤ el xs j) ∧ (∀ j, j < xs.length → el xs j < xs.length) ∧ ∀ j, j < xs.length → ∀ i, i < j → el xs i ≠ el xs j) :=
  ⟨fun h => ⟨h.len, h.lo, h.hi, fun j hj i hij => h.ne i j hij hj⟩, fun h => ⟨h.1, h.2.1, h.2.2.1, fun i j hij hj => h.2.2.2 j hj i hij⟩⟩
instance (xs : List Int) : Decidable (Valid xs) := decidable_of_iff _ (valid_iff xs).symm

/-- Lists of equal length, place by place: what the walks learn, step by step. -/
theorem upto_step {P : Nat → Prop} {k : Nat} (h : ∀ j, j < k → P j) (hk : P k) : ∀ j, j < k + 1 → P j := fun j hj => by
  by_cases e : j = k
  · rw [e]; exact hk
  · exact h j (by omega)
theorem not_ne {a b : Int} (h : (a == b) = true) : a = b := by simpa using h
theorem is_ne {a b : Int} (h : (a == b) = false) : a ≠ b := by simpa using h
theorem nn_ne {a b : Int} (h : (a != b) = true) : a ≠ b := by simpa using h
theorem nn_eq {a b : Int} (h : (a != b) = false) : a = b := by simpa using h

def rng : Nat → List Int
  | 0 => []
  | n + 1 => rng n ++ [(n : Int)]

/-- All lists that take f of the numbers av, each once. -/
def perms : Nat → List Int → List (List Int)
  | 0, _ => [[]]
  | f + 1, av => av.flatMap fun x => (perms f (av.erase x)).map (x :: ·)

/-- All orders of n values. -/
def orders (n : Nat) : List (List Int) := perms n (rng n)

/-- All orders of at most seven values. -/
def allUpTo (m : Nat) : List (List Int) := (List.range (m + 1)).flatMap orders

theorem mem_rng (n : Nat) (x : Int) : x ∈ rng n ↔ 0 ≤ x ∧ x < n := by
  induction n with
  | zero => simp [rng]
  | succ n ih => simp [rng, ih]; omega

theorem mem_perms : ∀ (xs av : List Int), (∀ x ∈ xs, x ∈ av) → xs.Nodup → xs ∈ perms xs.length av := by
  intro xs
  induction xs with
  | nil => intro av _ _; simp [perms]
  | cons x xs ih =>
    intro av hsub hnd
    rw [List.length_cons]
    simp only [perms, List.mem_flatMap, List.mem_map]
    rw [List.nodup_cons] at hnd
    refine ⟨x, hsub x (by simp), xs, ih _ ?_ hnd.2, rfl⟩
    intro y hy
    have hyx : y ≠ x := fun e => hnd.1 (e ▸ hy)
    exact (List.mem_erase_of_ne hyx).2 (hsub y (by simp [hy]))

theorem Valid.nodup {xs : List Int} (h : Valid xs) : xs.Nodup := by
  rw [List.nodup_iff_pairwise_ne, List.pairwise_iff_getElem]
  intro i j hi hj hij
  have := h.ne i j hij hj
  rwa [el_lt hi, el_lt hj] at this

theorem Valid.mem {xs : List Int} (h : Valid xs) {x : Int} (hx : x ∈ xs) : 0 ≤ x ∧ x < xs.length := by
  obtain ⟨j, hj, rfl⟩ := List.mem_iff_getElem.1 hx
  have h1 := h.lo j hj
  have h2 := h.hi j hj
  rw [el_lt hj] at h1 h2
  exact ⟨h1, h2⟩

theorem Valid.in_orders {xs : List Int} (h : Valid xs) : xs ∈ orders xs.length :=
  mem_perms xs _ (fun _ hx => (mem_rng _ _).2 (h.mem hx)) h.nodup

theorem Valid.in_all {xs : List Int} (h : Valid xs) : xs ∈ allUpTo 7 := by
  unfold allUpTo
  rw [List.mem_flatMap]
  exact ⟨xs.length, by have := h.len; simp; omega, h.in_orders⟩

/-- What a reckoning shows of every order holds of every order. -/
theorem Valid.all {xs : List Int} (h : Valid xs) {p : List Int → Bool} (hp : (allUpTo 7).all p = true) : p xs = true :=
  List.all_eq_true.1 hp xs h.in_all

theorem Valid.all' {xs : List Int} (h : Valid xs) {m : Nat} (hm : xs.length ≤ m) {p : List Int → Bool} (hp : (allUpTo m).all p = true) : p xs = true := by
  refine List.all_eq_true.1 hp xs ?_
  unfold allUpTo
  rw [List.mem_flatMap]
  exact ⟨xs.length, by simp; omega, h.in_orders⟩

theorem count_take {xs : List Int} {k : Nat} (h : k < xs.length) (v : Int) : (xs.take (k + 1)).count v = (xs.take k).count v + if el xs k = v then 1 else 0 := by
  rw [take_el h, List.count_append, List.count_singleton]
  simp

theorem count_two {xs : List Int} {i j : Nat} (hij : i < j) (hj : j < xs.length) (h : el xs i = el xs j) : 2 ≤ xs.count (el xs j) := by
  have h1 : xs.count (el xs j) = (xs.take j).count (el xs j) + (xs.drop j).count (el xs j) := by rw [← List.count_append, List.take_append_drop]
  have h2 : 0 < (xs.take j).count (el xs j) := by
    rw [List.count_pos_iff, ← h, el_lt (by omega)]
    exact List.mem_take_iff_getElem.2 ⟨i, by omega, rfl⟩
  have h3 : 0 < (xs.drop j).count (el xs j) := by
    rw [List.count_pos_iff, el_lt hj]
    exact List.mem_drop_iff_getElem.2 ⟨0, by simpa using hj, rfl⟩
  omega

/-- State a after k steps. -/
def iter {α : Type} (f : α → Nat → α) (a : α) : Nat → α
  | 0 => a
  | k + 1 => f (iter f a k) k

theorem iter_len {f : List Int → Nat → List Int} (hf : ∀ a k, (f a k).length = a.length) (a : List Int) (k : Nat) : (iter f a k).length = a.length := by
  induction k with
  | zero => rfl
  | succ k ih => rw [iter, hf, ih]

theorem iter_app {g : Nat → Int} (n : Nat) : iter (fun a k => a ++ [g k]) [] n = (List.range n).map g := by
  induction n with
  | zero => rfl
  | succ n ih => rw [iter, ih, List.range_succ, List.map_append]; rfl

theorem map_range_len {g : Nat → Int} (n : Nat) : ((List.range n).map g).length = n := by simp
theorem el_map {g : Nat → Int} {n j : Nat} (h : j < n) : el ((List.range n).map g) j = g j := by simp [el, h]

theorem iter_set {g : Nat → Int} (n : Nat) : iter (fun a k => a.set k (g k)) (List.replicate n 0) n = (List.range n).map g := by
  have key : ∀ k, k ≤ n → (iter (fun a k => a.set k (g k)) (List.replicate n 0) k).length = n ∧ ∀ j, j < k → el (iter (fun a k => a.set k (g k)) (List.replicate n 0) k) j = g j := by
    intro k
    induction k with
    | zero => intro _; exact ⟨by simp [iter], fun j hj => by omega⟩
    | succ k ih =>
      intro hk
      obtain ⟨h1, h2⟩ := ih (by omega)
      refine ⟨by simp [iter, h1], fun j hj => ?_⟩
      rw [iter]
      by_cases e : j = k
      · rw [e, el_set_same (by rw [h1]; omega)]
      · rw [el_set_ne (by omega), h2 j (by omega)]
  refine ext_el (by rw [(key n (Nat.le_refl _)).1]; simp) (fun j hj => ?_)
  rw [(key n (Nat.le_refl _)).1] at hj
  rw [(key n (Nat.le_refl _)).2 j hj, el_map hj]

end Go.Proofs.YtaceiebmgnhdgaaGreatDoor

/- The lists and numbers that the functions give, as plain functions of lists. No condition. -/
namespace Go.Proofs.YtaceiebmgnhdgaaGreatDoor

/-- What a function of orders gives: a list for an order, nil for other numbers. -/
def onV (xs ys : List Int) : List Int := if Valid xs then ys else []
theorem onV_yes {xs ys : List Int} (h : Valid xs) : onV xs ys = ys := if_pos h
theorem onV_no {xs ys : List Int} (h : ¬ Valid xs) : onV xs ys = [] := if_neg h

/-! The lists that the functions make. -/
def rise (n : Nat) : List Int := (List.range n).map fun (k : Nat) => (k : Int)
theorem map_range_succ (g : Nat → Int) (k : Nat) : (List.range (k + 1)).map g = (List.range k).map g ++ [g k] := by simp [List.range_succ]
theorem rise_len (n : Nat) : (rise n).length = n := by simp [rise]
theorem rise_succ (n : Nat) : rise (n + 1) = rise n ++ [(n : Int)] := by simp [rise, List.range_succ]
def inv (xs : List Int) : List Int := iter (fun (a : List Int) k => a.set (el xs k).toNat (k : Int)) (List.replicate xs.length 0) xs.length
def turn (xs : List Int) : List Int := (List.range xs.length).map fun k => el xs (xs.length - 1 - k)
def turnI (xs : List Int) : List Int := iter (fun a k => a.set (xs.length - 1 - k) (el xs k)) (List.replicate xs.length 0) xs.length
def opp (xs : List Int) : List Int := (List.range xs.length).map fun k => (xs.length : Int) - 1 - el xs k

theorem inv_len (xs : List Int) (k : Nat) : (iter (fun (a : List Int) k => a.set (el xs k).toNat (k : Int)) (List.replicate xs.length 0) k).length = xs.length :=
  (iter_len (fun _ _ => List.length_set) _ k).trans List.length_replicate
theorem turnI_len (xs : List Int) (k : Nat) : (iter (fun a k => a.set (xs.length - 1 - k) (el xs k)) (List.replicate xs.length 0) k).length = xs.length :=
  (iter_len (fun _ _ => List.length_set) _ k).trans List.length_replicate

theorem turnI_eq (xs : List Int) : turnI xs = turn xs := by
  have key : ∀ k, k ≤ xs.length → ∀ j, j < xs.length → xs.length - 1 - j < k → el (iter (fun a k => a.set (xs.length - 1 - k) (el xs k)) (List.replicate xs.length 0) k) j = el xs (xs.length - 1 - j) := by
    intro k
    induction k with
    | zero => intro _ j _ hj; omega
    | succ k ih =>
      intro hk j hj hjk
      rw [iter]
      by_cases e : xs.length - 1 - k = j
      · subst e
        rw [el_set_same (by rw [turnI_len]; exact hj)]
        congr 1; omega
      · rw [el_set_ne e, ih (by omega) j hj (by omega)]
  refine ext_el (by rw [turnI, turnI_len, turn, map_range_len]) (fun j hj => ?_)
  rw [turnI, turnI_len] at hj
  rw [turnI, key _ (Nat.le_refl _) j hj (by omega), turn, el_map hj]

/-- How many of the first k numbers have the property. -/
def cntP (p : Nat → Bool) : Nat → Int
  | 0 => 0
  | k + 1 => if p k then cntP p k + 1 else cntP p k
theorem cntP_bd (p : Nat → Bool) (k : Nat) : 0 ≤ cntP p k ∧ cntP p k ≤ k := by
  induction k with
  | zero => exact ⟨Int.le_refl _, Int.le_refl _⟩
  | succ k ih => rw [cntP]; split <;> omega
theorem cntP_yes {p : Nat → Bool} {k : Nat} (h : p k = true) : cntP p (k + 1) = cntP p k + 1 := by rw [cntP, if_pos h]
theorem cntP_no {p : Nat → Bool} {k : Nat} (h : p k = false) : cntP p (k + 1) = cntP p k := by rw [cntP, h]; simp

/-- How many lesser numbers stand behind place i, among the first t behind it. -/
def lbP (xs : List Int) (i t : Nat) : Int := cntP (fun j => decide (el xs (i + 1 + j) < el xs i)) t
def lb (xs : List Int) (i : Nat) : Int := lbP xs i (xs.length - 1 - i)
theorem lbP_bd (xs : List Int) (i t : Nat) : 0 ≤ lbP xs i t ∧ lbP xs i t ≤ t := cntP_bd _ _
theorem lbP_zero (xs : List Int) (i : Nat) : lbP xs i 0 = 0 := rfl
theorem lbP_yes {xs : List Int} {i t : Nat} (h : el xs (i + 1 + t) < el xs i) : lbP xs i (t + 1) = lbP xs i t + 1 := cntP_yes (by simpa using h)
theorem lbP_no {xs : List Int} {i t : Nat} (h : el xs i ≤ el xs (i + 1 + t)) : lbP xs i (t + 1) = lbP xs i t := cntP_no (by simpa using h)
def table (xs : List Int) : List Int := (List.range xs.length).map (lb xs)
theorem table_len (xs : List Int) : (table xs).length = xs.length := map_range_len _
theorem el_table {xs : List Int} {j : Nat} (h : j < xs.length) : el (table xs) j = lb xs j := el_map h
theorem lb_bd (xs : List Int) (i : Nat) : 0 ≤ lb xs i ∧ lb xs i ≤ xs.length := by
  have := lbP_bd xs i (xs.length - 1 - i)
  unfold lb
  omega
theorem table_bd (xs : List Int) : ∀ j, j < (table xs).length → 0 ≤ el (table xs) j ∧ el (table xs) j ≤ xs.length := fun j hj => by
  rw [table_len] at hj
  rw [el_table hj]
  exact lb_bd xs j

/-- The sum of the first k numbers. -/
def sumTo (xs : List Int) : Nat → Int
  | 0 => 0
  | k + 1 => sumTo xs k + el xs k
def sumL (xs : List Int) : Int := sumTo xs xs.length
theorem sumTo_bd {xs : List Int} {M : Nat} (h : ∀ j, j < xs.length → 0 ≤ el xs j ∧ el xs j ≤ M) : ∀ k, k ≤ xs.length → 0 ≤ sumTo xs k ∧ sumTo xs k ≤ k * M := by
  intro k
  induction k with
  | zero => intro _; simp [sumTo]
  | succ k ih =>
    intro hk
    have h1 := ih (by omega)
    have h2 := h k (by omega)
    rw [sumTo]
    have e : ((k + 1 : Nat) : Int) * M = k * M + M := by rw [Int.natCast_add, Int.add_mul]; simp
    omega
/-- What a function of orders answers: a number for an order, another one for other numbers. -/
def onVi (xs : List Int) (v d : Int) : Int := if Valid xs then v else d
theorem onVi_yes {xs : List Int} {v d : Int} (h : Valid xs) : onVi xs v d = v := if_pos h
theorem onVi_no {xs : List Int} {v d : Int} (h : ¬ Valid xs) : onVi xs v d = d := if_neg h

/-- The places among the first k behind which a lesser number stands. -/
def dsP (xs : List Int) : Nat → List Int
  | 0 => []
  | k + 1 => if el xs (k + 1) < el xs k then dsP xs k ++ [(k : Int)] else dsP xs k
def desc (xs : List Int) : List Int := dsP xs (xs.length - 1)
theorem dsP_yes {xs : List Int} {k : Nat} (h : el xs (k + 1) < el xs k) : dsP xs (k + 1) = dsP xs k ++ [(k : Int)] := by rw [dsP, if_pos h]
theorem dsP_no {xs : List Int} {k : Nat} (h : el xs k ≤ el xs (k + 1)) : dsP xs (k + 1) = dsP xs k := by rw [dsP, if_neg (by omega)]
theorem dsP_len (xs : List Int) (k : Nat) : (dsP xs k).length ≤ k := by
  induction k with
  | zero => simp [dsP]
  | succ k ih =>
    rw [dsP]
    split
    · rw [List.length_append, List.length_singleton]; omega
    · omega
theorem dsP_mem (xs : List Int) (k : Nat) : ∀ x ∈ dsP xs k, 0 ≤ x ∧ x < k := by
  induction k with
  | zero => intro x hx; simp [dsP] at hx
  | succ k ih =>
    intro x hx
    rw [dsP] at hx
    split at hx
    · rw [List.mem_append, List.mem_singleton] at hx
      rcases hx with hx | hx
      · have := ih x hx; omega
      · omega
    · have := ih x hx; omega
theorem el_mem {xs : List Int} {j : Nat} (h : j < xs.length) : el xs j ∈ xs := by rw [el_lt h]; exact List.getElem_mem h
theorem desc_len (xs : List Int) : (desc xs).length ≤ xs.length - 1 := dsP_len _ _
theorem desc_small {xs : List Int} (h : xs.length ≤ 1000) : ∀ j, j < (desc xs).length → 0 ≤ el (desc xs) j ∧ el (desc xs) j ≤ (1000 : Nat) := fun j hj => by
  have : 0 ≤ el (desc xs) j ∧ el (desc xs) j < (xs.length - 1 : Nat) := dsP_mem xs _ _ (el_mem hj)
  omega
def major (xs : List Int) : Int := sumL (desc xs) + (desc xs).length
theorem sumL_bd {xs : List Int} {M L : Nat} (h : ∀ j, j < xs.length → 0 ≤ el xs j ∧ el xs j ≤ M) (hl : xs.length ≤ L) : 0 ≤ sumL xs ∧ sumL xs ≤ L * M := by
  have h1 := sumTo_bd h xs.length (Nat.le_refl _)
  refine ⟨h1.1, Int.le_trans h1.2 (Int.mul_le_mul_of_nonneg_right (by omega) (by omega))⟩
def sgn (xs : List Int) : Int := 1 - 2 * (sumL (table xs) % 2)

/-- One list moved up by a, and another one moved up by b behind it. -/
def up (xs : List Int) (a : Int) : List Int := (List.range xs.length).map fun j => el xs j + a
def join (xs : List Int) (a : Int) (ys : List Int) (b : Int) : List Int := up xs a ++ up ys b
theorem up_len (xs : List Int) (a : Int) : (up xs a).length = xs.length := map_range_len _
theorem up_zero (xs : List Int) : up xs 0 = xs := ext_el (up_len xs 0) (fun j hj => by rw [up_len] at hj; rw [up, el_map hj]; omega)
theorem up_app (xs : List Int) (g : Nat → Int) (k : Nat) : xs ++ (List.range (k + 1)).map g = (xs ++ (List.range k).map g) ++ [g k] := by rw [map_range_succ, List.append_assoc]
/-- Two orders that may be put behind each other. -/
def Two (xs ys : List Int) : Prop := Valid xs ∧ Valid ys ∧ xs.length + ys.length ≤ 7
instance (xs ys : List Int) : Decidable (Two xs ys) := inferInstanceAs (Decidable (_ ∧ _ ∧ _))
def onT (xs ys zs : List Int) : List Int := if Two xs ys then zs else []
theorem onT_yes {xs ys zs : List Int} (h : Two xs ys) : onT xs ys zs = zs := if_pos h
theorem onT_no {xs ys zs : List Int} (h : ¬ Two xs ys) : onT xs ys zs = [] := if_neg h

/-- Two orders of one length. -/
def Mat (xs ys : List Int) : Prop := Valid xs ∧ Valid ys ∧ xs.length = ys.length
instance (xs ys : List Int) : Decidable (Mat xs ys) := inferInstanceAs (Decidable (_ ∧ _ ∧ _))
def onM (xs ys zs : List Int) : List Int := if Mat xs ys then zs else []
theorem onM_yes {xs ys zs : List Int} (h : Mat xs ys) : onM xs ys zs = zs := if_pos h
theorem onM_no {xs ys zs : List Int} (h : ¬ Mat xs ys) : onM xs ys zs = [] := if_neg h
def comp (xs ys : List Int) : List Int := (List.range ys.length).map fun k => el xs (el ys k).toNat

/-- The numbers are the table of an order. -/
structure VT (ts : List Int) : Prop where
  len : ts.length ≤ 7
  lo : ∀ j, j < ts.length → 0 ≤ el ts j
  hi : ∀ j, j < ts.length → el ts j ≤ (ts.length : Int) - 1 - j
theorem vt_iff (ts : List Int) : VT ts ↔ (ts.length ≤ 7 ∧ (∀ j, j < ts.length → 0 ≤ el ts j) ∧ ∀ j, j < ts.length → el ts j ≤ (ts.length : Int) - 1 - j) :=
  ⟨fun h => ⟨h.len, h.lo, h.hi⟩, fun h => ⟨h.1, h.2.1, h.2.2⟩⟩
instance (ts : List Int) : Decidable (VT ts) := decidable_of_iff _ (vt_iff ts).symm

end Go.Proofs.YtaceiebmgnhdgaaGreatDoor

/- The lists and numbers of the second chapter, as plain functions of lists. No condition. -/
namespace Go.Proofs.YtaceiebmgnhdgaaGreatDoor

/-- The places among the first k that fit with their numbers. -/
def plP (f : Int → Int → Bool) (xs : List Int) : Nat → List Int
  | 0 => []
  | k + 1 => if f k (el xs k) then plP f xs k ++ [(k : Int)] else plP f xs k
theorem plP_yes {f : Int → Int → Bool} {xs : List Int} {k : Nat} (h : f k (el xs k) = true) : plP f xs (k + 1) = plP f xs k ++ [(k : Int)] := by rw [plP, if_pos h]
theorem plP_no {f : Int → Int → Bool} {xs : List Int} {k : Nat} (h : f k (el xs k) = false) : plP f xs (k + 1) = plP f xs k := by rw [plP, h]; simp
theorem plP_len (f : Int → Int → Bool) (xs : List Int) (k : Nat) : (plP f xs k).length ≤ k := by
  induction k with
  | zero => simp [plP]
  | succ k ih =>
    rw [plP]
    split
    · rw [List.length_append, List.length_singleton]; omega
    · omega
theorem plP_mem (f : Int → Int → Bool) (xs : List Int) (k : Nat) : ∀ x ∈ plP f xs k, 0 ≤ x ∧ x < k := by
  induction k with
  | zero => intro x hx; simp [plP] at hx
  | succ k ih =>
    intro x hx
    rw [plP] at hx
    split at hx
    · rw [List.mem_append, List.mem_singleton] at hx
      rcases hx with hx | hx
      · have := ih x hx; omega
      · omega
    · have := ih x hx; omega
def upF (i u : Int) : Bool := decide (i < u)
def fixF (i u : Int) : Bool := decide (u = i)
def above (xs : List Int) : List Int := plP upF xs xs.length
def fixed (xs : List Int) : List Int := plP fixF xs xs.length
theorem above_len (xs : List Int) : (above xs).length ≤ xs.length := plP_len _ _ _
theorem fixed_len (xs : List Int) : (fixed xs).length ≤ xs.length := plP_len _ _ _

/-- The greatest of the first k numbers, or -1; the places of those that are greater than all ahead. -/
def mxP (xs : List Int) : Nat → Int
  | 0 => -1
  | k + 1 => if mxP xs k < el xs k then el xs k else mxP xs k
def rcP (xs : List Int) : Nat → List Int
  | 0 => []
  | k + 1 => if mxP xs k < el xs k then rcP xs k ++ [(k : Int)] else rcP xs k
theorem mxP_yes {xs : List Int} {k : Nat} (h : mxP xs k < el xs k) : mxP xs (k + 1) = el xs k := by rw [mxP, if_pos h]
theorem mxP_no {xs : List Int} {k : Nat} (h : el xs k ≤ mxP xs k) : mxP xs (k + 1) = mxP xs k := by rw [mxP, if_neg (by omega)]
theorem rcP_yes {xs : List Int} {k : Nat} (h : mxP xs k < el xs k) : rcP xs (k + 1) = rcP xs k ++ [(k : Int)] := by rw [rcP, if_pos h]
theorem rcP_no {xs : List Int} {k : Nat} (h : el xs k ≤ mxP xs k) : rcP xs (k + 1) = rcP xs k := by rw [rcP, if_neg (by omega)]
theorem rcP_len (xs : List Int) (k : Nat) : (rcP xs k).length ≤ k := by
  induction k with
  | zero => simp [rcP]
  | succ k ih =>
    rw [rcP]
    split
    · rw [List.length_append, List.length_singleton]; omega
    · omega
def records (xs : List Int) : List Int := rcP xs xs.length
theorem records_len (xs : List Int) : (records xs).length ≤ xs.length := rcP_len _ _

/-- How far the first k numbers are from their places. -/
def shP (xs : List Int) : Nat → Int
  | 0 => 0
  | k + 1 => shP xs k + max (el xs k - k) (k - el xs k)
def shift (xs : List Int) : Int := shP xs xs.length
theorem shP_bd {xs : List Int} (h : Valid xs) : ∀ k, k ≤ xs.length → 0 ≤ shP xs k ∧ shP xs k ≤ 7 * k := by
  intro k
  induction k with
  | zero => intro _; simp [shP]
  | succ k ih =>
    intro hk
    have h1 := ih (by omega)
    have h2 := h.lo k (by omega)
    have h3 := h.hi k (by omega)
    have h4 := h.len
    rw [shP]
    omega

/-- How many pairs of places i < k, k among the first ones, fit with their numbers. -/
def inP (f : Int → Int → Int → Int → Bool) (xs : List Int) (k t : Nat) : Int := cntP (fun i => f i (el xs i) k (el xs k)) t
def prP (f : Int → Int → Int → Int → Bool) (xs : List Int) : Nat → Int
  | 0 => 0
  | k + 1 => prP f xs k + inP f xs k k
def pairs (f : Int → Int → Int → Int → Bool) (xs : List Int) : Int := prP f xs xs.length
theorem inP_bd (f : Int → Int → Int → Int → Bool) (xs : List Int) (k t : Nat) : 0 ≤ inP f xs k t ∧ inP f xs k t ≤ t := cntP_bd _ _
theorem inP_yes {f : Int → Int → Int → Int → Bool} {xs : List Int} {k t : Nat} (h : f t (el xs t) k (el xs k) = true) : inP f xs k (t + 1) = inP f xs k t + 1 := cntP_yes h
theorem inP_no {f : Int → Int → Int → Int → Bool} {xs : List Int} {k t : Nat} (h : f t (el xs t) k (el xs k) = false) : inP f xs k (t + 1) = inP f xs k t := cntP_no h
theorem prP_bd (f : Int → Int → Int → Int → Bool) (xs : List Int) (k : Nat) : 0 ≤ prP f xs k ∧ prP f xs k ≤ k * k := by
  induction k with
  | zero => simp [prP]
  | succ k ih =>
    have := inP_bd f xs k k
    rw [prP]
    have e : ((k + 1 : Nat) : Int) * (k + 1 : Nat) = k * k + k + k + 1 := by rw [Int.natCast_add, Int.add_mul, Int.mul_add]; simp; omega
    omega
def crossF (i u k v : Int) : Bool := decide (k ≤ u) && decide (u < v) || decide (u < v) && decide (v < i)
def nestF (i u k v : Int) : Bool := decide (k ≤ v) && decide (v < u) || decide (v < u) && decide (u < i)
def denF (i u k v : Int) : Bool := decide (v < u) && (decide (i < u) == decide (k < v))

end Go.Proofs.YtaceiebmgnhdgaaGreatDoor

/- Foata's map and its way back, as plain functions of lists. No condition. -/
namespace Go.Proofs.YtaceiebmgnhdgaaGreatDoor

/-- Does z lie on the side of x that low names? -/
def sid (low : Bool) (x z : Int) : Bool := decide (z < x) == low
/-- The first i numbers of v, cut behind those of the side: the pieces that are turned, and the one that is open. -/
def tbP (low : Bool) (x : Int) (v : List Int) : Nat → List Int × List Int
  | 0 => ([], [])
  | i + 1 => if sid low x (el v i) then ((tbP low x v i).1 ++ [el v i] ++ (tbP low x v i).2, []) else ((tbP low x v i).1, (tbP low x v i).2 ++ [el v i])
theorem tbP_yes {low : Bool} {x : Int} {v : List Int} {i : Nat} (h : sid low x (el v i) = true) : tbP low x v (i + 1) = ((tbP low x v i).1 ++ [el v i] ++ (tbP low x v i).2, []) := by rw [tbP, if_pos h]
theorem tbP_no {low : Bool} {x : Int} {v : List Int} {i : Nat} (h : sid low x (el v i) = false) : tbP low x v (i + 1) = ((tbP low x v i).1, (tbP low x v i).2 ++ [el v i]) := by rw [tbP, h]; simp
theorem tbP_len (low : Bool) (x : Int) (v : List Int) (i : Nat) : (tbP low x v i).1.length + (tbP low x v i).2.length = i := by
  induction i with
  | zero => rfl
  | succ i ih =>
    rw [tbP]
    split
    · simp; omega
    · simp; omega
/-- The open piece is the end of what was looked at. -/
theorem tbP_run (low : Bool) (x : Int) (v : List Int) (i : Nat) (hi : i ≤ v.length) : (tbP low x v i).2 = (v.take i).drop (tbP low x v i).1.length := by
  induction i with
  | zero => simp [tbP]
  | succ i ih =>
    have hl := tbP_len low x v i
    rw [tbP]
    split
    · rw [List.drop_eq_nil_of_le]
      simp; omega
    · show _ = (v.take (i + 1)).drop _
      rw [take_el (by omega), List.drop_append_of_le_length (by simp; omega), ← ih (by omega)]
def lowOf (v : List Int) (x : Int) : Bool := decide (0 < v.length) && decide (el v (v.length - 1) < x)
def turnB (v : List Int) (x : Int) : List Int := (tbP (lowOf v x) x v v.length).1 ++ (tbP (lowOf v x) x v v.length).2
theorem turnB_len (v : List Int) (x : Int) : (turnB v x).length = v.length := by rw [turnB, List.length_append, tbP_len]
def foP (xs : List Int) : Nat → List Int
  | 0 => []
  | k + 1 => turnB (foP xs k) (el xs k) ++ [el xs k]
theorem foP_len (xs : List Int) (k : Nat) : (foP xs k).length = k := by
  induction k with
  | zero => rfl
  | succ k ih => rw [foP, List.length_append, turnB_len, ih]; rfl
def foat (xs : List Int) : List Int := foP xs xs.length
theorem foat_len (xs : List Int) : (foat xs).length = xs.length := foP_len _ _

/-- Numbers from the last one on, cut ahead of those of the side: the open piece at the beginning, and the pieces that are turned back. -/
def bkS (low : Bool) (x : Int) : List Int → List Int × List Int
  | [] => ([], [])
  | y :: v => if sid low x y then ([], (bkS low x v).1 ++ [y] ++ (bkS low x v).2) else (y :: (bkS low x v).1, (bkS low x v).2)
theorem bkS_len (low : Bool) (x : Int) (v : List Int) : (bkS low x v).1.length + (bkS low x v).2.length = v.length := by
  induction v with
  | nil => rfl
  | cons y v ih =>
    rw [bkS]
    split
    · simp; omega
    · simp; omega
theorem bkS_run (low : Bool) (x : Int) (v : List Int) : (bkS low x v).1 = v.take (bkS low x v).1.length := by
  induction v with
  | nil => rfl
  | cons y v ih =>
    rw [bkS]
    split
    · simp
    · simp only [List.length_cons, List.take_succ_cons]
      rw [← ih]
/-- From place j on. -/
theorem drop_cons {v : List Int} {j : Nat} (h : j < v.length) : v.drop j = el v j :: v.drop (j + 1) := by
  rw [el_lt h]; exact List.drop_eq_getElem_cons h
theorem bkS_yes {low : Bool} {x : Int} {v : List Int} {j : Nat} (hj : j < v.length) (h : sid low x (el v j) = true) : bkS low x (v.drop j) = ([], (bkS low x (v.drop (j + 1))).1 ++ [el v j] ++ (bkS low x (v.drop (j + 1))).2) := by
  rw [drop_cons hj, bkS, if_pos h]
theorem bkS_no {low : Bool} {x : Int} {v : List Int} {j : Nat} (hj : j < v.length) (h : sid low x (el v j) = false) : bkS low x (v.drop j) = (el v j :: (bkS low x (v.drop (j + 1))).1, (bkS low x (v.drop (j + 1))).2) := by
  rw [drop_cons hj, bkS, h]; simp
def lowB (v : List Int) (x : Int) : Bool := decide (0 < v.length) && decide (el v 0 < x)
def backB (v : List Int) (x : Int) : List Int := (bkS (lowB v x) x v).1 ++ (bkS (lowB v x) x v).2
theorem backB_len (v : List Int) (x : Int) : (backB v x).length = v.length := by rw [backB, List.length_append, bkS_len]
/-- The first n - t numbers after t steps back; what stands behind them is done. -/
def fbP (xs : List Int) : Nat → List Int
  | 0 => xs
  | t + 1 => backB ((fbP xs t).take ((fbP xs t).length - 1)) (el (fbP xs t) ((fbP xs t).length - 1))
def fbT (xs : List Int) : Nat → List Int
  | 0 => []
  | t + 1 => el (fbP xs t) ((fbP xs t).length - 1) :: fbT xs t
theorem fbP_len (xs : List Int) (t : Nat) : (fbP xs t).length = xs.length - t := by
  induction t with
  | zero => rfl
  | succ t ih => rw [fbP, backB_len, List.length_take, ih]; omega
theorem fbT_len (xs : List Int) (t : Nat) : (fbT xs t).length = t := by
  induction t with
  | zero => rfl
  | succ t ih => rw [fbT, List.length_cons, ih]
def fbac (xs : List Int) : List Int := fbT xs xs.length
theorem fbac_len (xs : List Int) : (fbac xs).length = xs.length := fbT_len _ _

end Go.Proofs.YtaceiebmgnhdgaaGreatDoor

/- A reckoning over all orders, in eight parts: those of at most six values, and those of seven by their first values. No condition. -/
namespace Go.Proofs.YtaceiebmgnhdgaaGreatDoor

/-- All orders of seven values that begin with x. -/
def begun (x : Int) : List (List Int) := (perms 6 ((rng 7).erase x)).map (x :: ·)
theorem Valid.parts {xs : List Int} (h : Valid xs) {p : List Int → Bool} (h6 : (allUpTo 6).all p = true) (h7 : ∀ x ∈ rng 7, (begun x).all p = true) : p xs = true := by
  by_cases e : xs.length ≤ 6
  · exact h.all' e h6
  · have e7 : xs.length = 7 := by have := h.len; omega
    have hm := h.in_orders
    rw [e7, orders] at hm
    simp only [perms, List.mem_flatMap] at hm
    obtain ⟨x, hx, hm⟩ := hm
    exact List.all_eq_true.1 (h7 x hx) xs hm
theorem seven {P : Int → Prop} (h0 : P 0) (h1 : P 1) (h2 : P 2) (h3 : P 3) (h4 : P 4) (h5 : P 5) (h6 : P 6) : ∀ x ∈ rng 7, P x := by
  intro x hx
  have := (mem_rng 7 x).1 hx
  obtain ⟨v, rfl⟩ := Int.eq_ofNat_of_zero_le this.1
  match v, this.2 with
  | 0, _ => exact h0
  | 1, _ => exact h1
  | 2, _ => exact h2
  | 3, _ => exact h3
  | 4, _ => exact h4
  | 5, _ => exact h5
  | 6, _ => exact h6
  | v + 7, h => exact absurd h (by omega)

end Go.Proofs.YtaceiebmgnhdgaaGreatDoor

/- Counts of orders, reckoned fast: for what the kernel reckons over all orders. No condition. -/
namespace Go.Proofs.YtaceiebmgnhdgaaGreatDoor

def ltb : Int → Int → Bool
  | .ofNat m, .ofNat n => Nat.blt m n
  | .ofNat _, .negSucc _ => false
  | .negSucc _, .ofNat _ => true
  | .negSucc m, .negSucc n => Nat.blt n m
theorem ltb_eq (a b : Int) : ltb a b = decide (a < b) := by
  cases a with
  | ofNat m => cases b with
    | ofNat n => rw [ltb, Bool.eq_iff_iff, Nat.blt_eq, decide_eq_true_iff]; simp only [Int.ofNat_eq_natCast]; omega
    | negSucc n => rw [ltb, eq_comm, decide_eq_false_iff_not]; simp only [Int.ofNat_eq_natCast]; omega
  | negSucc m => cases b with
    | ofNat n => rw [ltb, eq_comm, decide_eq_true_iff]; simp only [Int.ofNat_eq_natCast]; omega
    | negSucc n => rw [ltb, Bool.eq_iff_iff, Nat.blt_eq, decide_eq_true_iff]; omega
def eqb : Int → Int → Bool
  | .ofNat m, .ofNat n => Nat.beq m n
  | .ofNat _, .negSucc _ => false
  | .negSucc _, .ofNat _ => false
  | .negSucc m, .negSucc n => Nat.beq m n
theorem eqb_eq (a b : Int) : eqb a b = decide (a = b) := by
  cases a with
  | ofNat m => cases b with
    | ofNat n => rw [eqb, Bool.eq_iff_iff, Nat.beq_eq, decide_eq_true_iff]; simp only [Int.ofNat_eq_natCast]; omega
    | negSucc n => rw [eqb, eq_comm, decide_eq_false_iff_not]; simp only [Int.ofNat_eq_natCast]; omega
  | negSucc m => cases b with
    | ofNat n => rw [eqb, eq_comm, decide_eq_false_iff_not]; simp only [Int.ofNat_eq_natCast]; omega
    | negSucc n => rw [eqb, Bool.eq_iff_iff, Nat.beq_eq, decide_eq_true_iff]; omega
def eqs : List Int → List Int → Bool
  | [], [] => true
  | x :: xs, y :: ys => match eqb x y with
    | true => eqs xs ys
    | false => false
  | _, _ => false
theorem eqs_eq {xs ys : List Int} (h : eqs xs ys = true) : xs = ys := by
  induction xs generalizing ys with
  | nil => cases ys <;> simp_all [eqs]
  | cons x xs ih =>
    cases ys with
    | nil => simp [eqs] at h
    | cons y ys =>
      rw [eqs, eqb_eq] at h
      by_cases e : x = y
      · simp only [e, decide_true] at h
        rw [e, ih h]
      · simp [e] at h
/-- How many of xs are less than x, and n. -/
def clF (x : Int) : List Int → Nat → Nat
  | [], n => n
  | y :: v, n => match ltb y x with
    | true => clF x v (n + 1)
    | false => clF x v n
def invF : List Int → Nat → Nat
  | [], n => n
  | x :: xs, n => invF xs (clF x xs n)
def majF : List Int → Nat → Nat → Nat
  | [], _, n => n
  | [_], _, n => n
  | x :: y :: xs, k, n => match ltb y x with
    | true => majF (y :: xs) (k + 1) (n + k)
    | false => majF (y :: xs) (k + 1) n

theorem clF_eq (x : Int) (v : List Int) (n : Nat) : clF x v n = v.countP (fun y => decide (y < x)) + n := by
  induction v generalizing n with
  | nil => simp [clF]
  | cons y v ih =>
    rw [clF, ltb_eq]
    by_cases e : y < x
    · simp [e, ih]; omega
    · simp [e, ih]
theorem invF_add (xs : List Int) (n : Nat) : invF xs n = invF xs 0 + n := by
  induction xs generalizing n with
  | nil => simp [invF]
  | cons x xs ih => rw [invF, invF, ih, ih (clF x xs 0), clF_eq, clF_eq]; omega
theorem majF_add (xs : List Int) (k n : Nat) : majF xs k n = majF xs k 0 + n := by
  induction xs generalizing k n with
  | nil => simp [majF]
  | cons x xs ih =>
    cases xs with
    | nil => simp [majF]
    | cons y xs =>
      rw [majF, majF, ltb_eq]
      cases decide (y < x)
      · exact ih _ _
      · show majF (y :: xs) (k + 1) (n + k) = majF (y :: xs) (k + 1) (0 + k) + n
        rw [ih (k + 1) (n + k), ih (k + 1) (0 + k)]; omega
theorem el_cons (x : Int) (xs : List Int) (k : Nat) : el (x :: xs) (k + 1) = el xs k := by simp [el]
theorem el_zero (x : Int) (xs : List Int) : el (x :: xs) 0 = x := by simp [el]
theorem cntP_front (p : Nat → Bool) (k : Nat) : cntP p (k + 1) = (if p 0 then 1 else 0) + cntP (fun j => p (j + 1)) k := by
  induction k with
  | zero => simp [cntP]
  | succ k ih => rw [cntP, ih, cntP]; split <;> split <;> omega
theorem cntP_countP (v : List Int) (f : Int → Bool) : cntP (fun j => f (el v j)) v.length = (v.countP f : Int) := by
  induction v with
  | nil => rfl
  | cons y v ih =>
    rw [List.length_cons, cntP_front, el_zero]
    have e : (fun j => f (el (y :: v) (j + 1))) = fun j => f (el v j) := by funext j; rw [el_cons]
    rw [e, ih, List.countP_cons]
    split <;> simp <;> omega
theorem lb_cons (x : Int) (xs : List Int) (k : Nat) : lb (x :: xs) (k + 1) = lb xs k := by
  unfold lb lbP
  have e : (fun j => decide (el (x :: xs) (k + 1 + 1 + j) < el (x :: xs) (k + 1))) = fun j => decide (el xs (k + 1 + j) < el xs k) := by
    funext j
    rw [show k + 1 + 1 + j = (k + 1 + j) + 1 by omega, el_cons, el_cons]
  rw [e, List.length_cons]
  congr 1
  omega
theorem lb_zero (x : Int) (xs : List Int) : lb (x :: xs) 0 = (xs.countP (fun y => decide (y < x)) : Int) := by
  unfold lb lbP
  have e : (fun j => decide (el (x :: xs) (0 + 1 + j) < el (x :: xs) 0)) = fun j => (fun y => decide (y < x)) (el xs j) := by
    funext j
    rw [show 0 + 1 + j = j + 1 by omega, el_cons, el_zero]
  rw [e, ← cntP_countP]
  congr 1
theorem table_cons (x : Int) (xs : List Int) : table (x :: xs) = (xs.countP (fun y => decide (y < x)) : Int) :: table xs := by
  rw [table, List.length_cons, List.range_succ_eq_map, List.map_cons, lb_zero, List.map_map]
  congr 1
  exact List.map_congr_left (fun k _ => lb_cons x xs k)
theorem sumTo_cons (x : Int) (xs : List Int) (k : Nat) : sumTo (x :: xs) (k + 1) = x + sumTo xs k := by
  induction k with
  | zero => simp [sumTo, el_zero]
  | succ k ih => rw [sumTo, ih, el_cons, sumTo]; omega
theorem sumL_cons (x : Int) (xs : List Int) : sumL (x :: xs) = x + sumL xs := by rw [sumL, List.length_cons, sumTo_cons, sumL]
theorem sumL_nil : sumL [] = 0 := rfl
theorem invF_eq (xs : List Int) : (invF xs 0 : Int) = sumL (table xs) := by
  induction xs with
  | nil => rfl
  | cons x xs ih => rw [invF, invF_add, clF_eq, table_cons, sumL_cons, ← ih]; omega

/-- The sum of the places, from s on, behind which a lesser number stands. -/
def mjP (xs : List Int) : Nat → Int
  | 0 => 0
  | k + 1 => if el xs (k + 1) < el xs k then mjP xs k + k + 1 else mjP xs k
theorem sumL_app (xs : List Int) (v : Int) : sumL (xs ++ [v]) = sumL xs + v := by
  induction xs with
  | nil => simp [sumL, sumTo, el]
  | cons x xs ih => rw [List.cons_append, sumL_cons, ih, sumL_cons]; omega
theorem mjP_eq (xs : List Int) : ∀ k, sumL (dsP xs k) + (dsP xs k).length = mjP xs k := by
  intro k
  induction k with
  | zero => rfl
  | succ k ih =>
    rw [dsP, mjP]
    split
    · rw [sumL_app, List.length_append, List.length_singleton]; omega
    · exact ih
theorem major_eq (xs : List Int) : major xs = mjP xs (xs.length - 1) := mjP_eq xs _
theorem majF_drop (xs : List Int) (d : Nat) : ∀ (m : Nat), m + d = xs.length → (majF (xs.drop m) (m + 1) 0 : Int) + mjP xs (m - 0) = mjP xs (m + (d - 1)) := by
  induction d with
  | zero =>
    intro m hm
    rw [List.drop_eq_nil_of_le (by omega)]
    simp [majF]
  | succ d ih =>
    intro m hm
    have h1 : m < xs.length := by omega
    have e1 : xs.drop m = el xs m :: xs.drop (m + 1) := by rw [el_lt h1]; exact List.drop_eq_getElem_cons h1
    cases d with
    | zero =>
      rw [e1, List.drop_eq_nil_of_le (by omega)]
      simp [majF]
    | succ d =>
      have h2 : m + 1 < xs.length := by omega
      have e2 : xs.drop (m + 1) = el xs (m + 1) :: xs.drop (m + 1 + 1) := by rw [el_lt h2]; exact List.drop_eq_getElem_cons h2
      have := ih (m + 1) (by omega)
      rw [e1, e2, majF, ltb_eq, ← e2]
      simp only [Nat.sub_zero] at this ⊢
      rw [show m + 1 + (d + 1 - 1) = m + (d + 1 + 1 - 1) by omega] at this
      rw [← this, mjP]
      by_cases e : el xs (m + 1) < el xs m
      · simp only [e, decide_true, if_true]
        rw [majF_add]; omega
      · simp only [e, decide_false, if_false]
theorem majF_eq (xs : List Int) : (majF xs 1 0 : Int) = major xs := by
  have := majF_drop xs xs.length 0 (by omega)
  simp only [List.drop_zero, Nat.zero_add, Nat.sub_zero] at this
  rw [major_eq, ← this, mjP]
  omega

end Go.Proofs.YtaceiebmgnhdgaaGreatDoor

/- What a reckoning over all orders of at most seven values shows. No condition. -/
namespace Go.Proofs.YtaceiebmgnhdgaaGreatDoor

set_option maxRecDepth 100000 in
theorem count_all : (allUpTo 7).all (fun xs => (List.range 7).all fun v => xs.count (v : Int) == if v < xs.length then 1 else 0) = true := by decide +kernel

theorem count_valid {xs : List Int} (hn : xs.length ≤ 7) (hr : ∀ j, j < xs.length → 0 ≤ el xs j ∧ el xs j < xs.length) :
    (∀ v : Nat, v < 7 → xs.count (v : Int) = if v < xs.length then 1 else 0) ↔ Valid xs := by
  constructor
  · intro h
    refine ⟨hn, fun j hj => (hr j hj).1, fun j hj => (hr j hj).2, fun i j hij hj e => ?_⟩
    have h2 := count_two hij hj e
    obtain ⟨v, hv⟩ := Int.eq_ofNat_of_zero_le (hr j hj).1
    have h3 := (hr j hj).2
    rw [hv] at h2 h3
    have := h v (by omega)
    rw [this] at h2
    split at h2 <;> omega
  · intro h v hv
    have := h.all count_all
    rw [List.all_eq_true] at this
    simpa using this v (by simpa using hv)

end Go.Proofs.YtaceiebmgnhdgaaGreatDoor

/- Inverses of orders: they are orders, and their products rise. No condition. -/
namespace Go.Proofs.YtaceiebmgnhdgaaGreatDoor

theorem inv_length (xs : List Int) : (inv xs).length = xs.length := inv_len xs xs.length

/-- Each value has a place. -/
theorem Valid.place {xs : List Int} (h : Valid xs) {v : Nat} (hv : v < xs.length) : ∃ k, k < xs.length ∧ el xs k = v := by
  have hc := (count_valid h.len (fun j hj => ⟨h.lo j hj, h.hi j hj⟩)).2 h v (by have := h.len; omega)
  rw [if_pos hv] at hc
  have hm : (v : Int) ∈ xs := List.count_pos_iff.1 (by omega)
  obtain ⟨k, hk, he⟩ := List.mem_iff_getElem.1 hm
  exact ⟨k, hk, by rw [el_lt hk]; exact he⟩

/-- The inverse at a value is its place. -/
theorem inv_el {xs : List Int} (h : Valid xs) {k : Nat} (hk : k < xs.length) : el (inv xs) (el xs k).toNat = k := by
  have key : ∀ m, m ≤ xs.length → ∀ j, j < m → el (iter (fun (a : List Int) k => a.set (el xs k).toNat (k : Int)) (List.replicate xs.length 0) m) (el xs j).toNat = j := by
    intro m
    induction m with
    | zero => intro _ j hj; omega
    | succ m ih =>
      intro hm j hj
      have hmlo := h.lo m (by omega)
      have hmhi := h.hi m (by omega)
      rw [iter]
      by_cases e : j = m
      · rw [e, el_set_same (by rw [inv_len]; omega)]
      · have hjlo := h.lo j (by omega)
        have := h.ne j m (by omega) (by omega)
        rw [el_set_ne (by omega), ih (by omega) j (by omega)]
  exact key xs.length (Nat.le_refl _) k hk

theorem inv_at {xs : List Int} (h : Valid xs) {v : Nat} (hv : v < xs.length) : ∃ k, k < xs.length ∧ el xs k = v ∧ el (inv xs) v = k := by
  obtain ⟨k, hk, he⟩ := h.place hv
  have := inv_el h hk
  rw [he, Int.toNat_natCast] at this
  exact ⟨k, hk, he, this⟩

theorem inv_valid {xs : List Int} (h : Valid xs) : Valid (inv xs) := by
  refine ⟨by rw [inv_length]; exact h.len, fun j hj => ?_, fun j hj => ?_, fun i j hij hj => ?_⟩
  · rw [inv_length] at hj
    obtain ⟨k, hk, _, he⟩ := inv_at h hj
    rw [he]; omega
  · rw [inv_length] at hj ⊢
    obtain ⟨k, hk, _, he⟩ := inv_at h hj
    rw [he]; omega
  · rw [inv_length] at hj
    obtain ⟨k, hk, h1, he⟩ := inv_at h hj
    obtain ⟨k2, hk2, h2, he2⟩ := inv_at h (show i < xs.length by omega)
    rw [he, he2]
    intro e
    have : k2 = k := by omega
    rw [this] at h2
    omega

theorem comp_inv {xs : List Int} (h : Valid xs) : comp xs (inv xs) = rise xs.length := by
  refine ext_el (by rw [comp, map_range_len, inv_length, rise_len]) (fun j hj => ?_)
  rw [comp, map_range_len, inv_length] at hj
  obtain ⟨k, hk, h1, he⟩ := inv_at h hj
  rw [comp, el_map (by rw [inv_length]; exact hj), he, Int.toNat_natCast, h1, rise, el_map hj]

theorem inv_inv {xs : List Int} (h : Valid xs) : inv (inv xs) = xs := by
  refine ext_el (by rw [inv_length, inv_length]) (fun j hj => ?_)
  rw [inv_length, inv_length] at hj
  have hlo := h.lo j hj
  have hhi := h.hi j hj
  obtain ⟨v, hv⟩ := Int.eq_ofNat_of_zero_le hlo
  have h1 := inv_el h hj
  rw [hv, Int.toNat_natCast] at h1
  have h2 := inv_el (inv_valid h) (k := v) (by rw [inv_length]; omega)
  rw [h1, Int.toNat_natCast] at h2
  rw [h2, hv]

end Go.Proofs.YtaceiebmgnhdgaaGreatDoor

/- Foata's map and its way back undo each other. No condition. -/
namespace Go.Proofs.YtaceiebmgnhdgaaGreatDoor

/-- The numbers v cut behind those of the side and turned, b the open piece. -/
def tbF (low : Bool) (x : Int) : List Int → List Int → List Int
  | [], b => b
  | y :: v, b => match (ltb y x).xor low with
    | false => y :: (b ++ tbF low x v [])
    | true => tbF low x v (b ++ [y])
theorem xor_sid (low : Bool) (x y : Int) : ((ltb y x).xor low) = !sid low x y := by
  rw [ltb_eq, sid]; cases decide (y < x) <;> cases low <;> rfl
theorem tbF_yes {low : Bool} {x y : Int} {v b : List Int} (h : sid low x y = true) : tbF low x (y :: v) b = y :: (b ++ tbF low x v []) := by rw [tbF, xor_sid, h]; rfl
theorem tbF_no {low : Bool} {x y : Int} {v b : List Int} (h : sid low x y = false) : tbF low x (y :: v) b = tbF low x v (b ++ [y]) := by rw [tbF, xor_sid, h]; rfl
theorem tbF_drop (low : Bool) (x : Int) (v : List Int) : ∀ d i, i + d = v.length → (tbP low x v i).1 ++ tbF low x (v.drop i) (tbP low x v i).2 = (tbP low x v v.length).1 ++ (tbP low x v v.length).2 := by
  intro d
  induction d with
  | zero => intro i hi; rw [List.drop_eq_nil_of_le (by omega), tbF, show i = v.length by omega]
  | succ d ih =>
    intro i hi
    rw [← ih (i + 1) (by omega), drop_cons (by omega)]
    cases h : sid low x (el v i)
    · rw [tbF_no h, tbP_no h]
    · rw [tbF_yes h, tbP_yes h]; simp
theorem turnB_F (v : List Int) (x : Int) : turnB v x = tbF (lowOf v x) x v [] := by
  have := tbF_drop (lowOf v x) x v v.length 0 (by omega)
  simpa [turnB, tbP] using this.symm
theorem tbF_none {low : Bool} {x : Int} {r : List Int} (h : ∀ y ∈ r, sid low x y = false) (v b : List Int) : tbF low x (r ++ v) b = tbF low x v (b ++ r) := by
  induction r generalizing b with
  | nil => simp
  | cons y r ih =>
    rw [List.cons_append, tbF_no (h y (by simp)), ih (fun z hz => h z (by simp [hz]))]
    simp
theorem bkS_none (low : Bool) (x : Int) (v : List Int) : ∀ y ∈ (bkS low x v).1, sid low x y = false := by
  induction v with
  | nil => intro y hy; simp [bkS] at hy
  | cons z v ih =>
    intro y hy
    rw [bkS] at hy
    split at hy
    · simp at hy
    · rename_i h
      simp only [List.mem_cons] at hy
      rcases hy with rfl | hy
      · simpa using h
      · exact ih y hy
theorem bkS_split (low : Bool) (x : Int) (v : List Int) : v = (bkS low x v).1 ++ v.drop (bkS low x v).1.length := by
  conv => lhs; rw [← List.take_append_drop (bkS low x v).1.length v, ← bkS_run]
/-- Turning what was turned back. -/
theorem tbF_bkS (low : Bool) (x : Int) (v : List Int) : tbF low x (bkS low x v).2 [] = v.drop (bkS low x v).1.length := by
  induction v with
  | nil => rfl
  | cons y v ih =>
    rw [bkS]
    split
    · rename_i h
      show tbF low x ((bkS low x v).1 ++ [y] ++ (bkS low x v).2) [] = (y :: v).drop 0
      rw [List.append_assoc, tbF_none (bkS_none low x v), List.singleton_append, tbF_yes h, ih, List.nil_append, ← bkS_split, List.drop_zero]
    · exact ih
theorem bkS_app {low : Bool} {x : Int} {r : List Int} (h : ∀ y ∈ r, sid low x y = false) (v : List Int) : bkS low x (r ++ v) = (r ++ (bkS low x v).1, (bkS low x v).2) := by
  induction r with
  | nil => rfl
  | cons y r ih =>
    rw [List.cons_append, bkS, h y (by simp), ih (fun z hz => h z (by simp [hz]))]
    simp
/-- Turning back what was turned; b the open piece, of which no number is of the side. -/
theorem bkS_tbF (low : Bool) (x : Int) : ∀ (v b : List Int), (∀ y ∈ b, sid low x y = false) → (∀ y, (b ++ v).getLast? = some y → sid low x y = true) → bkS low x (tbF low x v b) = ([], b ++ v) := by
  intro v
  induction v with
  | nil =>
    intro b hb hl
    rw [List.append_nil] at hl
    cases e : b.getLast? with
    | none =>
      obtain rfl := List.getLast?_eq_none_iff.1 e
      rfl
    | some y =>
      have h1 := hl y e
      rw [hb y (List.mem_of_getLast? e)] at h1
      cases h1
  | cons y v ih =>
    intro b hb hl
    cases h : sid low x y
    · rw [tbF_no h, ih (b ++ [y]) (fun z hz => by
        rw [List.mem_append, List.mem_singleton] at hz
        rcases hz with hz | rfl
        · exact hb z hz
        · exact h) (fun z hz => hl z (by simpa using hz))]
      simp
    · have h1 : bkS low x (tbF low x v []) = ([], v) := by
        rw [ih [] (by simp) (fun z hz => hl z (by
          rw [List.nil_append] at hz
          cases v with
          | nil => simp at hz
          | cons a v => rw [List.getLast?_append, List.getLast?_cons_cons, hz]; rfl))]
        rfl
      rw [tbF_yes h, bkS, if_pos h, bkS_app hb, h1]
      simp

theorem lowOf_last {v : List Int} {x y : Int} (h : v.getLast? = some y) : lowOf v x = decide (y < x) := by
  rw [List.getLast?_eq_some_iff] at h
  obtain ⟨u, rfl⟩ := h
  simp [lowOf, el]
theorem turn_head (low : Bool) (x : Int) : ∀ (v b : List Int), (∀ y, (b ++ v).getLast? = some y → sid low x y = true) → (∀ y ∈ b, sid low x y = false) → 0 < (b ++ v).length → 0 < (tbF low x v b).length ∧ sid low x (el (tbF low x v b) 0) = true := by
  intro v
  induction v with
  | nil =>
    intro b hl hb h0
    rw [List.append_nil] at hl h0
    cases e : b.getLast? with
    | none =>
      obtain rfl := List.getLast?_eq_none_iff.1 e
      simp at h0
    | some y =>
      have h1 := hl y e
      rw [hb y (List.mem_of_getLast? e)] at h1
      cases h1
  | cons y v ih =>
    intro b hl hb h0
    cases h : sid low x y
    · rw [tbF_no h]
      refine ih (b ++ [y]) (fun z hz => hl z (by simpa using hz)) (fun z hz => ?_) (by simp; omega)
      rw [List.mem_append, List.mem_singleton] at hz
      rcases hz with hz | rfl
      · exact hb z hz
      · exact h
    · rw [tbF_yes h, el_zero]
      exact ⟨by simp, h⟩
theorem sid_of {x y : Int} (low : Bool) (h : decide (y < x) = low) : sid low x y = true := by rw [sid, h]; simp
theorem of_sid {x y : Int} {low : Bool} (h : sid low x y = true) : decide (y < x) = low := by simpa [sid] using h
theorem back_turn (v : List Int) (x : Int) : backB (turnB v x) x = v := by
  cases v with
  | nil => rfl
  | cons a v =>
    obtain ⟨y, hy⟩ : ∃ y, (a :: v).getLast? = some y := ⟨_, List.getLast?_eq_some_getLast (by simp)⟩
    have hs : ∀ z, ([] ++ (a :: v)).getLast? = some z → sid (lowOf (a :: v) x) x z = true := fun z hz => by
      rw [List.nil_append] at hz
      exact sid_of _ (lowOf_last hz).symm
    have h1 := turn_head (lowOf (a :: v) x) x (a :: v) [] hs (by simp) (by simp)
    have h2 := bkS_tbF (lowOf (a :: v) x) x (a :: v) [] (by simp) hs
    rw [← turnB_F] at h1 h2
    have h3 : lowB (turnB (a :: v) x) x = lowOf (a :: v) x := by
      rw [lowB, decide_eq_true h1.1, of_sid h1.2]; rfl
    rw [backB, h3, h2]
    rfl
theorem bk_head (low : Bool) (x y : Int) (v : List Int) (h : sid low x y = true) : (bkS low x (y :: v)).1 = [] ∧ ∃ z, (bkS low x (y :: v)).2.getLast? = some z ∧ sid low x z = true := by
  induction v generalizing y with
  | nil => rw [bkS, if_pos h]; exact ⟨rfl, y, by simp [bkS], h⟩
  | cons a v ih =>
    rw [bkS, if_pos h]
    refine ⟨rfl, ?_⟩
    cases ha : sid low x a
    · rw [bkS, ha]
      simp only [Bool.false_eq_true, if_false]
      have h1 := ih y h
      rw [bkS, if_pos h] at h1
      obtain ⟨_, z, hz, hs⟩ := h1
      simp only at hz
      cases e : (bkS low x v).2 with
      | nil => exact ⟨y, by simp only [List.append_nil, List.cons_append]; rw [← List.cons_append, List.getLast?_append]; rfl, h⟩
      | cons c l =>
        rw [e] at hz
        refine ⟨z, ?_, hs⟩
        rw [List.getLast?_append] at hz ⊢
        rw [List.getLast?_eq_some_getLast (l := c :: l) (by simp)] at hz ⊢
        exact hz
    · obtain ⟨h1, z, hz, hs⟩ := ih a ha
      refine ⟨z, ?_, hs⟩
      rw [List.getLast?_append, hz]; rfl
theorem turn_back (v : List Int) (x : Int) : turnB (backB v x) x = v := by
  cases v with
  | nil => rfl
  | cons a v =>
    have hs : sid (lowB (a :: v) x) x a = true := sid_of _ (by simp [lowB, el])
    obtain ⟨h1, z, hz, hzs⟩ := bk_head (lowB (a :: v) x) x a v hs
    have h2 := tbF_bkS (lowB (a :: v) x) x (a :: v)
    have h3 : backB (a :: v) x = (bkS (lowB (a :: v) x) x (a :: v)).2 := by rw [backB, h1, List.nil_append]
    have h4 : lowOf (backB (a :: v) x) x = lowB (a :: v) x := by rw [h3, lowOf_last hz, of_sid hzs]
    rw [turnB_F, h4, h3, h2, h1]
    rfl

theorem el_app_last (v : List Int) (x : Int) : el (v ++ [x]) v.length = x := by simp [el]
theorem fbP_foat (xs : List Int) : ∀ t, t ≤ xs.length → fbP (foat xs) t = foP xs (xs.length - t) ∧ fbT (foat xs) t = xs.drop (xs.length - t) := by
  intro t
  induction t with
  | zero => intro _; exact ⟨rfl, by rw [fbT, List.drop_eq_nil_of_le (by omega)]⟩
  | succ t ih =>
    intro ht
    obtain ⟨h1, h2⟩ := ih (by omega)
    obtain ⟨m, hm⟩ : ∃ m, xs.length - t = m + 1 := ⟨xs.length - t - 1, by omega⟩
    have hl := foP_len xs (m + 1)
    have h3 : el (foP xs (m + 1)) ((foP xs (m + 1)).length - 1) = el xs m := by
      have := el_app_last (turnB (foP xs m) (el xs m)) (el xs m)
      rw [turnB_len, foP_len] at this
      rw [hl, foP]
      exact this
    have h4 : (foP xs (m + 1)).take ((foP xs (m + 1)).length - 1) = turnB (foP xs m) (el xs m) := by
      rw [hl, foP, List.take_append_of_le_length (by rw [turnB_len, foP_len]; omega), List.take_of_length_le (by rw [turnB_len, foP_len]; omega)]
    constructor
    · rw [fbP, h1, hm, h3, h4, back_turn, show xs.length - (t + 1) = m by omega]
    · rw [fbT, h1, h2, hm, h3, show xs.length - (t + 1) = m by omega, drop_cons (show m < xs.length by omega)]
theorem fbac_foat (xs : List Int) : fbac (foat xs) = xs := by
  rw [fbac, foat_len, (fbP_foat xs _ (Nat.le_refl _)).2, Nat.sub_self, List.drop_zero]
theorem el_fbT (xs : List Int) : ∀ t k, k < t → el (fbT xs t) k = el (fbP xs (t - 1 - k)) ((fbP xs (t - 1 - k)).length - 1) := by
  intro t
  induction t with
  | zero => intro k hk; omega
  | succ t ih =>
    intro k hk
    cases k with
    | zero => rw [fbT, el_zero]; simp
    | succ k => rw [fbT, el_cons, ih k (by omega), show t + 1 - 1 - (k + 1) = t - 1 - k by omega]
theorem foP_fbac (xs : List Int) : ∀ k, k ≤ xs.length → foP (fbac xs) k = fbP xs (xs.length - k) := by
  intro k
  induction k with
  | zero =>
    intro _
    have := fbP_len xs xs.length
    rw [foP, Nat.sub_zero]
    exact (List.eq_nil_of_length_eq_zero (by omega)).symm
  | succ k ih =>
    intro hk
    have h1 : el (fbac xs) k = el (fbP xs (xs.length - (k + 1))) ((fbP xs (xs.length - (k + 1))).length - 1) := by
      rw [fbac, el_fbT xs _ _ (by omega), show xs.length - 1 - k = xs.length - (k + 1) by omega]
    have hl := fbP_len xs (xs.length - (k + 1))
    have h2 : fbP xs (xs.length - k) = backB ((fbP xs (xs.length - (k + 1))).take k) (el (fbP xs (xs.length - (k + 1))) k) := by
      rw [show xs.length - k = xs.length - (k + 1) + 1 by omega, fbP, hl, show xs.length - (xs.length - (k + 1)) - 1 = k by omega]
    rw [show (fbP xs (xs.length - (k + 1))).length - 1 = k by omega] at h1
    rw [foP, ih (by omega), h2, h1, turn_back, ← take_el (by omega), List.take_of_length_le (by omega)]
theorem foat_fbac (xs : List Int) : foat (fbac xs) = xs := by
  rw [foat, fbac_len, foP_fbac xs _ (Nat.le_refl _), Nat.sub_self, fbP]

theorem sid_perm (low : Bool) (x : Int) (v b : List Int) : (tbF low x v b).Perm (b ++ v) := by
  induction v generalizing b with
  | nil => simp [tbF]
  | cons y v ih =>
    cases h : sid low x y
    · rw [tbF_no h]
      simpa using ih (b ++ [y])
    · rw [tbF_yes h]
      have := ih []
      exact ((this.append_left b).cons y).trans (by rw [List.nil_append]; exact List.perm_middle.symm)
theorem turnB_perm (v : List Int) (x : Int) : (turnB v x).Perm v := by
  rw [turnB_F]; exact sid_perm _ _ _ _
theorem foP_perm (xs : List Int) : ∀ k, k ≤ xs.length → (foP xs k).Perm (xs.take k) := by
  intro k
  induction k with
  | zero => intro _; simp [foP]
  | succ k ih =>
    intro hk
    rw [foP, take_el (by omega)]
    exact ((turnB_perm _ _).trans (ih (by omega))).append_right _
theorem foat_perm (xs : List Int) : (foat xs).Perm xs := by
  have := foP_perm xs _ (Nat.le_refl _)
  rwa [List.take_of_length_le (Nat.le_refl _)] at this
/-- What has the values of an order is an order. -/
theorem Valid.perm {xs ys : List Int} (h : Valid xs) (hp : ys.Perm xs) : Valid ys := by
  have hl := hp.length_eq
  have hm : ∀ j, j < ys.length → 0 ≤ el ys j ∧ el ys j < ys.length := fun j hj => by
    rw [hl]; exact h.mem (hp.subset (el_mem hj))
  refine ⟨by rw [hl]; exact h.len, fun j hj => (hm j hj).1, fun j hj => (hm j hj).2, fun i j hij hj => ?_⟩
  have hn := (hp.nodup_iff).2 h.nodup
  rw [List.nodup_iff_pairwise_ne, List.pairwise_iff_getElem] at hn
  have := hn i j (by omega) hj hij
  rwa [← el_lt, ← el_lt] at this
theorem foat_valid {xs : List Int} (h : Valid xs) : Valid (foat xs) := h.perm (foat_perm xs)
theorem fbac_valid {xs : List Int} (h : Valid xs) : Valid (fbac xs) := h.perm (by
  have := foat_perm (fbac xs)
  rw [foat_fbac] at this
  exact this.symm)
theorem foat_last (xs : List Int) (h : 0 < xs.length) : el (foat xs) (xs.length - 1) = el xs (xs.length - 1) := by
  obtain ⟨m, hm⟩ : ∃ m, xs.length = m + 1 := ⟨xs.length - 1, by omega⟩
  rw [foat, hm, foP]
  have := el_app_last (turnB (foP xs m) (el xs m)) (el xs m)
  rw [turnB_len, foP_len] at this
  exact this

/-- Foata's map, reckoned fast. -/
def laF (x : Int) : List Int → Bool → Bool
  | [], b => b
  | y :: v, _ => laF x v (ltb y x)
def foF : List Int → List Int → List Int
  | [], v => v
  | x :: xs, v => foF xs (tbF (laF x v false) x v [] ++ [x])
theorem laF_eq (x : Int) (v : List Int) (b : Bool) : laF x v b = if v.length = 0 then b else lowOf v x := by
  induction v generalizing b with
  | nil => simp [laF]
  | cons y v ih =>
    rw [laF, ih, if_neg (show ¬ (y :: v).length = 0 by simp)]
    cases v with
    | nil => simp [lowOf, el, ltb_eq]
    | cons z v =>
      rw [if_neg (show ¬ (z :: v).length = 0 by simp)]
      have : el (y :: z :: v) ((y :: z :: v).length - 1) = el (z :: v) ((z :: v).length - 1) := by
        rw [show (y :: z :: v).length - 1 = ((z :: v).length - 1) + 1 by simp, el_cons]
      rw [lowOf, lowOf, this]
      simp
theorem laF_low (x : Int) (v : List Int) : laF x v false = lowOf v x := by
  rw [laF_eq]
  split
  · rename_i h
    obtain rfl := List.eq_nil_of_length_eq_zero h
    rfl
  · rfl
theorem foF_drop (xs : List Int) : ∀ d k, k + d = xs.length → foF (xs.drop k) (foP xs k) = foat xs := by
  intro d
  induction d with
  | zero => intro k hk; rw [List.drop_eq_nil_of_le (by omega), foF, foat, show k = xs.length by omega]
  | succ d ih =>
    intro k hk
    rw [drop_cons (by omega), foF, laF_low, ← turnB_F]
    exact ih (k + 1) (by omega)
theorem foF_eq (xs : List Int) : foF xs [] = foat xs := foF_drop xs xs.length 0 (by omega)

/-- Does the number v + 1 stand ahead of v? -/
def befF (v : Int) : List Int → Bool
  | [] => false
  | y :: xs => match eqb y v with
    | true => false
    | false => match eqb y (v + 1) with
      | true => true
      | false => befF v xs
theorem befF_idx (v : Int) (xs : List Int) : ∀ i j, i < xs.length → j < xs.length → el xs i = v → el xs j = v + 1 → (∀ k, k < xs.length → el xs k = v → k = i) → (∀ k, k < xs.length → el xs k = v + 1 → k = j) → befF v xs = decide (j < i) := by
  induction xs with
  | nil => intro i j hi; simp at hi
  | cons y xs ih =>
    intro i j hi hj ei ej ui uj
    rw [befF, eqb_eq, eqb_eq]
    by_cases h1 : y = v
    · have := ui 0 (by simp) (by rw [el_zero]; exact h1)
      simp only [h1, decide_true]
      rw [eq_comm, decide_eq_false_iff_not]; omega
    · by_cases h2 : y = v + 1
      · have := uj 0 (by simp) (by rw [el_zero]; exact h2)
        have h3 : i ≠ 0 := fun e => by rw [e, el_zero] at ei; exact h1 ei
        rw [decide_eq_false h1, decide_eq_true h2]
        simp only
        rw [eq_comm, decide_eq_true_iff]; omega
      · simp only [h1, h2, decide_false]
        cases i with
        | zero => rw [el_zero] at ei; exact absurd ei h1
        | succ i =>
          cases j with
          | zero => rw [el_zero] at ej; exact absurd ej h2
          | succ j =>
            rw [el_cons] at ei ej
            rw [List.length_cons] at hi hj
            rw [ih i j (by omega) (by omega) ei ej (fun k hk e => by have := ui (k + 1) (by simp; omega) (by rw [el_cons]; exact e); omega) (fun k hk e => by have := uj (k + 1) (by simp; omega) (by rw [el_cons]; exact e); omega)]
            simp
def bef2 (xs ys : List Int) : Nat → Bool
  | 0 => true
  | k + 1 => match (befF (Int.ofNat k) xs).xor (befF (Int.ofNat k) ys) with
    | true => false
    | false => bef2 xs ys k
theorem bef2_all {xs ys : List Int} {n : Nat} (h : bef2 xs ys n = true) : ∀ k, k < n → befF (k : Int) xs = befF (k : Int) ys := by
  induction n with
  | zero => intro k hk; omega
  | succ n ih =>
    rw [bef2] at h
    cases e : (befF (Int.ofNat n) xs).xor (befF (Int.ofNat n) ys)
    · rw [e] at h
      intro k hk
      by_cases e2 : k = n
      · rw [e2]
        have : befF (Int.ofNat n) xs = befF (Int.ofNat n) ys := by revert e; cases befF (Int.ofNat n) xs <;> cases befF (Int.ofNat n) ys <;> simp
        exact this
      · exact ih h k (by omega)
    · rw [e] at h; cases h
theorem bef_inv {xs : List Int} (h : Valid xs) {k : Nat} (hk : k + 1 < xs.length) : befF (k : Int) xs = decide (el (inv xs) (k + 1) < el (inv xs) k) := by
  obtain ⟨i, hi, ei, fi⟩ := inv_at h (show k < xs.length by omega)
  obtain ⟨j, hj, ej, fj⟩ := inv_at h hk
  have u : ∀ a b, a < xs.length → b < xs.length → el xs a = el xs b → a = b := fun a b ha hb e => by
    rcases Nat.lt_trichotomy a b with h1 | h1 | h1
    · exact absurd e (h.ne _ _ h1 hb)
    · exact h1
    · exact absurd e.symm (h.ne _ _ h1 ha)
  rw [befF_idx (k : Int) xs i j hi hj ei (by rw [ej]; simp) (fun a ha e => u a i ha hi (by rw [e, ei])) (fun a ha e => u a j ha hj (by rw [e, ej]; simp)), fi, fj]
  simp
theorem dsP_congr {xs ys : List Int} : ∀ k, (∀ j, j < k → decide (el xs (j + 1) < el xs j) = decide (el ys (j + 1) < el ys j)) → dsP xs k = dsP ys k := by
  intro k
  induction k with
  | zero => intro _; rfl
  | succ k ih =>
    intro h
    have h1 := h k (by omega)
    rw [decide_eq_decide] at h1
    rw [dsP, dsP, ih (fun j hj => h j (by omega))]
    by_cases e : el xs (k + 1) < el xs k
    · rw [if_pos e, if_pos (h1.1 e)]
    · rw [if_neg e, if_neg (fun e2 => e (h1.2 e2))]

end Go.Proofs.YtaceiebmgnhdgaaGreatDoor

/- The order of a table: the values that are left, in their order. No condition. -/
namespace Go.Proofs.YtaceiebmgnhdgaaGreatDoor

/-- The values that are left behind the first k places. -/
def leP (ts : List Int) : Nat → List Int
  | 0 => rise ts.length
  | k + 1 => (leP ts k).eraseIdx (el ts k).toNat
def ordT (ts : List Int) : List Int := (List.range ts.length).map fun k => el (leP ts k) (el ts k).toNat

theorem rise_pw (n : Nat) : (rise n).Pairwise (· < ·) := by
  rw [rise, List.pairwise_map]
  exact List.pairwise_lt_range.imp (fun h => by omega)
theorem rise_mem {n : Nat} {x : Int} : x ∈ rise n ↔ 0 ≤ x ∧ x < n := by
  rw [rise, List.mem_map]
  constructor
  · rintro ⟨k, hk, rfl⟩
    have := List.mem_range.1 hk
    omega
  · rintro ⟨h1, h2⟩
    exact ⟨x.toNat, List.mem_range.2 (by omega), by omega⟩
theorem leP_sub (ts : List Int) (k : Nat) : (leP ts k).Sublist (rise ts.length) := by
  induction k with
  | zero => exact List.Sublist.refl _
  | succ k ih => exact (List.eraseIdx_sublist _ _).trans ih
theorem leP_pw (ts : List Int) (k : Nat) : (leP ts k).Pairwise (· < ·) := (rise_pw _).sublist (leP_sub ts k)
theorem leP_mem {ts : List Int} {k : Nat} {x : Int} (h : x ∈ leP ts k) : 0 ≤ x ∧ x < ts.length := rise_mem.1 ((leP_sub ts k).subset h)
theorem vt_nat {ts : List Int} (h : VT ts) {k : Nat} (hk : k < ts.length) : ((el ts k).toNat : Int) = el ts k ∧ (el ts k).toNat + k < ts.length := by
  have h1 := h.lo k hk
  have h2 := h.hi k hk
  omega
theorem leP_len {ts : List Int} (h : VT ts) : ∀ k, k ≤ ts.length → (leP ts k).length = ts.length - k := by
  intro k
  induction k with
  | zero => intro _; simp [leP, rise_len]
  | succ k ih =>
    intro hk
    have h1 := ih (by omega)
    have h2 := vt_nat h (k := k) (by omega)
    rw [leP, List.length_eraseIdx, if_pos (by omega), h1]
    omega

/-- How many numbers of a list are less than x. -/
def less (L : List Int) (x : Int) : Nat := L.countP fun y => decide (y < x)
theorem less_succ (L : List Int) (x : Int) : less L (x + 1) = less L x + L.count x := by
  induction L with
  | nil => rfl
  | cons a l ih =>
    unfold less at *
    rw [List.countP_cons, List.countP_cons, ih, List.count_cons]
    by_cases h1 : a < x
    · have h2 : a < x + 1 := by omega
      have h3 : ¬ a = x := by omega
      simp [h1, h2, h3]; omega
    · by_cases h3 : a = x
      · subst h3
        have h2 : a < a + 1 := by omega
        simp [h2]; omega
      · have h2 : ¬ a < x + 1 := by omega
        simp [h1, h2, h3]
theorem erase_perm {L : List Int} {i : Nat} (hi : i < L.length) : (L[i] :: L.eraseIdx i).Perm L := by
  have e : L = L.take i ++ L[i] :: L.drop (i + 1) := by
    rw [← List.drop_eq_getElem_cons hi, List.take_append_drop]
  have h := (List.perm_middle (a := L[i]) (l₁ := L.take i) (l₂ := L.drop (i + 1))).symm
  rw [← e, ← List.eraseIdx_eq_take_drop_succ] at h
  exact h
theorem pw_nodup {L : List Int} (h : L.Pairwise (· < ·)) : L.Nodup := h.imp (fun h => by omega)
theorem less_in {L : List Int} (h : L.Pairwise (· < ·)) {x : Int} (hx : x ∈ L) : less L (x + 1) = less L x + 1 := by
  rw [less_succ, List.Nodup.count (pw_nodup h), if_pos hx]
theorem less_out {L : List Int} {x : Int} (hx : x ∉ L) : less L (x + 1) = less L x := by
  rw [less_succ, List.count_eq_zero_of_not_mem hx]; rfl
theorem less_none {L : List Int} {x : Int} (h : ∀ y ∈ L, x ≤ y) : less L x = 0 := by
  rw [less, List.countP_eq_zero]
  intro y hy
  have := h y hy
  simp; omega
theorem less_all {L : List Int} {x : Int} (h : ∀ y ∈ L, y < x) : less L x = L.length := by
  rw [less, List.countP_eq_length]
  intro y hy
  simpa using h y hy
theorem less_at {L : List Int} (h : L.Pairwise (· < ·)) : ∀ i, i < L.length → less L (el L i) = i := by
  induction L with
  | nil => intro i hi; simp at hi
  | cons a l ih =>
    intro i hi
    rw [List.pairwise_cons] at h
    cases i with
    | zero =>
      refine less_none (fun y hy => ?_)
      have e : el (a :: l) 0 = a := rfl
      rw [e]
      rcases List.mem_cons.1 hy with rfl | hy
      · omega
      · have := h.1 y hy; omega
    | succ i =>
      have e : el (a :: l) (i + 1) = el l i := by simp [el]
      have hi' : i < l.length := by simpa using hi
      have ha := h.1 (el l i) (el_mem hi')
      rw [e]
      have := ih h.2 i hi'
      unfold less at *
      rw [List.countP_cons, this]
      simp [ha]
theorem less_find {L : List Int} (h : L.Pairwise (· < ·)) {x : Int} (hx : x ∈ L) : less L x < L.length ∧ el L (less L x) = x := by
  obtain ⟨i, hi, rfl⟩ := List.mem_iff_getElem.1 hx
  have e : el L i = L[i] := el_lt hi
  have := less_at h i hi
  rw [e] at this
  rw [this]
  exact ⟨hi, e⟩
theorem less_perm {L M : List Int} (h : L.Perm M) (x : Int) : less L x = less M x := h.countP_eq _
theorem erase_mem {L : List Int} (h : L.Nodup) {i : Nat} (hi : i < L.length) {y : Int} : y ∈ L.eraseIdx i ↔ y ∈ L ∧ y ≠ el L i := by
  have hp : (el L i :: L.eraseIdx i).Perm L := by rw [el_lt hi]; exact erase_perm hi
  have hn : (el L i :: L.eraseIdx i).Nodup := hp.nodup_iff.2 h
  rw [List.nodup_cons] at hn
  rw [← hp.mem_iff, List.mem_cons]
  constructor
  · intro hy
    exact ⟨Or.inr hy, fun e => hn.1 (e ▸ hy)⟩
  · rintro ⟨h1, h2⟩
    exact h1.resolve_left h2

theorem ordT_len (ts : List Int) : (ordT ts).length = ts.length := by simp [ordT]
theorem el_ordT {ts : List Int} {k : Nat} (h : k < ts.length) : el (ordT ts) k = el (leP ts k) (el ts k).toNat := by rw [ordT, el_map h]

theorem drop_el {xs : List Int} {k : Nat} (h : k < xs.length) : xs.drop k = el xs k :: xs.drop (k + 1) := by
  rw [List.drop_eq_getElem_cons h, el_lt h]
theorem leP_step {ts : List Int} (h : VT ts) {k : Nat} (hk : k < ts.length) : (el (ordT ts) k :: leP ts (k + 1)).Perm (leP ts k) := by
  have h1 := vt_nat h hk
  have h2 := leP_len h k (by omega)
  rw [el_ordT hk, leP, el_lt (by omega)]
  exact erase_perm _
theorem ordT_drop {ts : List Int} (h : VT ts) : ∀ m, m ≤ ts.length → ((ordT ts).drop (ts.length - m)).Perm (leP ts (ts.length - m)) := by
  intro m
  induction m with
  | zero =>
    intro _
    have h1 := leP_len h ts.length (Nat.le_refl _)
    have h2 : leP ts ts.length = [] := List.eq_nil_of_length_eq_zero (by omega)
    rw [Nat.sub_zero, h2, List.drop_eq_nil_of_le (by rw [ordT_len]; omega)]
  | succ m ih =>
    intro hm
    have hk : ts.length - (m + 1) < ts.length := by omega
    have e : ts.length - (m + 1) + 1 = ts.length - m := by omega
    rw [drop_el (by rw [ordT_len]; omega), e]
    have := leP_step h hk
    rw [e] at this
    exact ((ih (by omega)).cons _).trans this
theorem ordT_perm {ts : List Int} (h : VT ts) {k : Nat} (hk : k ≤ ts.length) : ((ordT ts).drop k).Perm (leP ts k) := by
  have := ordT_drop h (ts.length - k) (by omega)
  rwa [show ts.length - (ts.length - k) = k by omega] at this

/-- How many of the numbers behind place k are less: as the table has it. -/
theorem cnt_less (xs : List Int) (x : Int) (b : Nat) : ∀ t, b + t ≤ xs.length → cntP (fun j => decide (el xs (b + j) < x)) t = less ((xs.drop b).take t) x := by
  intro t
  induction t with
  | zero => intro _; simp [cntP, less]
  | succ t ih =>
    intro ht
    have e : (xs.drop b).take (t + 1) = (xs.drop b).take t ++ [el xs (b + t)] := by
      rw [take_el (by simp; omega)]
      congr 1
      simp [el]
    rw [cntP, ih (by omega), e, less, less, List.countP_append, List.countP_singleton]
    split <;> simp
theorem lb_less {xs : List Int} {k : Nat} (hk : k < xs.length) : lb xs k = less (xs.drop (k + 1)) (el xs k) := by
  rw [lb, lbP, cnt_less xs (el xs k) (k + 1) (xs.length - 1 - k) (by omega), List.take_of_length_le (by simp; omega)]

theorem table_ordT {ts : List Int} (h : VT ts) : table (ordT ts) = ts := by
  refine ext_el (by rw [table_len, ordT_len]) (fun k hk => ?_)
  rw [table_len, ordT_len] at hk
  have h1 := vt_nat h hk
  have h2 := leP_len h k (by omega)
  have hlt : (el ts k).toNat < (leP ts k).length := by omega
  rw [el_table (by rw [ordT_len]; exact hk), lb_less (by rw [ordT_len]; exact hk), less_perm (ordT_perm h (by omega)) _]
  have e1 := less_perm (leP_step h hk) (el (ordT ts) k)
  have e2 : less (el (ordT ts) k :: leP ts (k + 1)) (el (ordT ts) k) = less (leP ts (k + 1)) (el (ordT ts) k) := by
    unfold less
    rw [List.countP_cons]
    simp
  rw [e2] at e1
  rw [e1, el_ordT hk, less_at (leP_pw ts k) _ hlt]
  exact h1.1

theorem ordT_valid {ts : List Int} (h : VT ts) : Valid (ordT ts) := by
  have hp := ordT_perm h (Nat.zero_le _)
  rw [List.drop_zero] at hp
  have hl := ordT_len ts
  have hn : (ordT ts).Nodup := hp.nodup_iff.2 (pw_nodup (rise_pw _))
  have hm : ∀ j, j < (ordT ts).length → 0 ≤ el (ordT ts) j ∧ el (ordT ts) j < ts.length := fun j hj => rise_mem.1 (hp.mem_iff.1 (el_mem hj))
  refine ⟨by rw [hl]; exact h.len, fun j hj => (hm j hj).1, fun j hj => by rw [hl]; exact (hm j hj).2, fun i j hij hj e => ?_⟩
  rw [el_lt (by omega), el_lt hj] at e
  have := (List.nodup_iff_pairwise_ne.1 hn)
  rw [List.pairwise_iff_getElem] at this
  exact this i j (by omega) hj hij e

theorem table_vt {xs : List Int} (h : Valid xs) : VT (table xs) := by
  refine ⟨by rw [table_len]; exact h.len, fun j hj => ?_, fun j hj => ?_⟩
  · exact (table_bd xs j hj).1
  · rw [table_len] at hj ⊢
    rw [el_table hj]
    have := lbP_bd xs j (xs.length - 1 - j)
    unfold lb
    omega

theorem valid_perm {xs : List Int} (h : Valid xs) : xs.Perm (rise xs.length) := by
  refine (List.perm_ext_iff_of_nodup h.nodup (pw_nodup (rise_pw _))).2 (fun x => ?_)
  rw [rise_mem]
  constructor
  · intro hx; exact h.mem hx
  · rintro ⟨h0, h1⟩
    obtain ⟨j, hj, e⟩ := h.place (v := x.toNat) (by omega)
    have e2 : el xs j = x := by omega
    exact e2 ▸ el_mem hj

theorem leP_table {xs : List Int} (h : Valid xs) : ∀ k, k ≤ xs.length → (leP (table xs) k).Perm (xs.drop k) ∧ ∀ j, j < k → el (leP (table xs) j) (el (table xs) j).toNat = el xs j := by
  intro k
  induction k with
  | zero =>
    intro _
    refine ⟨?_, fun j hj => by omega⟩
    rw [leP, table_len, List.drop_zero]
    exact (valid_perm h).symm
  | succ k ih =>
    intro hk
    obtain ⟨hp, hj⟩ := ih (by omega)
    have hx : el xs k ∈ leP (table xs) k := hp.mem_iff.2 (by rw [drop_el (by omega)]; simp)
    have e : less (leP (table xs) k) (el xs k) = (el (table xs) k).toNat := by
      rw [less_perm hp, drop_el (by omega), el_table (by omega), lb_less (by omega)]
      unfold less
      rw [List.countP_cons]
      simp
    have hf := less_find (leP_pw (table xs) k) hx
    rw [e] at hf
    refine ⟨?_, fun j hjk => ?_⟩
    · rw [leP]
      have h1 : (el xs k :: (leP (table xs) k).eraseIdx (el (table xs) k).toNat).Perm (leP (table xs) k) := by
        have := erase_perm hf.1
        rwa [← el_lt hf.1, hf.2] at this
      have h2 := h1.trans hp
      rw [drop_el (xs := xs) (k := k) (by omega)] at h2
      exact (List.perm_cons _).1 h2
    · by_cases e2 : j = k
      · rw [e2]; exact hf.2
      · exact hj j (by omega)
theorem ordT_table {xs : List Int} (h : Valid xs) : ordT (table xs) = xs := by
  refine ext_el (by rw [ordT_len, table_len]) (fun k hk => ?_)
  rw [ordT_len, table_len] at hk
  rw [el_ordT (by rw [table_len]; exact hk)]
  exact (leP_table h xs.length (Nat.le_refl _)).2 k hk

end Go.Proofs.YtaceiebmgnhdgaaGreatDoor

/- A greater value put into an order, values taken out, and what values add to the major index. No condition. -/
namespace Go.Proofs.YtaceiebmgnhdgaaGreatDoor

theorem cntP_ext {p q : Nat → Bool} : ∀ k, (∀ j, j < k → p j = q j) → cntP p k = cntP q k := by
  intro k
  induction k with
  | zero => intro _; rfl
  | succ k ih => intro h; rw [cntP, cntP, h k (by omega), ih (fun j hj => h j (by omega))]

/-- The number v at place k. -/
def ins (xs : List Int) (v : Int) (k : Nat) : List Int := xs.take k ++ [v] ++ xs.drop k
def insT (xs : List Int) (k : Nat) : List Int := ins xs (xs.length : Int) k
theorem ins_len (xs : List Int) (v : Int) {k : Nat} (hk : k ≤ xs.length) : (ins xs v k).length = xs.length + 1 := by
  simp [ins]; omega
theorem insT_len (xs : List Int) {k : Nat} (hk : k ≤ xs.length) : (insT xs k).length = xs.length + 1 := ins_len xs _ hk
theorem el_ins (xs : List Int) (v : Int) {k : Nat} (hk : k ≤ xs.length) : el (ins xs v k) k = v := by
  have : (xs.take k).length = k := by simp; omega
  rw [ins, el, List.append_assoc, List.getD_eq_getElem?_getD, List.getElem?_append_right (by omega), this, Nat.sub_self]
  rfl
theorem ins_perm (xs : List Int) (v : Int) (k : Nat) : (ins xs v k).Perm (v :: xs) := by
  rw [ins, List.append_assoc, List.singleton_append]
  exact List.perm_middle.trans (by rw [List.take_append_drop])
theorem insT_valid {xs : List Int} (h : Valid xs) (hl : xs.length < 7) {k : Nat} (hk : k ≤ xs.length) : Valid (insT xs k) := by
  have hp := ins_perm xs (xs.length : Int) k
  have hm : ∀ j, j < (insT xs k).length → 0 ≤ el (insT xs k) j ∧ el (insT xs k) j < (insT xs k).length := fun j hj => by
    have h1 := hp.subset (el_mem hj)
    rw [insT_len xs hk]
    rcases List.mem_cons.1 h1 with h2 | h2
    · rw [show el (insT xs k) j = (xs.length : Int) from h2]; omega
    · have h3 := h.mem h2
      have h4 : el (insT xs k) j = el (ins xs (xs.length : Int) k) j := rfl
      omega
  refine ⟨by rw [insT_len xs hk]; omega, fun j hj => (hm j hj).1, fun j hj => (hm j hj).2, fun i j hij hj => ?_⟩
  have hn : (insT xs k).Nodup := (hp.nodup_iff).2 (List.nodup_cons.2 ⟨fun e => by have := h.mem e; omega, h.nodup⟩)
  rw [List.nodup_iff_pairwise_ne, List.pairwise_iff_getElem] at hn
  have := hn i j (by omega) hj hij
  rwa [← el_lt, ← el_lt] at this

/-- Without the value at place k. -/
def rm (xs : List Int) (k : Nat) : List Int := xs.take k ++ xs.drop (k + 1)
def dn (v y : Int) : Int := if v < y then y - 1 else y
def rmv (xs : List Int) (k : Nat) : List Int := (rm xs k).map (dn (el xs k))
theorem rm_len (xs : List Int) {k : Nat} (hk : k < xs.length) : (rm xs k).length = xs.length - 1 := by simp [rm]; omega
theorem rmv_len (xs : List Int) {k : Nat} (hk : k < xs.length) : (rmv xs k).length = xs.length - 1 := by rw [rmv, List.length_map, rm_len xs hk]
theorem rm_split (xs : List Int) {k : Nat} (hk : k < xs.length) : xs = xs.take k ++ el xs k :: xs.drop (k + 1) := by
  rw [← drop_cons hk, List.take_append_drop]
theorem rm_perm (xs : List Int) {k : Nat} (hk : k < xs.length) : (el xs k :: rm xs k).Perm xs := by
  conv => rhs; rw [rm_split xs hk]
  exact List.perm_middle.symm
theorem rm_mem {xs : List Int} (h : Valid xs) {k : Nat} (hk : k < xs.length) : (rm xs k).Nodup ∧ ∀ y ∈ rm xs k, 0 ≤ y ∧ y < xs.length ∧ y ≠ el xs k := by
  have hn := ((rm_perm xs hk).nodup_iff).2 h.nodup
  rw [List.nodup_cons] at hn
  refine ⟨hn.2, fun y hy => ?_⟩
  have h1 := h.mem ((rm_perm xs hk).subset (List.mem_cons_of_mem _ hy))
  exact ⟨h1.1, h1.2, fun e => hn.1 (e ▸ hy)⟩
theorem el_val {xs : List Int} (h : Valid xs) {k : Nat} (hk : k < xs.length) : 0 ≤ el xs k ∧ el xs k < xs.length := ⟨h.lo k hk, h.hi k hk⟩
theorem rmv_valid {xs : List Int} (h : Valid xs) {k : Nat} (hk : k < xs.length) : Valid (rmv xs k) := by
  obtain ⟨hn, hm⟩ := rm_mem h hk
  have hv := el_val h hk
  have hl := h.len
  have he : ∀ j, j < (rmv xs k).length → el (rmv xs k) j = dn (el xs k) (el (rm xs k) j) ∧ el (rm xs k) j ∈ rm xs k := fun j hj => by
    have hj2 : j < (rm xs k).length := by rw [rmv, List.length_map] at hj; exact hj
    refine ⟨?_, el_mem hj2⟩
    rw [el_lt hj, el_lt hj2]; simp [rmv]
  refine ⟨by rw [rmv_len xs hk]; omega, fun j hj => ?_, fun j hj => ?_, fun i j hij hj => ?_⟩
  · obtain ⟨e, hy⟩ := he j hj
    have := hm _ hy
    rw [e, dn]; split <;> omega
  · obtain ⟨e, hy⟩ := he j hj
    have := hm _ hy
    rw [e, dn, rmv_len xs hk]; split <;> omega
  · obtain ⟨e, hy⟩ := he j hj
    obtain ⟨e2, hy2⟩ := he i (by omega)
    have h1 := hm _ hy
    have h2 := hm _ hy2
    have hj2 : j < (rm xs k).length := by rw [rmv, List.length_map] at hj; exact hj
    rw [List.nodup_iff_pairwise_ne, List.pairwise_iff_getElem] at hn
    have h3 := hn i j (by omega) hj2 hij
    rw [← el_lt (by omega), ← el_lt hj2] at h3
    rw [e, e2, dn, dn]
    split <;> split <;> omega

/-- For each number how many lesser ones, or equal ones ahead, there are. -/
def rkF (zs : List Int) (i k : Nat) : Bool := decide (el zs k < el zs i) || (decide (el zs k = el zs i) && decide (k < i))
def rkA (zs : List Int) : List Int := (List.range zs.length).map fun i => cntP (rkF zs i) zs.length
theorem cnt_rise (n : Nat) (y : Nat) (hy : y ≤ n) : (rise n).countP (fun z => decide (z < (y : Int))) = y := by
  induction n with
  | zero => obtain rfl : y = 0 := by omega
            rfl
  | succ n ih =>
    rw [rise_succ, List.countP_append, List.countP_singleton]
    by_cases e : y = n + 1
    · subst e
      rw [if_pos (by simp; omega)]
      have : (rise n).countP (fun z => decide (z < ((n + 1 : Nat) : Int))) = (rise n).length := by
        rw [List.countP_eq_length]
        intro z hz
        simp only [rise, List.mem_map, List.mem_range] at hz
        obtain ⟨a, ha, rfl⟩ := hz
        simp; omega
      rw [this, rise_len]
    · rw [ih (by omega), if_neg (by simp; omega)]; omega
theorem valid_cnt {xs : List Int} (h : Valid xs) {y : Nat} (hy : y ≤ xs.length) : xs.countP (fun z => decide (z < (y : Int))) = y := by
  rw [(valid_perm h).countP_eq, cnt_rise _ _ hy]
theorem rkA_rm {xs : List Int} (h : Valid xs) {k : Nat} (hk : k < xs.length) : rkA (rm xs k) = rmv xs k := by
  obtain ⟨hn, hm⟩ := rm_mem h hk
  refine ext_el (by rw [rkA, map_range_len, rmv, List.length_map]) (fun j hj => ?_)
  rw [rkA, map_range_len] at hj
  have hy := hm _ (el_mem hj)
  have e1 : el (rmv xs k) j = dn (el xs k) (el (rm xs k) j) := by
    rw [el_lt (by rw [rmv, List.length_map]; exact hj), el_lt hj]; simp [rmv]
  rw [rkA, el_map hj, e1]
  have e2 : cntP (rkF (rm xs k) j) (rm xs k).length = cntP (fun t => (fun z => decide (z < el (rm xs k) j)) (el (rm xs k) t)) (rm xs k).length := by
    refine cntP_ext _ (fun t ht => ?_)
    rw [rkF]
    by_cases e : t < j
    · rw [List.nodup_iff_pairwise_ne, List.pairwise_iff_getElem] at hn
      have h3 := hn t j (by omega) hj e
      rw [← el_lt (by omega), ← el_lt hj] at h3
      simp [h3]
    · simp [e]
  rw [e2, cntP_countP (rm xs k) (fun z => decide (z < el (rm xs k) j))]
  obtain ⟨y, hy2⟩ := Int.eq_ofNat_of_zero_le hy.1
  have hv := el_val h hk
  have e3 := (rm_perm xs hk).countP_eq (fun z => decide (z < (y : Int)))
  rw [valid_cnt h (by omega), List.countP_cons] at e3
  rw [hy2, dn]
  by_cases e4 : el xs k < (y : Int)
  · rw [if_pos (by simpa using e4)] at e3
    rw [if_pos e4]; omega
  · rw [if_neg (by simpa using e4)] at e3
    rw [if_neg e4]; omega

/-- The numbers below x. -/
def blw (xs : List Int) (x : Int) : List Int := xs.filter fun y => decide (y < x)
theorem blw_len (xs : List Int) (x : Int) : (blw xs x).length ≤ xs.length := List.length_filter_le _ _
theorem blw_take {xs : List Int} {k : Nat} (hk : k < xs.length) (x : Int) : blw (xs.take (k + 1)) x = blw (xs.take k) x ++ if el xs k < x then [el xs k] else [] := by
  rw [take_el hk, blw, List.filter_append, List.filter_cons, List.filter_nil]
  by_cases e : el xs k < x
  · simp [e, blw]
  · simp [e, blw]
theorem blw_all {xs : List Int} {x : Int} (h : ∀ y ∈ xs, y < x) : blw xs x = xs := by
  rw [blw, List.filter_eq_self]; intro y hy; simpa using h y hy
theorem blw_length {xs : List Int} (h : Valid xs) {x : Nat} (hx : x ≤ xs.length) : (blw xs x).length = x := by
  rw [blw, ← List.countP_eq_length_filter, valid_cnt h hx]
theorem blw_valid {xs : List Int} (h : Valid xs) {x : Nat} (hx : x ≤ xs.length) : Valid (blw xs x) := by
  have hl := blw_length h hx
  have hm : ∀ y ∈ blw xs (x : Int), 0 ≤ y ∧ y < x := fun y hy => by
    rw [blw, List.mem_filter] at hy
    have := h.mem hy.1
    have h2 := hy.2
    simp at h2; omega
  refine ⟨by rw [hl]; have := h.len; omega, fun j hj => (hm _ (el_mem hj)).1, fun j hj => by rw [hl]; exact (hm _ (el_mem hj)).2, fun i j hij hj => ?_⟩
  have hn : (blw xs (x : Int)).Nodup := h.nodup.filter _
  rw [List.nodup_iff_pairwise_ne, List.pairwise_iff_getElem] at hn
  have := hn i j (by omega) hj hij
  rwa [← el_lt, ← el_lt] at this
/-- What x adds: blw one more is the greater value put in somewhere. -/
theorem blw_ins {xs : List Int} (h : Valid xs) {x : Nat} (hx : x < xs.length) : ∃ k, k ≤ x ∧ blw xs ((x + 1 : Nat) : Int) = insT (blw xs x) k := by
  obtain ⟨p, hp, ep, _⟩ := inv_at h hx
  have hl := blw_length h (show x ≤ xs.length by omega)
  have hn := h.nodup
  rw [rm_split xs hp, ep] at hn
  have hm : ∀ y ∈ rm xs p, y ≠ (x : Int) := fun y hy => by have := ((rm_mem h hp).2 y hy).2.2; rwa [ep] at this
  have key : ∀ L : List Int, (∀ y ∈ L, y ≠ (x : Int)) → blw L ((x + 1 : Nat) : Int) = blw L x := fun L hL => by
    refine List.filter_congr (fun y hy => ?_)
    have := hL y hy
    rw [decide_eq_decide]; omega
  have h1 := key (xs.take p) (fun y hy => hm y (by rw [rm]; simp [hy]))
  have h2 := key (xs.drop (p + 1)) (fun y hy => hm y (by rw [rm]; simp [hy]))
  have e1 : blw xs (x : Int) = blw (xs.take p) x ++ blw (xs.drop (p + 1)) x := by
    conv => lhs; rw [rm_split xs hp, ep]
    rw [blw, List.filter_append, List.filter_cons, if_neg (by simp)]; rfl
  have e2 : blw xs ((x + 1 : Nat) : Int) = blw (xs.take p) x ++ [(x : Int)] ++ blw (xs.drop (p + 1)) x := by
    conv => lhs; rw [rm_split xs hp, ep]
    rw [← h1, ← h2, blw, List.filter_append, List.filter_cons, if_pos (by simp; omega)]; simp [blw]
  refine ⟨(blw (xs.take p) (x : Int)).length, ?_, ?_⟩
  · rw [e1, List.length_append] at hl; omega
  · rw [insT, hl, ins, e2, e1]
    congr 1
    · rw [List.take_left]
    · rw [List.drop_left]
theorem blw_insT {xs : List Int} {k x : Nat} (hx : x ≤ xs.length) : blw (insT xs k) x = blw xs x := by
  rw [insT, ins, blw, List.filter_append, List.filter_append, List.filter_cons, if_neg (by simp; omega), List.filter_nil, List.append_nil, ← List.filter_append, List.take_append_drop]; rfl

/-- What each value adds to the major index. -/
def mtv (xs : List Int) (x : Nat) : Int := major (blw xs ((x + 1 : Nat) : Int)) - major (blw xs x)
def mtab (xs : List Int) : List Int := (List.range xs.length).map (mtv xs)
theorem mtab_len (xs : List Int) : (mtab xs).length = xs.length := map_range_len _
theorem major_nil : major [] = 0 := rfl
theorem mtab_sum (xs : List Int) : ∀ k, k ≤ xs.length → sumTo (mtab xs) k = major (blw xs k) - major (blw xs 0) := by
  intro k
  induction k with
  | zero => intro _; simp [sumTo]
  | succ k ih =>
    intro hk
    rw [sumTo, ih (by omega), mtab, el_map (by omega), mtv]; omega
theorem mtab_total {xs : List Int} (h : Valid xs) : sumL (mtab xs) = major xs := by
  have e0 := blw_length h (Nat.zero_le _)
  rw [sumL, mtab_len, mtab_sum xs _ (Nat.le_refl _), show blw xs 0 = [] from List.eq_nil_of_length_eq_zero e0, blw_all (fun y hy => (h.mem hy).2), major_nil]; omega

end Go.Proofs.YtaceiebmgnhdgaaGreatDoor

/- Words for what the walks say of memory: a slice of numbers that is read, a slice that a call has made, and how both fare in later worlds. No condition. -/
namespace Go.Proofs.YtaceiebmgnhdgaaGreatDoor
open Go.RowKit

/-- The slice value with address ao, length n and capacity cap reads as the numbers xs. -/
structure Sl (w : World) (ao : Option Addr) (n cap : Nat) (xs : List Int) : Prop where
  len : xs.length = n
  le : n ≤ cap
  max : cap ≤ maxLen
  row : 0 < n → ∃ b off, ao = some ⟨b, off, none⟩ ∧ b < w.heap.size ∧ ∀ j, j < n → w.cell? ⟨b, off + j, none⟩ = some (.int .i64 (el xs j))

/-- What a call has made: the slice value u owns the numbers ys, in a block from B on. -/
def Own (w : World) (B : Nat) (u : Value) (ys : List Int) : Prop := w.ownsRow B 3 1 u ys.length (ys.map (Value.int .i64))

/-- The same with its place known: block g, length n, capacity cap. -/
def OwS (w : World) (B g n cap : Nat) (ys : List Int) : Prop := w.ownsRow B 3 1 (.slice (some ⟨g, 0, none⟩) n cap) n (ys.map (Value.int .i64))

theorem OwS.len {w : World} {B g n cap : Nat} {ys : List Int} (h : OwS w B g n cap ys) : ys.length = n := by
  have := h.1
  simpa using this

theorem OwS.own {w : World} {B g n cap : Nat} {ys : List Int} (h : OwS w B g n cap ys) : Own w B (.slice (some ⟨g, 0, none⟩) n cap) ys := by
  have := h.len
  subst this
  exact h

theorem OwS.cell {w : World} {B g n cap : Nat} {ys : List Int} (h : OwS w B g n cap ys) {j : Nat} (hj : j < n) : w.cell? ⟨g, j, none⟩ = some (.int .i64 (el ys j)) := by
  have h1 := World.ownsRow.cellAt h j (by omega)
  rw [h1]
  have := h.len
  simp [el, show j < ys.length by omega]

theorem OwS.frozen {w : World} {B g n cap : Nat} {ys : List Int} (h : OwS w B g n cap ys) (j : Nat) : w.frozen? ⟨g, j, none⟩ = false := World.ownsRow.frozenAt h j

theorem OwS.set {w : World} {B g n cap : Nat} {ys : List Int} (h : OwS w B g n cap ys) (j : Nat) (v : Int) : OwS (w.setCell ⟨g, j, none⟩ (.int .i64 v)) B g n cap (ys.set j v) := by
  have := (World.ownsRow.stored h j (.int .i64 v)).1
  rwa [← List.map_set] at this

theorem OwS.lt {w : World} {B g n cap : Nat} {ys : List Int} (h : OwS w B g n cap ys) : B ≤ g ∧ g < w.heap.size := World.ownsRow.lt h g rfl

theorem OwS.sl {w : World} {B g n cap : Nat} {ys : List Int} (h : OwS w B g n cap ys) : Sl w (some ⟨g, 0, none⟩) n cap ys := by
  have h0 := h
  rcases h.2 with ⟨h1, _⟩ | ⟨g', cap', cur, hv, hB, hg, h1, h2, h3, h4⟩
  · simp at h1
  · simp only [Value.slice.injEq, Option.some.injEq, Addr.mk.injEq, and_true, true_and] at hv
    obtain ⟨rfl, rfl⟩ := hv
    exact ⟨h.len, h1, h2, fun _ => ⟨g, 0, rfl, h0.lt.2, fun j hj => by rw [Nat.zero_add]; exact h0.cell hj⟩⟩

theorem OwS.drewN {w : World} {B g n cap : Nat} {ys : List Int} (h : OwS w B g n cap ys) (m : Nat) : OwS (w.drewN m) B g n cap ys := h

/-- A store into another block. -/
theorem OwS.other {w : World} {B g n cap : Nat} {ys : List Int} (h : OwS w B g n cap ys) {a : Addr} (ha : a.block ≠ g) (v : Value) : OwS (w.setCell a v) B g n cap ys := by
  refine ⟨h.1, ?_⟩
  rcases h.2 with ⟨h1, _⟩ | ⟨g', cap', cur, hv, hB, hg, r⟩
  · simp at h1
  · have : g' = g := by simp at hv; omega
    subst this
    exact Or.inr ⟨g', cap', cur, hv, hB, by rw [Below.heap_setCell _ _ _ _ (by omega)]; exact hg, r⟩

theorem Sl.later {w w' : World} {ao : Option Addr} {n cap : Nat} {xs : List Int} (h : Sl w ao n cap xs) (hb : Below w.heap.size w w') : Sl w' ao n cap xs := by
  refine ⟨h.len, h.le, h.max, fun hn => ?_⟩
  obtain ⟨b, off, rfl, hlt, hc⟩ := h.row hn
  exact ⟨b, off, rfl, Nat.lt_of_lt_of_le hlt hb.size, fun j hj => (hb.cell hlt).trans (hc j hj)⟩

theorem Sl.below {B : Nat} {w w' : World} {ao : Option Addr} {n cap : Nat} {xs : List Int} (h : Sl w ao n cap xs) (hB : w.heap.size ≤ B) (hb : Below B w w') : Sl w' ao n cap xs := h.later (hb.mono hB)

theorem Sl.nil {w : World} : Sl w none 0 0 [] := ⟨rfl, Nat.le_refl _, Nat.zero_le _, fun h => by omega⟩

theorem Sl.big {w : World} {ao : Option Addr} {n cap : Nat} {xs : List Int} (h : Sl w ao n cap xs) : n ≤ 9223372036854775807 := by
  have := h.le
  have := h.max
  unfold maxLen at this
  omega

theorem Own.place {w : World} {B : Nat} {u : Value} {ys : List Int} (h : Own w B u ys) : (u = .slice none 0 0 ∧ ys = []) ∨ ∃ g cap, u = .slice (some ⟨g, 0, none⟩) ys.length cap ∧ OwS w B g ys.length cap ys := by
  have h0 := h
  rcases h.2 with ⟨rfl, h2⟩ | ⟨g, cap, cur, rfl, hB, hg, h1, h2, h3, h4⟩
  · exact Or.inl ⟨rfl, List.eq_nil_of_length_eq_zero h2⟩
  · exact Or.inr ⟨g, cap, rfl, h0⟩

theorem Own.sl {w : World} {B : Nat} {u : Value} {ys : List Int} (h : Own w B u ys) : ∃ ao cap, u = .slice ao ys.length cap ∧ Sl w ao ys.length cap ys := by
  rcases h.place with ⟨rfl, rfl⟩ | ⟨g, cap, rfl, h1⟩
  · exact ⟨none, 0, rfl, Sl.nil⟩
  · exact ⟨_, cap, rfl, h1.sl⟩

theorem Own.read {w : World} {B : Nat} {ao : Option Addr} {n cap : Nat} {ys : List Int} (h : Own w B (.slice ao n cap) ys) : Sl w ao n cap ys := by
  rcases h.place with ⟨e, rfl⟩ | ⟨g, cap', e, h1⟩
  · simp only [Value.slice.injEq] at e
    obtain ⟨rfl, rfl, rfl⟩ := e
    exact Sl.nil
  · simp only [Value.slice.injEq] at e
    obtain ⟨rfl, rfl, rfl⟩ := e
    exact h1.sl

theorem Own.nilcap {w : World} {B : Nat} {ao : Option Addr} {n cap : Nat} {ys : List Int} (h : Own w B (.slice ao n cap) ys) : ao = none → cap = 0 := by
  rintro rfl
  rcases h.place with ⟨e, rfl⟩ | ⟨g, cap', e, h1⟩
  · simp only [Value.slice.injEq] at e
    exact e.2.2
  · simp at e

theorem Own.below {B B' : Nat} {w w' : World} {u : Value} {ys : List Int} (h : Own w B u ys) (hB : w.heap.size ≤ B') (hb : Below B' w w') : Own w' B u ys := by
  refine ⟨h.1, ?_⟩
  rcases h.2 with h2 | ⟨g, cap, cur, hv, hg, hh, r⟩
  · exact Or.inl h2
  · exact Or.inr ⟨g, cap, cur, hv, hg, (hb.block g (Nat.lt_of_lt_of_le (Array.getElem?_eq_some_iff.1 hh).1 hB)).trans hh, r⟩

theorem Own.mono {B B' : Nat} {w : World} {u : Value} {ys : List Int} (h : Own w B u ys) (hB : B' ≤ B) : Own w B' u ys := by
  refine ⟨h.1, ?_⟩
  rcases h.2 with h2 | ⟨g, cap, cur, hv, hg, r⟩
  · exact Or.inl h2
  · exact Or.inr ⟨g, cap, cur, hv, Nat.le_trans hB hg, r⟩

theorem Own.drewN {w : World} {B : Nat} {u : Value} {ys : List Int} (h : Own w B u ys) (m : Nat) : Own (w.drewN m) B u ys := h

theorem Own.nil {w : World} {B : Nat} : Own w B (.slice none 0 0) [] := World.ownsRow_nil _ _ _ _

theorem drewN_below {B : Nat} {a w : World} (h : Below B a w) (m : Nat) : Below B a (w.drewN m) := ⟨h.os, h.tape, h.output, h.size, h.block⟩

theorem grown_trans {a b c : World} {row : Option Nat} (h : a.grownBy b row) (k : b.grownBy c row) : a.grownBy c row :=
  ⟨k.os.trans h.os, k.tape.trans h.tape, k.output.trans h.output, Nat.le_trans h.size k.size, fun i hi hr => (k.block i (Nat.lt_of_lt_of_le hi h.size) hr).trans (h.block i hi hr)⟩
theorem grown_set {w : World} {g j : Nat} {v : Value} : w.grownBy (w.setCell ⟨g, j, none⟩ v) (some g) :=
  ⟨rfl, rfl, rfl, by simp [World.setCell], fun k _ hk => Below.heap_setCell _ _ _ _ (fun e => hk (by rw [e]))⟩
theorem grown_drewN {a b : World} {row : Option Nat} (h : a.grownBy b row) (m : Nat) : a.grownBy (b.drewN m) row := ⟨h.os, h.tape, h.output, h.size, h.block⟩
theorem below_of_grown {w w' : World} {row : Option Nat} {B : Nat} (h : w.grownBy w' row) (hB : B ≤ w.heap.size) (hr : ∀ k, row = some k → B ≤ k) : Below B w w' :=
  (Below.refl B w).grown h hB hr
theorem Own.kept {w w' : World} {B : Nat} {u : Value} {ys : List Int} {row : Option Nat} (h : Own w B u ys) (hg : w.grownBy w' row) (hne : u.ownBlock = none ∨ u.ownBlock ≠ row) : Own w' B u ys := World.ownsRow.kept h hg hne
theorem Own.blocks {w : World} {B : Nat} {u : Value} {ys : List Int} (h : Own w B u ys) : ∀ k, u.ownBlock = some k → B ≤ k ∧ k < w.heap.size := World.ownsRow.lt h

/-- What two calls have made lies apart. -/
theorem Own.apart {w1 w2 : World} {B1 B2 : Nat} {u1 u2 : Value} {y1 y2 : List Int} (h1 : Own w1 B1 u1 y1) (h2 : Own w2 B2 u2 y2) (hB : w1.heap.size ≤ B2) : u1.ownBlock = none ∨ u1.ownBlock ≠ u2.ownBlock := by
  cases e : u1.ownBlock with
  | none => exact Or.inl rfl
  | some k =>
    refine Or.inr (fun e2 => ?_)
    have := (h1.blocks k e).2
    have := (h2.blocks k e2.symm).1
    omega
theorem Own.apart' {w1 w2 : World} {B1 B2 : Nat} {u1 u2 : Value} {y1 y2 : List Int} (h1 : Own w1 B1 u1 y1) (h2 : Own w2 B2 u2 y2) (hB : w2.heap.size ≤ B1) : u1.ownBlock = none ∨ u1.ownBlock ≠ u2.ownBlock := by
  cases e : u1.ownBlock with
  | none => exact Or.inl rfl
  | some k =>
    refine Or.inr (fun e2 => ?_)
    have := (h1.blocks k e).1
    have := (h2.blocks k e2.symm).2
    omega

/-- k, k + 1, .. : n numbers. -/
def marks (k : Int) (n : Nat) : List Int := (List.range n).map fun i => k + (i : Nat)
theorem marks_len (k : Int) (n : Nat) : (marks k n).length = n := by simp [marks]
theorem el_marks {k : Int} {n j : Nat} (h : j < n) : el (marks k n) j = k + j := by simp [marks, el, h]
theorem marks_ext {xs : List Int} {k : Int} {n : Nat} (h : xs.length = n) (hj : ∀ j, j < n → el xs j = k + j) : xs = marks k n :=
  ext_el (by rw [h, marks_len]) (fun j hl => by rw [hj j (by omega), el_marks (by omega)])

/-- A call made a slice of the numbers ys, and turned nothing that was there. -/
def Made (w : World) (ys : List Int) (e : Ending) (w' : World) : Prop := ∃ u, e = .returned u ∧ Own w' w.heap.size u ys ∧ Below w.heap.size w w'

/-- A call made a slice of the numbers ys, said b beside it, and turned nothing that was there. -/
def Made2 (w : World) (ys : List Int) (b : Bool) (e : Ending) (w' : World) : Prop := ∃ u, e = .returned (.tuple #[u, .bool b]) ∧ Own w' w.heap.size u ys ∧ Below w.heap.size w w'

/-- A call answered v, and turned nothing that was there. -/
def Says (w : World) (v : Value) (e : Ending) (w' : World) : Prop := e = .returned v ∧ Below w.heap.size w w'

theorem made2_yes {p : Prop} [Decidable p] {w w' : World} {ys : List Int} {u : Value} (h : p) (ho : Own w' w.heap.size u ys) (hb : Below w.heap.size w w') : Made2 w ys (decide p) (.returned (.tuple #[u, .bool true])) w' :=
  ⟨u, by rw [decide_eq_true h], ho, hb⟩
theorem made2_no {p : Prop} [Decidable p] {w w' : World} {ys : List Int} (h : ¬ p) (hy : ys = []) (hb : Below w.heap.size w w') : Made2 w ys (decide p) (.returned (.tuple #[.slice none 0 0, .bool false])) w' :=
  ⟨_, by rw [decide_eq_false h], by rw [hy]; exact Own.nil, hb⟩
theorem says_to {P : Program} {f : FuncId} {a : Array Value} {w : World} {v v' : Int} (h : Calls P f a w (Says w (.int .i64 v))) (e : v = v') : Calls P f a w (Says w (.int .i64 v')) := e ▸ h
theorem says_tob {P : Program} {f : FuncId} {a : Array Value} {w : World} {v v' : Bool} (h : Calls P f a w (Says w (.bool v))) (e : v = v') : Calls P f a w (Says w (.bool v')) := e ▸ h
theorem made_to {P : Program} {f : FuncId} {a : Array Value} {w : World} {v v' : List Int} (h : Calls P f a w (Made w v)) (e : v = v') : Calls P f a w (Made w v') := e ▸ h
theorem says_true {p : Prop} [Decidable p] {w w' : World} (h : p) (hb : Below w.heap.size w w') : Says w (.bool (decide p)) (.returned (.bool true)) w' := ⟨by rw [decide_eq_true h], hb⟩
theorem says_false {p : Prop} [Decidable p] {w w' : World} (h : ¬ p) (hb : Below w.heap.size w w') : Says w (.bool (decide p)) (.returned (.bool false)) w' := ⟨by rw [decide_eq_false h], hb⟩
theorem says_bool {w w' : World} {a b : Bool} (h : a = b) (hb : Below w.heap.size w w') : Says w (.bool b) (.returned (.bool a)) w' := ⟨by rw [h], hb⟩
theorem says_str {w w' : World} {a b : ByteArray} (h : a = b) (hb : Below w.heap.size w w') : Says w (.string b) (.returned (.string a)) w' := ⟨by rw [h], hb⟩
theorem says_int {w w' : World} {a b : Int} (h : a = b) (hb : Below w.heap.size w w') : Says w (.int .i64 b) (.returned (.int .i64 a)) w' := ⟨by rw [h], hb⟩
theorem hid {p : Prop} (h : p) : Hid p := h

theorem ret_eq {a b : Value} (h : a = b) : Ending.returned a = .returned b := by rw [h]

/-- The length of the slice in a slot: for a loop's measure. -/
def lenOf : Value → Nat | .slice _ n _ => n | _ => 0

/-- What was appended to is the call's own. -/
theorem below_app {w wr w' : World} {u : Value} {ys : List Int} (hb : Below w.heap.size w wr) (ho : Own wr w.heap.size u ys) (hg : wr.grownBy w' u.ownBlock) : Below w.heap.size w w' :=
  hb.grown hg hb.size (fun k hk => (ho.blocks k hk).1)

/-- Block g is an array that holds the numbers fs. -/
def Arr (w : World) (g T : Nat) (fs : List Int) : Prop := w.heap[g]? = some (.cells (fs.map (Value.int .i64)).toArray T (0, 0))

theorem Arr.lt {w : World} {g T : Nat} {fs : List Int} (h : Arr w g T fs) : g < w.heap.size := (Array.getElem?_eq_some_iff.1 h).1
theorem Arr.cell {w : World} {g T : Nat} {fs : List Int} (h : Arr w g T fs) {j : Nat} (hj : j < fs.length) : w.cell? ⟨g, j, none⟩ = some (.int .i64 (el fs j)) := by
  rw [cell_of_row w g j _ T (0, 0) h]
  simp [el, hj]
theorem Arr.frozen {w : World} {g T : Nat} {fs : List Int} (h : Arr w g T fs) (j : Nat) : w.frozen? ⟨g, j, none⟩ = false := frozen_of_row w g j _ T h
theorem Arr.set {w : World} {g T : Nat} {fs : List Int} (h : Arr w g T fs) (j : Nat) (v : Int) : Arr (w.setCell ⟨g, j, none⟩ (.int .i64 v)) g T (fs.set j v) := by
  have := heap_setCell_same w g j _ T (.int .i64 v) h
  rw [Arr, this]
  simp [List.map_set]
theorem Arr.other {w : World} {g T : Nat} {fs : List Int} (h : Arr w g T fs) {a : Addr} (ha : a.block ≠ g) (v : Value) : Arr (w.setCell a v) g T fs := by
  rw [Arr, Below.heap_setCell _ _ _ _ (by omega)]; exact h
theorem Arr.drewN {w : World} {g T : Nat} {fs : List Int} (h : Arr w g T fs) (m : Nat) : Arr (w.drewN m) g T fs := h
theorem Arr.below {B : Nat} {w w' : World} {g T : Nat} {fs : List Int} (h : Arr w g T fs) (hg : g < B) (hb : Below B w w') : Arr w' g T fs := (hb.block g hg).trans h
theorem Arr.alloc {w : World} {g T : Nat} {fs : List Int} (h : Arr w g T fs) (o : Obj) : Arr (w.alloc o) g T fs := (Below.heap_alloc w o g h.lt).trans h
theorem Arr.made (w : World) (T : Nat) (fs : List Int) : Arr (w.alloc (.cells (fs.map (Value.int .i64)).toArray T)) w.heap.size T fs := heap_alloc_new w _

section
variable {P : Program} (w : World)
theorem run_items (d e : Nat) (xs ys : List Int) (he : P.underlying e = some (.int .i64)) (is : List Nat) (hx : ∀ i ∈ is, i < xs.length) (hy : ∀ i ∈ is, i < ys.length) :
    (Op.eqItems (d + 1) e 1 (xs.map (Value.int .i64)).toArray (ys.map (Value.int .i64)).toArray is).run P w = .ok (is.all fun i => el xs i == el ys i) w := by
  induction is with
  | nil => simp [Op.eqItems]
  | cons i is ih =>
    have hxi := hx i (by simp)
    have hyi := hy i (by simp)
    have px : (part e (xs.map (Value.int .i64)).toArray (i * 1)).run P w = .ok (.int .i64 (el xs i)) w := by
      simp [part, isAgg, run_underlying he, el, hxi]
    have py : (part e (ys.map (Value.int .i64)).toArray (i * 1)).run P w = .ok (.int .i64 (el ys i)) w := by
      simp [part, isAgg, run_underlying he, el, hyi]
    have pe := run_equalIn_int (P := P) w d e .i64 .i64 (el xs i) (el ys i) he
    simp only [Op.eqItems, Sem.run_bind, px, py, pe, Result.andThen_ok, List.all_cons]
    cases hb : (el xs i == el ys i)
    · simp
    · simp only [Bool.not_true, Bool.false_eq_true, if_false, Bool.true_and]
      exact ih (fun j hj => hx j (by simp [hj])) (fun j hj => hy j (by simp [hj]))

theorem run_eql_arr (t e n : Nat) {i : TypeInfo} (xs ys : List Int) (hu : P.underlying t = some (.array n e)) (hi : P.info? e = some i) (hc : P.cellsOf e = 1) (he : P.underlying e = some (.int .i64)) (hx : xs.length = n) (hy : ys.length = n) :
    (binOp .eql t (.agg (xs.map (Value.int .i64)).toArray) (.agg (ys.map (Value.int .i64)).toArray)).run P w = .ok (.bool (decide (xs = ys))) w := by
  rw [run_eql_struct, run_equalIn_array w 9999 _ _ hu hi, hc, run_items w 9998 e xs ys he _ (fun i hi => by have := List.mem_range.1 hi; omega) (fun i hi => by have := List.mem_range.1 hi; omega)]
  simp only [Result.andThen_ok]
  congr 2
  rw [Bool.eq_iff_iff, List.all_eq_true, decide_eq_true_iff]
  constructor
  · intro h
    exact ext_el (by omega) (fun j hj => by have := h j (by simp; omega); simpa using this)
  · intro h i _
    simp [h]
end

end Go.Proofs.YtaceiebmgnhdgaaGreatDoor

/- The walk's laws for the lists of numbers that the functions make: make, append of one number, and lists that a step builds. No condition. -/
namespace Go.Proofs.YtaceiebmgnhdgaaGreatDoor
open Go.RowKit

theorem infoI : (Tryz.prog.info? 3).map (fun i => (i.zero, i.size, i.bytes)) = some (some (.int .i64 0), 1, 8) := by kernel_rfl

/-- make([]int, n). -/
theorem make_ints (w : World) {ops : Array Oper} {rest : List Oper} {o : Oper} {a : Act} {Q : Exit → Act → World → Prop}
    (hg : o.guard = none) (l c : Operand) (hop : o.op = Op.makeSlice 35 l c) (L C : Int) (n : Nat) (hl : a.eval l = .int .i64 L) (hc : a.eval c = .int .i64 C) (hL : L = (n : Int)) (hC : C = (n : Int)) (hn : n ≤ 2000000)
    (hK : ∀ w', OwS w' w.heap.size w.heap.size n n (List.replicate n 0) → Below w.heap.size w w' → wpList Tryz.prog ops Q rest (a.put o.dst (.slice (some ⟨w.heap.size, 0, none⟩) n n)) w') :
    wpList Tryz.prog ops Q (o :: rest) a w := by
  obtain ⟨i0, hi, hz0, hz1, hz2⟩ := info_parts infoI
  refine wpList_make_full w hg l c 35 hop w.heap.size 3 i0 (.int .i64 0) 1 Tryz.underlying35 hi hz0 hz1 _ _ _ _ n hl hc hL hC (by rw [hz2]; omega) (by unfold maxLen; omega) (Nat.le_refl _) ?_
  intro w' hown hgrow
  refine hK w' ?_ ((Below.refl _ _).grown hgrow (Nat.le_refl _) (fun k hk => by simp at hk))
  unfold OwS
  have e : (madeCells (Value.cells (.int .i64 0)) (n * 1)).toList = (List.replicate n (0 : Int)).map (Value.int .i64) := by
    rw [Nat.mul_one, show Value.cells (.int .i64 0) = #[Value.int .i64 0] from rfl, toList_madeCells_one, List.map_replicate]
  rw [← e]; exact hown

/-- append(out, v), out the call's own. -/
theorem app_int (w : World) (v : Int) {ops : Array Oper} {rest : List Oper} {o : Oper} {a : Act} {Q : Exit → Act → World → Prop}
    (hg : o.guard = none) (s x : Operand) (hop : o.op = Op.call { callee := Callee.builtin Builtin.append, args := #[s, x], argTypes := #[35, 35] })
    (B : Nat) (u : Value) (ys : List Int) (hs : a.eval s = u) (hown : Own w B u ys) (hx : a.eval x = .slice (some ⟨w.heap.size, 0, none⟩) 1 1) (hlen : ys.length ≤ 2000000) (hB : B ≤ w.heap.size)
    (hK : ∀ u' w', Own w' B u' (ys ++ [v]) → w.grownBy w' u.ownBlock → wpList Tryz.prog ops Q rest (a.put o.dst u') w') :
    wpList Tryz.prog ops Q (o :: rest) a (w.alloc (.cells #[.int .i64 v] 3)) := by
  obtain ⟨i0, hi, hz0, hz1, hz2⟩ := info_parts infoI
  refine wpList_append_own _ hg s x 35 hop B 3 i0 (.int .i64 0) 1 8 Tryz.underlying35 hi hz0 hz1 hz2 rfl (by decide) u ys.length _ hs (World.ownsRow.alloc hown _) ⟨w.heap.size, 0, none⟩ 1 1 [.int .i64 v] hx rfl ?_ ?_ ?_ ?_ ?_ ?_
  · intro j t hj
    match j, hj with
    | 0, hj => simp at hj; subst hj; simp [Addr.add]
  · intro t ht; simp at ht; subst ht; rfl
  · unfold maxLen; omega
  · omega
  · simp; omega
  · intro v' w' hown' hgrow _
    refine hK v' w' ?_ (grown_trans (World.grownBy_alloc w _ _) hgrow)
    unfold Own
    rw [List.length_append, List.map_append]
    exact hown'

/-- append(out, p...), out the call's own, p whatever list of numbers. -/
theorem app_list (w : World) {ops : Array Oper} {rest : List Oper} {o : Oper} {a : Act} {Q : Exit → Act → World → Prop}
    (hg : o.guard = none) (s x : Operand) (hop : o.op = Op.call { callee := Callee.builtin Builtin.append, args := #[s, x], argTypes := #[35, 35] })
    (B : Nat) (u : Value) (ys : List Int) (hs : a.eval s = u) (hown : Own w B u ys) (ao : Option Addr) (n cap : Nat) (xs : List Int) (hx : a.eval x = .slice ao n cap) (hsl : Sl w ao n cap xs) (hnil : ao = none → cap = 0)
    (hlen : ys.length + n ≤ 2000000) (hB : B ≤ w.heap.size)
    (hK : ∀ u' w', Own w' B u' (ys ++ xs) → w.grownBy w' u.ownBlock → wpList Tryz.prog ops Q rest (a.put o.dst u') w') :
    wpList Tryz.prog ops Q (o :: rest) a w := by
  obtain ⟨i0, hi, hz0, hz1, hz2⟩ := info_parts infoI
  have hl := hsl.len
  cases ao with
  | none =>
    have hn : n = 0 := by
      rcases Nat.eq_zero_or_pos n with h | h
      · exact h
      · obtain ⟨b, off, hb, _⟩ := hsl.row h
        cases hb
    subst hn
    have hc := hnil rfl
    subst hc
    have hxs : xs = [] := List.eq_nil_of_length_eq_zero hl
    subst hxs
    refine wpList_append_own_none hg s x 35 hop B 3 i0 1 Tryz.underlying35 hi u ys.length _ hs hown hx ?_
    refine hK u w ?_ (World.grownBy.refl _ _)
    rw [List.append_nil]; exact hown
  | some ad =>
    refine wpList_append_own _ hg s x 35 hop B 3 i0 (.int .i64 0) 1 8 Tryz.underlying35 hi hz0 hz1 hz2 rfl (by decide) u ys.length _ hs hown ad n cap (xs.map (Value.int .i64)) hx (by simp [hl]) ?_ (ints_oneCell _ _) ?_ ?_ ?_ ?_
    · intro j t hj
      have hjn : j < n := by
        have := (List.getElem?_eq_some_iff.1 hj).1
        rw [List.length_map, hl] at this; exact this
      obtain ⟨b, off, hb, _, hc⟩ := hsl.row (by omega)
      obtain rfl := Option.some.inj hb
      rw [Addr.add_lit, hc j hjn]
      rw [List.getElem?_map, List.getElem?_eq_getElem (by omega)] at hj
      rw [el_lt (by omega)]
      exact hj
    · unfold maxLen; omega
    · omega
    · exact hB
    · intro v' w' hown' hgrow _
      refine hK v' w' ?_ hgrow
      unfold Own
      rw [List.length_append, List.map_append, hl]
      exact hown'

/-- make([]int, 0, n). -/
theorem make_cap (w : World) {ops : Array Oper} {rest : List Oper} {o : Oper} {a : Act} {Q : Exit → Act → World → Prop}
    (hg : o.guard = none) (l c : Operand) (hop : o.op = Op.makeSlice 35 l c) (C : Int) (n : Nat) (hl : a.eval l = .int .i64 0) (hc : a.eval c = .int .i64 C) (hC : C = (n : Int)) (hn : n ≤ 2000000)
    (hK : ∀ w', Own w' w.heap.size (.slice (some ⟨w.heap.size, 0, none⟩) 0 n) [] → Below w.heap.size w w' → wpList Tryz.prog ops Q rest (a.put o.dst (.slice (some ⟨w.heap.size, 0, none⟩) 0 n)) w') :
    wpList Tryz.prog ops Q (o :: rest) a w := by
  obtain ⟨i0, hi, hz0, hz1, hz2⟩ := info_parts infoI
  refine wpList_make_own w hg l c 35 hop w.heap.size 3 i0 (.int .i64 0) 1 Tryz.underlying35 hi hz0 hz1 _ _ _ n hl hc hC (by rw [hz2]; omega) (by unfold maxLen; omega) (Nat.le_refl _) ?_
  intro w' hown hgrow
  exact hK w' hown ((Below.refl _ _).grown hgrow (Nat.le_refl _) (fun k hk => by simp at hk))

end Go.Proofs.YtaceiebmgnhdgaaGreatDoor

/- What the program answers when asked whether numbers are an order. No condition but that the list's cells can be read. -/
namespace Go.Proofs.YtaceiebmgnhdgaaGreatDoor
open Go.RowKit

theorem infoP : ∃ i, Tryz.prog.info? 3 = some i := by
  have h : (Tryz.prog.info? 3).isSome = true := by kernel_rfl
  exact Option.isSome_iff_exists.1 h
theorem cellsI : Tryz.prog.cellsOf 3 = 1 := by kernel_rfl

theorem counted {xs fs os : List Int} (hn : xs.length ≤ 7) (hr : ∀ j, j < xs.length → 0 ≤ el xs j ∧ el xs j < xs.length) (hf : fs.length = 7) (ho : os.length = 7)
    (hfc : ∀ v, v < 7 → el fs v = (xs.count (v : Int) : Nat)) (hoc : ∀ v, v < 7 → el os v = if v < xs.length then 1 else 0) : decide (fs = os) = decide (Valid xs) := by
  rw [decide_eq_decide, ← count_valid hn hr]
  constructor
  · intro e v hv
    have h1 := hfc v hv
    have h2 := hoc v hv
    rw [e, h2] at h1
    split at h1 <;> split <;> omega
  · intro h
    refine ext_el (by omega) (fun v hv => ?_)
    rw [hfc v (by omega), hoc v (by omega), h v (by omega)]
    split <;> rfl

theorem zeros : ∀ v, v < 7 → el [0, 0, 0, 0, 0, 0, 0] v = 0 := by decide

set_option maxHeartbeats 1000000 in
theorem validI_any (ao : Option Addr) (n cap : Nat) (xs : List Int) (w : World) (h : Sl w ao n cap xs) :
    Calls Tryz.prog 96 #[.slice ao n cap] w (Says w (.bool (decide (Valid xs)))) := by
  have hbig := h.big
  have hlen := hid h.len
  by_cases h7 : n ≤ 7
  · go_enter Tryz.func96, Tryz.ntmps96
    go_wp2
    go_loopw [12] (fun i wr => ∃ (k : Nat) (fs os : List Int), k ≤ n ∧ i = .int .i64 k ∧ Below w.heap.size w wr ∧ Arr wr w.heap.size 143 fs ∧ Arr wr (w.heap.size + 1) 143 os ∧ fs.length = 7 ∧ os.length = 7 ∧
        Hid (∀ j, j < k → 0 ≤ el xs j ∧ el xs j < n) ∧ Hid (∀ v, v < 7 → el fs v = ((xs.take k).count (v : Int) : Nat)) ∧ Hid (∀ v, v < 7 → el os v = if v < k then 1 else 0))
      (fun i _ => n - (intOf i).toNat)
    case atStart =>
      refine ⟨0, [0, 0, 0, 0, 0, 0, 0], [0, 0, 0, 0, 0, 0, 0], Nat.zero_le _, rfl, by go_grown, ?_, ?_, rfl, rfl, fun j hj => by omega, fun v hv => ?_, fun v hv => ?_⟩
      · exact (Arr.made w _ [0, 0, 0, 0, 0, 0, 0]).alloc _
      · have := Arr.made (w.alloc (.cells ([0, 0, 0, 0, 0, 0, 0].map (Value.int .i64)).toArray 143)) 143 [0, 0, 0, 0, 0, 0, 0]
        rwa [World.size_alloc] at this
      · rw [zeros v hv]; simp
      · rw [zeros v hv]; simp
    case round =>
      obtain ⟨k, fs, os, hk, rfl, hbr, hF, hO, hf7, ho7, hr, hfc, hoc⟩ := hrel
      have Hf7 := hid hf7
      have Ho7 := hid ho7
      by_cases hlt : k < n
      · obtain ⟨b, off, rfl, hblt, hc⟩ := h.row (by omega)
        have hcell := (hbr.cell (p := ⟨b, off + k, none⟩) hblt).trans (hc k hlt)
        clear hc
        by_cases hin : 0 ≤ el xs k ∧ el xs k < n
        · obtain ⟨v, hv⟩ := Int.eq_ofNat_of_zero_le hin.1
          have hvn : v < n := by omega
          rw [hv] at hcell
          have Hv := hid hv
          have hfb : el fs v ≤ 7 ∧ 0 ≤ el fs v := by
            rw [hfc.out v (by omega)]
            have := List.count_le_length (a := (v : Int)) (l := xs.take k)
            rw [List.length_take] at this
            omega
          have hcF := hF.cell (j := v) (by omega)
          have hfF := hF.frozen v
          have hcO := hO.cell (j := k) (by omega)
          have hfO := hO.frozen k
          have hcO' : (wr.setCell ⟨w.heap.size, v, none⟩ (.int .i64 (el fs v + 1))).cell? ⟨w.heap.size + 1, k, none⟩ = some (.int .i64 (el os k)) := (hO.other (by simp) _).cell (by omega)
          clear hf7 ho7 hv hin
          go_wp2
          go_roundw
          case rel =>
            refine ⟨k + 1, fs.set v (el fs v + 1), os.set k 1, by omega, by go_num, ?_, ?_, ?_, by simp [Hf7.out], by simp [Ho7.out], ?_, ?_, ?_⟩
            · exact (hbr.setCell (Nat.le_refl _) _).setCell (Nat.le_succ _) _
            · exact (hF.set v _).other (by simp) _
            · exact (hO.other (by simp) _).set k 1
            · exact upto_step hr.out ⟨by rw [Hv.out]; omega, by rw [Hv.out]; omega⟩
            · intro t ht
              rw [count_take (by rw [hlen.out]; exact hlt), Hv.out]
              have := hfc.out t ht
              by_cases e : v = t
              · subst e
                rw [el_set_same (by rw [Hf7.out]; exact ht), this]; simp
              · rw [el_set_ne e, this, if_neg (by omega)]; simp
            · intro t ht
              have := hoc.out t ht
              by_cases e : k = t
              · subst e
                rw [el_set_same (by rw [Ho7.out]; exact ht), if_pos (by omega)]
              · rw [el_set_ne e, this]
                split <;> split <;> omega
          case measure => simp [intOf]; omega
        · have hno : Hid (¬ Valid xs) := fun v => hin ⟨v.lo k (by rw [hlen.out]; exact hlt), by have := v.hi k (by rw [hlen.out]; exact hlt); rwa [hlen.out] at this⟩
          have Hin := hid hin
          clear hin
          by_cases h0 : el xs k < 0
          · go_wp2
            go_ret
            exact says_false hno.out hbr
          · have h1 : (n : Int) ≤ el xs k := by have := Hin.out; omega
            go_wp2
            go_ret
            exact says_false hno.out hbr
      · obtain rfl : k = n := by omega
        have hsF : (Tryz.prog.info? 143).map (·.size) = some (fs.map (Value.int .i64)).toArray.size := by
          have : (Tryz.prog.info? 143).map (·.size) = some 7 := by kernel_rfl
          rw [this]; simp [hf7]
        have hsO : (Tryz.prog.info? 143).map (·.size) = some (os.map (Value.int .i64)).toArray.size := by rw [hsF]; simp [hf7, ho7]
        obtain ⟨ip, hip⟩ := infoP
        have hE := fun w => run_eql_arr (P := Tryz.prog) w 143 3 7 fs os Tryz.underlying143 hip cellsI Tryz.underlying3 hf7 ho7
        clear hf7 ho7
        go_wp2_with (first
          | (refine wpList_load_row rfl 143 (.tmp 3) rfl w.heap.size rfl 143 _ (0, 0) _ hF Tryz.underlying143 rfl hsF ?_)
          | (refine wpList_load_row rfl 143 (.tmp 4) rfl (w.heap.size + 1) rfl 143 _ (0, 0) _ hO Tryz.underlying143 rfl hsO ?_))
        go_ret
        refine says_bool (counted (by rw [hlen.out]; exact h7) (fun j hj => ?_) Hf7.out Ho7.out (fun v hv => ?_) (fun v hv => ?_)) hbr
        · rw [hlen.out] at hj ⊢
          exact hr.out j hj
        · have := hfc.out v hv
          rwa [List.take_of_length_le (Nat.le_of_eq hlen.out)] at this
        · rw [hlen.out]; exact hoc.out v hv
  · go_enter Tryz.func96, Tryz.ntmps96
    go_wp2
    go_ret
    exact says_false (fun v => h7 (by have := v.len; rw [hlen.out] at this; exact this)) (Below.refl _ _)
end Go.Proofs.YtaceiebmgnhdgaaGreatDoor

/- The program's functions of one order that make a list: InverseOrder, TurnOrder, OppositeOrder, RisingOrder. Condition: the list's cells can be read. -/
namespace Go.Proofs.YtaceiebmgnhdgaaGreatDoor
open Go.RowKit
end Go.Proofs.YtaceiebmgnhdgaaGreatDoor

/- What the program and its model answer when asked whether numbers are an order: both say so exactly if they are. No condition but that the list's cells can be read. -/
namespace Go.Proofs.YtaceiebmgnhdgaaGreatDoor
open Go.RowKit

set_option maxHeartbeats 1000000 in
theorem validS_any (ao : Option Addr) (n cap : Nat) (xs : List Int) (w : World) (h : Sl w ao n cap xs) :
    Calls Tryz.prog 53 #[.slice ao n cap] w (Says w (.bool (decide (Valid xs)))) := by
  have hbig := h.big
  have hlen := hid h.len
  go_enter Tryz.func53, Tryz.ntmps53
  go_wp2
  go_loopw [3] (fun i wr => ∃ (k : Nat), k ≤ n ∧ i = .int .i64 k ∧ Below w.heap.size w wr ∧ Hid (∀ j, j < k → 0 ≤ el xs j ∧ el xs j < n ∧ ∀ t, t < j → el xs t ≠ el xs j))
    (fun i _ => n - (intOf i).toNat)
  case atStart => exact ⟨0, Nat.zero_le _, rfl, Below.refl _ _, fun j hj => by omega⟩
  case round =>
    obtain ⟨k, hk, rfl, hbr, hm⟩ := hrel
    by_cases hlt : k < n
    · obtain ⟨b, off, rfl, hblt, hc⟩ := h.row (by omega)
      have hcell := (hbr.cell (p := ⟨b, off + k, none⟩) hblt).trans (hc k hlt)
      by_cases hr : 0 ≤ el xs k ∧ el xs k ≤ (n : Int) - 1
      · obtain ⟨hr0, hr1⟩ := hr
        have hcc := hid hc
        clear hc
        go_wp2
        obtain ⟨wo, hwo⟩ : ∃ wo : World, wo = wr := ⟨_, rfl⟩
        subst hwo
        go_loopw [4] (fun i wr => ∃ (j : Nat), j ≤ k ∧ i = .int .i64 j ∧ Below w.heap.size w wr ∧ Hid (∀ t, t < j → el xs t ≠ el xs k))
          (fun i _ => k - (intOf i).toNat)
        case atStart => exact ⟨0, Nat.zero_le _, rfl, hbr, fun j hj => by omega⟩
        case round =>
          obtain ⟨j, hj, rfl, hbr2, hm2⟩ := hrel
          have hcellk := (hbr2.cell (p := ⟨b, off + k, none⟩) hblt).trans (hcc.out k hlt)
          by_cases hjlt : j < k
          · have hcell2 := (hbr2.cell (p := ⟨b, off + j, none⟩) hblt).trans (hcc.out j (by omega))
            have hi1 : (k : Int) < n := by omega
            have hi2 : (j : Int) < n := by omega
            go_wp2
            go_quiet (fail)
            go_wp2
            · have he : (el xs j == el xs k) = true := by assumption
              go_ret
              exact says_false (fun v => v.ne j k hjlt (by rw [hlen.out]; exact hlt) (not_ne he)) (drewN_below hbr2 _)
            · have he : (el xs j == el xs k) = false := by assumption
              go_roundw
              case rel => exact ⟨j + 1, by omega, by go_num, drewN_below hbr2 _, upto_step hm2.out (is_ne he)⟩
              case measure => simp [intOf]; omega
          · obtain rfl : j = k := by omega
            go_wp2
            go_roundw
            case rel => exact ⟨j + 1, by omega, by go_num, hbr2, upto_step hm.out ⟨hr0, by omega, hm2.out⟩⟩
            case measure => simp [intOf]; omega
      · have hno : Hid (¬ Valid xs) := fun v => hr ⟨v.lo k (by rw [hlen.out]; exact hlt), by have := v.hi k (by rw [hlen.out]; exact hlt); rw [hlen.out] at this; omega⟩
        have hnr := hid hr
        clear hc
        by_cases hr0 : 0 ≤ el xs k
        · have hr1 : ¬ el xs k ≤ (n : Int) - 1 := fun e => hnr.out ⟨hr0, e⟩
          clear hr
          go_wp2
          go_ret
          exact says_false hno.out hbr
        · clear hr
          go_wp2
          go_ret
          exact says_false hno.out hbr
    · obtain rfl : k = n := by omega
      go_wp2
      go_ret
      refine says_bool (decide_eq_decide.2 ⟨fun h7 => ⟨by rw [hlen.out]; omega, fun j hj => (hm.out j (by rw [hlen.out] at hj; exact hj)).1, fun j hj => ?_, fun i j hij hj => (hm.out j (by rw [hlen.out] at hj; exact hj)).2.2 i hij⟩, fun v => ?_⟩) hbr
      · rw [hlen.out] at hj ⊢
        exact (hm.out j hj).2.1
      · have := v.len
        rw [hlen.out] at this
        omega
end Go.Proofs.YtaceiebmgnhdgaaGreatDoor

/- The model's functions of one order that make a list: rising, RisingOrder, inverse, InverseOrder, turned, TurnOrder, OppositeOrder. Condition: the list's cells can be read. -/
namespace Go.Proofs.YtaceiebmgnhdgaaGreatDoor
open Go.RowKit

theorem own_lit (w : World) : Own (w.alloc (.cells #[] 3)) w.heap.size (.slice (some ⟨w.heap.size, 0, none⟩) 0 0) [] :=
  World.ownsRow_lit w #[] 0 (Nat.le_refl _) (Nat.zero_le _) rfl

theorem own_lit_at {w : World} {B : Nat} (hB : B ≤ w.heap.size) : Own (w.alloc (.cells #[] 3)) B (.slice (some ⟨w.heap.size, 0, none⟩) 0 0) [] := (own_lit w).mono hB

end Go.Proofs.YtaceiebmgnhdgaaGreatDoor

/- Tables and their sums, in the program and in its model: lesserBehind, sum, TableOf, InversionsOf, SignOf. Condition: the list's cells can be read; of sum: few small numbers. -/
namespace Go.Proofs.YtaceiebmgnhdgaaGreatDoor
open Go.RowKit

set_option maxHeartbeats 1000000 in
theorem lesser_any (ao : Option Addr) (n cap : Nat) (xs : List Int) (w : World) (h : Sl w ao n cap xs) (h7 : n ≤ 1000) :
    Calls Tryz.prog 37 #[.slice ao n cap] w (Made w (table xs)) := by
  have hbig := h.big
  have hlen := hid h.len
  go_enter Tryz.func37, Tryz.ntmps37
  go_wp2
  go_loopw [3, 4] (fun v i wr => ∃ (k : Nat) (ao' : Option Addr) (cap' : Nat), k ≤ n ∧ v = .slice ao' k cap' ∧ i = .int .i64 k ∧ Below w.heap.size w wr ∧ Own wr w.heap.size (.slice ao' k cap') ((List.range k).map (lb xs)))
    (fun v _ _ => n - lenOf v)
  case atStart => exact ⟨0, _, _, Nat.zero_le _, rfl, rfl, (Below.refl _ _).alloc (Nat.le_refl _) _, own_lit w⟩
  case round =>
    obtain ⟨k, ao', cap', hk, rfl, rfl, hbr, ho⟩ := hrel
    by_cases hlt : k < n
    · obtain ⟨b, off, rfl, hblt, hc⟩ := h.row (by omega)
      have hl : ((List.range k).map (lb xs)).length ≤ 2000000 := by rw [map_range_len]; omega
      have hcc := hid hc
      clear hc
      go_wp2
      obtain ⟨wo, hwo⟩ : ∃ wo : World, wo = wr := ⟨_, rfl⟩
      subst hwo
      go_loopw [5, 6] (fun c j wr => ∃ (t : Nat), t ≤ n - 1 - k ∧ c = .int .i64 (lbP xs k t) ∧ j = .int .i64 ((k : Int) + 1 + t) ∧ Below w.heap.size w wr ∧ Own wr w.heap.size (.slice ao' k cap') ((List.range k).map (lb xs)))
        (fun _ j _ => n - (intOf j).toNat)
      case atStart => exact ⟨0, Nat.zero_le _, rfl, by simp, hbr, ho⟩
      case round =>
        obtain ⟨t, ht, rfl, rfl, hbr, ho⟩ := hrel
        have hbd := lbP_bd xs k t
        have hsz := hbr.size
        by_cases htl : t < n - 1 - k
        · have hcell1 := (hbr.cell (p := ⟨b, off + (k + 1 + t), none⟩) hblt).trans (hcc.out (k + 1 + t) (by omega))
          have hcell2 := (hbr.cell (p := ⟨b, off + k, none⟩) hblt).trans (hcc.out k hlt)
          have hi1 : (k : Int) + 1 + t < n := by omega
          go_wp2
          go_quiet (fail)
          go_wp2
          · have he : el xs (k + 1 + t) < el xs k := by assumption
            go_roundw
            case rel => exact ⟨t + 1, by omega, by rw [lbP_yes he], by go_num, drewN_below hbr _, ho⟩
            case measure => simp [intOf]; omega
          · have he : el xs k ≤ el xs (k + 1 + t) := by assumption
            go_roundw
            case rel => exact ⟨t + 1, by omega, by rw [lbP_no he], by go_num, drewN_below hbr _, ho⟩
            case measure => simp [intOf]; omega
        · obtain rfl : t = n - 1 - k := by omega
          have hi1 : ¬ (k : Int) + 1 + (n - 1 - k : Nat) < n := by omega
          go_wp2_with (at_builtin; refine app_int _ _ rfl _ _ rfl w.heap.size _ _ rfl ho rfl hl hsz ?_)
          intro u' w' ho' hg'
          have hb' := below_app hbr ho hg'
          have e : lbP xs k (n - 1 - k) = lb xs k := by rw [lb, hlen.out]
          rw [e] at ho'
          obtain ⟨ao', cap', rfl, hs'⟩ := ho'.sl
          rw [← map_range_succ (lb xs), map_range_len] at *
          clear e hbd
          go_wp2
          go_roundw
          case rel => exact ⟨k + 1, _, _, by omega, rfl, by go_num, hb', ho'⟩
          case measure => simp [lenOf]; omega
    · obtain rfl : k = n := by omega
      go_wp2
      go_ret
      refine ⟨_, rfl, ?_, hbr⟩
      rw [table, hlen.out]
      exact ho

set_option maxHeartbeats 1000000 in
theorem sum_any (ao : Option Addr) (n cap : Nat) (xs : List Int) (w : World) (h : Sl w ao n cap xs) (h7 : n ≤ 1000) (hs : Hid (∀ j, j < xs.length → 0 ≤ el xs j ∧ el xs j ≤ (1000 : Nat))) :
    Calls Tryz.prog 81 #[.slice ao n cap] w (Says w (.int .i64 (sumL xs))) := by
  have hbig := h.big
  have hlen := hid h.len
  go_enter Tryz.func81, Tryz.ntmps81
  go_wp2
  go_loopw [3, 4] (fun v i wr => ∃ (k : Nat), k ≤ n ∧ v = .int .i64 (sumTo xs k) ∧ i = .int .i64 k ∧ Below w.heap.size w wr)
    (fun _ i _ => n - (intOf i).toNat)
  case atStart => exact ⟨0, Nat.zero_le _, rfl, rfl, Below.refl _ _⟩
  case round =>
    obtain ⟨k, hk, rfl, rfl, hbr⟩ := hrel
    have hbd := sumTo_bd hs.out k (by rw [hlen.out]; exact hk)
    have hb2 : sumTo xs k ≤ 1000000 := Int.le_trans hbd.2 (by have : (k : Int) * (1000 : Nat) ≤ 1000 * (1000 : Nat) := Int.mul_le_mul_of_nonneg_right (by omega) (by omega); omega)
    have hb1 := hbd.1
    clear hbd
    by_cases hlt : k < n
    · obtain ⟨b, off, rfl, hblt, hc⟩ := h.row (by omega)
      have hcell := (hbr.cell (p := ⟨b, off + k, none⟩) hblt).trans (hc k hlt)
      have he := hs.out k (by rw [hlen.out]; exact hlt)
      have he0 := he.1
      have he1 := he.2
      clear hc he
      go_wp2
      go_roundw
      case rel => exact ⟨k + 1, by omega, by rw [sumTo], by go_num, hbr⟩
      case measure => simp [intOf]; omega
    · obtain rfl : k = n := by omega
      go_wp2
      go_ret
      exact says_int (by rw [sumL, hlen.out]) hbr

set_option maxHeartbeats 1000000 in
theorem tableI_any (ao : Option Addr) (n cap : Nat) (xs : List Int) (w : World) (h : Sl w ao n cap xs) :
    Calls Tryz.prog 99 #[.slice ao n cap] w (Made w (onV xs (table xs))) := by
  have hbig := h.big
  have hlen := hid h.len
  by_cases hv : Valid xs
  · have h7 : n ≤ 7 := by have := hv.len; rw [hlen.out] at this; exact this
    have Hv := hid hv
    go_enter Tryz.func99, Tryz.ntmps99
    go_wp2_with fail
    refine (validI_any _ _ _ xs _ h).mono ?_
    rintro e w1 ⟨rfl, hb1⟩
    have hsz := hb1.size
    go_wp2_with (at_make; refine make_ints _ rfl _ _ rfl _ _ n rfl rfl rfl rfl (by omega) ?_)
    intro w2 ho2 hb2
    clear hv
    have hb3 := hb1.trans (hb2.mono hb1.size)
    go_wp2
    go_loopw [16] (fun i wr => ∃ (k : Nat) (zs : List Int), k ≤ n ∧ i = .int .i64 k ∧ Below w.heap.size w wr ∧ OwS wr w1.heap.size w1.heap.size n n zs ∧ Hid (∀ j, j < k → el zs j = lb xs j) ∧ Hid (∀ j, k ≤ j → j < n → el zs j = 0))
      (fun i _ => n - (intOf i).toNat)
    case atStart => exact ⟨0, _, Nat.zero_le _, rfl, hb3, ho2, fun j hj => by omega, fun j _ hj => by simp [el, hj]⟩
    case round =>
      obtain ⟨k, zs, hk, rfl, hbr, hr, hz1, hz2⟩ := hrel
      by_cases hlt : k < n
      · obtain ⟨b, off, rfl, hblt, hc⟩ := h.row (by omega)
        have hcell := (hbr.cell (p := ⟨b, off + k, none⟩) hblt).trans (hc k hlt)
        by_cases hcap : cap = k + 1
        · have hn1 : n = k + 1 := by have := h.le; omega
          have e : el zs k = lb xs k := by rw [hz2.out k (Nat.le_refl _) hlt, lb, hlen.out, hn1, show k + 1 - 1 - k = 0 by omega, lbP_zero]
          have He := hid e
          have Hn := hid hn1
          have hcap2 : (cap : Int) = k + 1 := by omega
          have hz0 : n - (k + 1) = 0 := by omega
          clear e hn1
          go_wp2
          go_rounds 1
          go_roundw
          case rel => exact ⟨k + 1, zs, by omega, by go_num, hbr, hr, upto_step hz1.out He.out, fun j hj hjn => hz2.out j (by omega) hjn⟩
          case measure => simp [intOf]; omega
        · have hcap2 : ¬ (cap : Int) = k + 1 := by omega
          have hcc := hid hc
          clear hc
          have hlk := hid (hz1.out k)
          go_wp2
          obtain ⟨wo, hwo⟩ : ∃ wo : World, wo = wr := ⟨_, rfl⟩
          subst hwo
          go_loopw [26] (fun j wr => ∃ (t : Nat) (zs : List Int), t ≤ n - 1 - k ∧ j = .int .i64 t ∧ Below w.heap.size w wr ∧ OwS wr w1.heap.size w1.heap.size n n zs ∧ Hid (∀ j, j < k → el zs j = lb xs j) ∧ Hid (∀ j, k < j → j < n → el zs j = 0) ∧ el zs k = lbP xs k t)
            (fun j _ => n - 1 - k - (intOf j).toNat)
          case atStart => exact ⟨0, zs, Nat.zero_le _, rfl, hbr, hr, hz1, fun j hj hjn => hz2.out j (by omega) hjn, hz2.out k (Nat.le_refl _) hlt⟩
          case round =>
            obtain ⟨t, zs, ht, rfl, hbr, hr, hz1, hz2, hzk⟩ := hrel
            have hbd := lbP_bd xs k t
            have hzl := hid hr.len
            by_cases htl : t < n - 1 - k
            · have hcell1 : wr.cell? ⟨b, off + (k + 1) + t, none⟩ = some (.int .i64 (el xs (k + 1 + t))) := (hbr.cell (p := ⟨b, off + (k + 1) + t, none⟩) hblt).trans (by have := hcc.out (k + 1 + t) (by omega); rw [← this, Nat.add_assoc off])
              have hfr := hr.frozen k
              have hcur := hr.cell hlt
              rw [hzk] at hcur
              have Hzk := hid hzk
              clear hzk
              go_wp2
              · have he : el xs (k + 1 + t) < el xs k := by assumption
                go_roundw
                case rel =>
                  refine ⟨t + 1, zs.set k (lbP xs k t + 1), by omega, by go_num, hbr.setCell hsz _, hr.set _ _, fun j hj => ?_, fun j hj hjn => ?_, ?_⟩
                  · rw [el_set_ne (by omega)]; exact hz1.out j hj
                  · rw [el_set_ne (by omega)]; exact hz2.out j hj hjn
                  · rw [el_set_same (by rw [hzl.out]; exact hlt), lbP_yes he]
                case measure => simp [intOf]; omega
              · have he : el xs k ≤ el xs (k + 1 + t) := by assumption
                go_roundw
                case rel => exact ⟨t + 1, zs, by omega, by go_num, hbr, hr, hz1, hz2, by rw [lbP_no he]; exact Hzk.out⟩
                case measure => simp [intOf]; omega
            · obtain rfl : t = n - 1 - k := by omega
              have e : lbP xs k (n - 1 - k) = lb xs k := by rw [lb, hlen.out]
              rw [e] at hzk
              have Hzk := hid hzk
              clear hzk e
              go_wp2
              go_roundw
              case rel => exact ⟨k + 1, zs, by omega, by go_num, hbr, hr, upto_step hz1.out Hzk.out, fun j hj hjn => hz2.out j (by omega) hjn⟩
              case measure => simp [intOf]; omega
      · obtain rfl : k = n := by omega
        go_wp2
        go_ret
        refine ⟨_, rfl, ?_, hbr⟩
        have e : zs = table xs := ext_el (by rw [hr.len, table_len, hlen.out]) (fun j hj => by rw [hr.len] at hj; rw [hz1.out j hj, el_table (by rw [hlen.out]; exact hj)])
        rw [onV_yes Hv.out, ← e]
        exact hr.own.mono hsz
  · have Hv := hid hv
    go_enter Tryz.func99, Tryz.ntmps99
    go_wp2_with fail
    refine (validI_any _ _ _ xs _ h).mono ?_
    rintro e w1 ⟨rfl, hb1⟩
    go_wp2
    go_ret
    refine ⟨_, rfl, ?_, hb1⟩
    rw [onV_no Hv.out]
    exact Own.nil

theorem table_small {xs : List Int} (h : Valid xs) : ∀ j, j < (table xs).length → 0 ≤ el (table xs) j ∧ el (table xs) j ≤ (1000 : Nat) := fun j hj => by
  have := table_bd xs j hj
  have := h.len
  omega

set_option maxHeartbeats 1000000 in
theorem invsI_any (ao : Option Addr) (n cap : Nat) (xs : List Int) (w : World) (h : Sl w ao n cap xs) :
    Calls Tryz.prog 85 #[.slice ao n cap] w (Says w (.int .i64 (onVi xs (sumL (table xs)) (-1)))) := by
  have hbig := h.big
  have hlen := hid h.len
  by_cases hv : Valid xs
  · have h7 : n ≤ 7 := by have := hv.len; rw [hlen.out] at this; exact this
    have Hv := hid hv
    go_enter Tryz.func85, Tryz.ntmps85
    go_wp2_with fail
    refine (validI_any _ _ _ xs _ h).mono ?_
    rintro e w1 ⟨rfl, hb1⟩
    have hsz := hb1.size
    go_wp2_with fail
    refine (tableI_any _ _ _ xs _ (h.later hb1)).mono ?_
    rintro e w2 ⟨u2, rfl, ho2, hb2⟩
    rw [onV_yes Hv.out] at ho2
    obtain ⟨a2, c2, rfl, hs2⟩ := ho2.sl
    have hl2 : (table xs).length ≤ 7 := by rw [table_len, hlen.out]; omega
    have hts := hid (table_small Hv.out)
    have hb3 := hb1.trans (hb2.mono hsz)
    clear hv
    obtain ⟨ts, Hts⟩ : ∃ ts, Hid (ts = table xs) := ⟨_, rfl⟩
    rw [← Hts.out] at hs2 hl2 hts ⊢
    obtain ⟨m, hm⟩ : ∃ m, ts.length = m := ⟨_, rfl⟩
    rw [hm] at hs2 hl2 ⊢
    have Hm := hid hm
    clear hm ho2
    go_wp2
    go_loopw [3, 12] (fun v i wr => ∃ (k : Nat), k ≤ m ∧ v = .int .i64 (sumTo ts k) ∧ i = .int .i64 k ∧ Below w2.heap.size w2 wr)
      (fun _ i _ => m - (intOf i).toNat)
    case atStart => exact ⟨0, Nat.zero_le _, rfl, rfl, Below.refl _ _⟩
    case round =>
      obtain ⟨k, hk, rfl, rfl, hbr⟩ := hrel
      have hbd := sumTo_bd hts.out k (by rw [Hm.out]; exact hk)
      have hbb2 : sumTo ts k ≤ 1000000 := Int.le_trans hbd.2 (by have : (k : Int) * (1000 : Nat) ≤ 1000 * (1000 : Nat) := Int.mul_le_mul_of_nonneg_right (by omega) (by omega); omega)
      have hbb1 := hbd.1
      clear hbd
      by_cases hlt : k < m
      · obtain ⟨b, off, rfl, hblt, hc⟩ := hs2.row (by omega)
        have hcell := (hbr.cell (p := ⟨b, off + k, none⟩) hblt).trans (hc k hlt)
        have he := hts.out k (by rw [Hm.out]; exact hlt)
        have he0 := he.1
        have he1 := he.2
        clear hc he
        go_wp2
        go_roundw
        case rel => exact ⟨k + 1, by omega, by rw [sumTo], by go_num, hbr⟩
        case measure => simp [intOf]; omega
      · obtain rfl : k = m := by omega
        go_wp2
        go_ret
        rw [onVi_yes Hv.out]
        exact says_int (by rw [← Hts.out, sumL, Hm.out]) (hb3.trans (hbr.mono hb3.size))
  · have Hv := hid hv
    go_enter Tryz.func85, Tryz.ntmps85
    go_wp2_with fail
    refine (validI_any _ _ _ xs _ h).mono ?_
    rintro e w1 ⟨rfl, hb1⟩
    go_wp2
    go_ret
    rw [onVi_no Hv.out]
    exact ⟨rfl, hb1⟩

end Go.Proofs.YtaceiebmgnhdgaaGreatDoor

/- Descents, major indices and signs, in the program and in its model. Condition: the list's cells can be read. -/
namespace Go.Proofs.YtaceiebmgnhdgaaGreatDoor
open Go.RowKit

set_option maxHeartbeats 1000000 in
theorem descents_any (ao : Option Addr) (n cap : Nat) (xs : List Int) (w : World) (h : Sl w ao n cap xs) (h7 : n ≤ 1000) :
    Calls Tryz.prog 56 #[.slice ao n cap] w (Made w (desc xs)) := by
  have hbig := h.big
  have hlen := hid h.len
  go_enter Tryz.func56, Tryz.ntmps56
  go_wp2
  go_loopw [3, 4] (fun v i wr => ∃ (k m : Nat) (ao' : Option Addr) (cap' : Nat), k ≤ n - 1 ∧ v = .slice ao' m cap' ∧ i = .int .i64 ((k : Nat)) ∧ Below w.heap.size w wr ∧ Own wr w.heap.size (.slice ao' m cap') (dsP xs k))
    (fun _ i _ => n - (intOf i).toNat)
  case atStart => exact ⟨0, _, _, _, Nat.zero_le _, rfl, rfl, (Below.refl _ _).alloc (Nat.le_refl _) _, own_lit w⟩
  case round =>
    obtain ⟨k, m, ao', cap', hk, rfl, rfl, hbr, ho⟩ := hrel
    have hsz := hbr.size
    have hl : (dsP xs k).length ≤ 2000000 := by have := dsP_len xs k; omega
    by_cases hlt : k + 1 < n
    · obtain ⟨b, off, rfl, hblt, hc⟩ := h.row (by omega)
      have hcell := (hbr.cell (p := ⟨b, off + k, none⟩) hblt).trans (hc k (by omega))
      have hcell1 := (hbr.cell (p := ⟨b, off + (k + 1), none⟩) hblt).trans (hc (k + 1) hlt)
      have hi1 : (k : Int) + 1 < n := by omega
      have hi2 : (k : Int) < n := by omega
      clear hc
      by_cases he : el xs (k + 1) < el xs k
      · go_wp2_with fail
        go_quiet (fail)
        go_wp2_with (at_builtin; refine app_int _ _ rfl _ _ rfl w.heap.size _ _ rfl (ho.drewN _) rfl hl hsz ?_)
        intro u' w' ho' hg'
        have hb' := below_app (drewN_below hbr _) (ho.drewN _) hg'
        rw [← dsP_yes he] at ho'
        have hl' := hid (rfl : (dsP xs (k + 1)).length = (dsP xs (k + 1)).length)
        obtain ⟨ao', cap', rfl, hs'⟩ := ho'.sl
        go_wp2
        go_roundw
        case rel => exact ⟨k + 1, _, _, _, by omega, rfl, by go_num, hb', ho'⟩
        case measure => simp [intOf]; omega
      · have he' : el xs k ≤ el xs (k + 1) := by omega
        go_wp2_with fail
        go_quiet (fail)
        go_wp2
        go_roundw
        case rel => exact ⟨k + 1, _, _, _, by omega, rfl, by go_num, drewN_below hbr _, by rw [dsP_no he']; exact ho.drewN _⟩
        case measure => simp [intOf]; omega
    · have hk1 : k = n - 1 := by omega
      have Hk1 := hid hk1
      clear hk1
      go_wp2
      go_ret
      refine ⟨_, rfl, ?_, hbr⟩
      rw [desc, hlen.out, ← Hk1.out]
      exact ho

set_option maxHeartbeats 1000000 in
theorem descI_any (ao : Option Addr) (n cap : Nat) (xs : List Int) (w : World) (h : Sl w ao n cap xs) :
    Calls Tryz.prog 91 #[.slice ao n cap] w (Made w (onV xs (desc xs))) := by
  have hbig := h.big
  have hlen := hid h.len
  by_cases hv : Valid xs
  · have h7 : n ≤ 7 := by have := hv.len; rw [hlen.out] at this; exact this
    have Hv := hid hv
    go_enter Tryz.func91, Tryz.ntmps91
    go_wp2_with fail
    refine (validI_any _ _ _ xs _ h).mono ?_
    rintro e w1 ⟨rfl, hb1⟩
    have hsz := hb1.size
    go_wp2
    clear hsz
    go_loopw [3, 4] (fun v i wr => ∃ (k m : Nat) (ao' : Option Addr) (cap' : Nat), k ≤ n - 1 ∧ v = .slice ao' m cap' ∧ i = .int .i64 ((k : Int) + 1) ∧ Below w.heap.size w wr ∧ Own wr w.heap.size (.slice ao' m cap') (dsP xs k))
      (fun _ i _ => n - (intOf i).toNat)
    case atStart => exact ⟨0, _, _, _, Nat.zero_le _, rfl, by simp, hb1.alloc hb1.size _, own_lit_at hb1.size⟩
    case round =>
      obtain ⟨k, m, ao', cap', hk, rfl, rfl, hbr, ho⟩ := hrel
      have hsz := hbr.size
      have hl : (dsP xs k).length ≤ 2000000 := by have := dsP_len xs k; omega
      by_cases hlt : k + 1 < n
      · obtain ⟨b, off, rfl, hblt, hc⟩ := h.row (by omega)
        have hcell := (hbr.cell (p := ⟨b, off + k, none⟩) hblt).trans (hc k (by omega))
        have hcell1 := (hbr.cell (p := ⟨b, off + (k + 1), none⟩) hblt).trans (hc (k + 1) hlt)
        have hi1 : (k : Int) + 1 < n := by omega
        have hi2 : (k : Int) < n := by omega
        clear hc
        by_cases he : el xs (k + 1) < el xs k
        · go_wp2_with fail
          go_quiet (fail)
          go_wp2_with (at_builtin; refine app_int _ _ rfl _ _ rfl w.heap.size _ _ rfl (ho.drewN _) rfl hl hsz ?_)
          intro u' w' ho' hg'
          have hb' := below_app (drewN_below hbr _) (ho.drewN _) hg'
          rw [← dsP_yes he] at ho'
          have hl' := hid (rfl : (dsP xs (k + 1)).length = (dsP xs (k + 1)).length)
          obtain ⟨ao', cap', rfl, hs'⟩ := ho'.sl
          go_wp2
          go_roundw
          case rel => exact ⟨k + 1, _, _, _, by omega, rfl, by go_num, hb', ho'⟩
          case measure => simp [intOf]; omega
        · have he' : el xs k ≤ el xs (k + 1) := by omega
          go_wp2_with fail
          go_quiet (fail)
          go_wp2
          go_roundw
          case rel => exact ⟨k + 1, _, _, _, by omega, rfl, by go_num, drewN_below hbr _, by rw [dsP_no he']; exact ho.drewN _⟩
          case measure => simp [intOf]; omega
      · have hk1 : k = n - 1 := by omega
        have Hk1 := hid hk1
        clear hk1
        go_wp2
        go_ret
        refine ⟨_, rfl, ?_, hbr⟩
        rw [onV_yes Hv.out, desc, hlen.out, ← Hk1.out]
        exact ho
  · have Hv := hid hv
    go_enter Tryz.func91, Tryz.ntmps91
    go_wp2_with fail
    refine (validI_any _ _ _ xs _ h).mono ?_
    rintro e w1 ⟨rfl, hb1⟩
    go_wp2
    go_ret
    refine ⟨_, rfl, ?_, hb1⟩
    rw [onV_no Hv.out]
    exact Own.nil

set_option maxHeartbeats 1000000 in
theorem major_any (ao : Option Addr) (n cap : Nat) (xs : List Int) (w : World) (h : Sl w ao n cap xs) (h7 : n ≤ 1000) :
    Calls Tryz.prog 55 #[.slice ao n cap] w (Says w (.int .i64 (major xs))) := by
  have hbig := h.big
  have hlen := hid h.len
  have hl2 : (desc xs).length ≤ 1000 := by have := desc_len xs; rw [hlen.out] at this; omega
  have hds := hid (desc_small (xs := xs) (by rw [hlen.out]; exact h7))
  have hbd := sumL_bd hds.out hl2
  have hbd1 := hbd.1
  have hbd2 : sumL (desc xs) ≤ 1000000 := by have := hbd.2; omega
  clear hbd
  go_enter Tryz.func55, Tryz.ntmps55
  go_wp2_with fail
  refine (descents_any _ _ _ xs _ h h7).mono ?_
  rintro e w2 ⟨u2, rfl, ho2, hb2⟩
  obtain ⟨a2, c2, rfl, hs2⟩ := ho2.sl
  go_wp2_with fail
  refine (sum_any _ _ _ _ _ hs2 hl2 hds).mono ?_
  rintro e w3 ⟨rfl, hb3⟩
  go_wp2
  go_ret
  exact ⟨rfl, hb2.trans (hb3.mono hb2.size)⟩

set_option maxHeartbeats 1000000 in
theorem majorI_any (ao : Option Addr) (n cap : Nat) (xs : List Int) (w : World) (h : Sl w ao n cap xs) :
    Calls Tryz.prog 86 #[.slice ao n cap] w (Says w (.int .i64 (onVi xs (major xs) (-1)))) := by
  have hbig := h.big
  have hlen := hid h.len
  by_cases hv : Valid xs
  · have h7 : n ≤ 7 := by have := hv.len; rw [hlen.out] at this; exact this
    have Hv := hid hv
    go_enter Tryz.func86, Tryz.ntmps86
    go_wp2_with fail
    refine (validI_any _ _ _ xs _ h).mono ?_
    rintro e w1 ⟨rfl, hb1⟩
    have hsz := hb1.size
    go_wp2_with fail
    refine (descI_any _ _ _ xs _ (h.later hb1)).mono ?_
    rintro e w2 ⟨u2, rfl, ho2, hb2⟩
    rw [onV_yes Hv.out] at ho2
    obtain ⟨a2, c2, rfl, hs2⟩ := ho2.sl
    have hl2 : (desc xs).length ≤ 7 := by have := desc_len xs; rw [hlen.out] at this; omega
    have hts := hid (desc_small (xs := xs) (by rw [hlen.out]; omega))
    have hb3 := hb1.trans (hb2.mono hsz)
    clear hv
    obtain ⟨ts, Hts⟩ : ∃ ts, Hid (ts = desc xs) := ⟨_, rfl⟩
    rw [← Hts.out] at hs2 hl2 hts ⊢
    obtain ⟨m, hm⟩ : ∃ m, ts.length = m := ⟨_, rfl⟩
    rw [hm] at hs2 hl2 ⊢
    have Hm := hid hm
    clear hm ho2
    go_wp2
    go_loopw [3, 12] (fun v i wr => ∃ (k : Nat), k ≤ m ∧ v = .int .i64 (sumTo ts k + k) ∧ i = .int .i64 k ∧ Below w2.heap.size w2 wr)
      (fun _ i _ => m - (intOf i).toNat)
    case atStart => exact ⟨0, Nat.zero_le _, rfl, rfl, Below.refl _ _⟩
    case round =>
      obtain ⟨k, hk, rfl, rfl, hbr⟩ := hrel
      have hbd := sumTo_bd hts.out k (by rw [Hm.out]; exact hk)
      have hbb2 : sumTo ts k ≤ 1000000 := Int.le_trans hbd.2 (by have : (k : Int) * (1000 : Nat) ≤ 1000 * (1000 : Nat) := Int.mul_le_mul_of_nonneg_right (by omega) (by omega); omega)
      have hbb1 := hbd.1
      clear hbd
      by_cases hlt : k < m
      · obtain ⟨b, off, rfl, hblt, hc⟩ := hs2.row (by omega)
        have hcell := (hbr.cell (p := ⟨b, off + k, none⟩) hblt).trans (hc k hlt)
        have he := hts.out k (by rw [Hm.out]; exact hlt)
        have he0 := he.1
        have he1 := he.2
        clear hc he
        go_wp2
        go_roundw
        case rel => exact ⟨k + 1, by omega, by rw [sumTo]; congr 1; omega, by go_num, hbr⟩
        case measure => simp [intOf]; omega
      · obtain rfl : k = m := by omega
        go_wp2
        go_ret
        rw [onVi_yes Hv.out]
        exact says_int (by rw [major, ← Hts.out, sumL, Hm.out]) (hb3.trans (hbr.mono hb3.size))
  · have Hv := hid hv
    go_enter Tryz.func86, Tryz.ntmps86
    go_wp2_with fail
    refine (validI_any _ _ _ xs _ h).mono ?_
    rintro e w1 ⟨rfl, hb1⟩
    go_wp2
    go_ret
    rw [onVi_no Hv.out]
    exact ⟨rfl, hb1⟩

end Go.Proofs.YtaceiebmgnhdgaaGreatDoor

/- What the laws' own small functions answer: equal lists, a number in a list, sums, products. Condition: the lists' cells can be read. -/
namespace Go.Proofs.YtaceiebmgnhdgaaGreatDoor
open Go.RowKit

end Go.Proofs.YtaceiebmgnhdgaaGreatDoor

/- Ranks as plain functions of tables, and that both ways to reckon them agree. No condition. -/
namespace Go.Proofs.YtaceiebmgnhdgaaGreatDoor

def fac : Nat → Int
  | 0 => 1
  | n + 1 => fac n * ((n : Int) + 1)
theorem fac_pos (n : Nat) : 1 ≤ fac n := by
  induction n with
  | zero => exact Int.le_refl _
  | succ n ih =>
    rw [fac]
    have : 1 * 1 ≤ fac n * ((n : Int) + 1) := Int.mul_le_mul ih (by omega) (by omega) (by omega)
    omega
theorem fac_le {n : Nat} (h : n ≤ 7) : fac n ≤ 5040 := by
  have : ∀ n : Nat, n ≤ 7 → fac n ≤ 5040 := by decide
  exact this n h

/-- The rank, place by place from the front: as the program reckons it. -/
def rkP (t : List Int) (n : Nat) : Nat → Int
  | 0 => 0
  | k + 1 => rkP t n k * ((n : Int) - k) + el t k
/-- The rank as a sum: as the model reckons it. -/
def rkS (t : List Int) (n : Nat) : Nat → Int
  | 0 => 0
  | k + 1 => rkS t n k + el t k * fac (n - 1 - k)
theorem rk_both (t : List Int) (n : Nat) : ∀ k, k ≤ n → rkS t n k = rkP t n k * fac (n - k) := by
  intro k
  induction k with
  | zero => intro _; simp [rkS, rkP]
  | succ k ih =>
    intro hk
    rw [rkS, ih (by omega), rkP]
    obtain ⟨m, hm⟩ : ∃ m, n - k = m + 1 := ⟨n - k - 1, by omega⟩
    rw [hm, show n - 1 - k = m by omega, show n - (k + 1) = m by omega, fac, Int.add_mul]
    have e : (n : Int) - k = (m : Int) + 1 := by omega
    rw [e, ← Int.mul_assoc, Int.mul_assoc (rkP t n k) (fac m), Int.mul_comm (fac m), ← Int.mul_assoc]
theorem rk_eq (t : List Int) (n : Nat) : rkS t n n = rkP t n n := by
  rw [rk_both t n n (Nat.le_refl _), Nat.sub_self, fac, Int.mul_one]

def pow8 : Nat → Int
  | 0 => 1
  | k + 1 => pow8 k * 8
theorem rkP_bd {t : List Int} {n : Nat} (hn : n ≤ 7) (ht : ∀ j, j < n → 0 ≤ el t j ∧ el t j ≤ 7) : ∀ k, k ≤ n → 0 ≤ rkP t n k ∧ rkP t n k ≤ pow8 k - 1 := by
  intro k
  induction k with
  | zero => intro _; simp [rkP, pow8]
  | succ k ih =>
    intro hk
    have h1 := ih (by omega)
    have h2 := ht k (by omega)
    rw [rkP, pow8]
    have h3 : rkP t n k * ((n : Int) - k) ≤ rkP t n k * 7 := Int.mul_le_mul_of_nonneg_left (by omega) h1.1
    have h4 : 0 ≤ rkP t n k * ((n : Int) - k) := Int.mul_nonneg h1.1 (by omega)
    omega
theorem pow8_le {k : Nat} (h : k ≤ 7) : pow8 k ≤ 2097152 := by
  have : ∀ k : Nat, k ≤ 7 → pow8 k ≤ 2097152 := by decide
  exact this k h
theorem rkS_bd {t : List Int} {n : Nat} (hn : n ≤ 7) (ht : ∀ j, j < n → 0 ≤ el t j ∧ el t j ≤ 7) : ∀ k, k ≤ n → 0 ≤ rkS t n k ∧ rkS t n k ≤ k * 35280 := by
  intro k
  induction k with
  | zero => intro _; simp [rkS]
  | succ k ih =>
    intro hk
    have h1 := ih (by omega)
    have h2 := ht k (by omega)
    have f1 := fac_pos (n - 1 - k)
    have f2 := fac_le (n := n - 1 - k) (by omega)
    rw [rkS]
    have h3 : 0 ≤ el t k * fac (n - 1 - k) := Int.mul_nonneg h2.1 (by omega)
    have h4 : el t k * fac (n - 1 - k) ≤ 7 * 5040 := Int.mul_le_mul h2.2 f2 (by omega) (by omega)
    omega
def rk (xs : List Int) : Int := rkP (table xs) xs.length xs.length
theorem table_seven {xs : List Int} (h : Valid xs) : ∀ j, j < xs.length → 0 ≤ el (table xs) j ∧ el (table xs) j ≤ 7 := fun j hj => by
  have h1 := table_bd xs j (by rw [table_len]; exact hj)
  have := h.len
  omega
theorem rk_bd {xs : List Int} (h : Valid xs) : 0 ≤ rk xs ∧ rk xs ≤ 2097151 := by
  have h1 := rkP_bd h.len (table_seven h) xs.length (Nat.le_refl _)
  have h2 := pow8_le h.len
  unfold rk
  omega

end Go.Proofs.YtaceiebmgnhdgaaGreatDoor

/- Ranks, in the program and in its model. Condition: the list's cells can be read. -/
namespace Go.Proofs.YtaceiebmgnhdgaaGreatDoor
open Go.RowKit

theorem fac_mul {j : Nat} (h : j ≤ 7) : wrap64 (fac j * ((j : Int) + 1)) = fac (j + 1) := by
  have f1 := fac_pos (j + 1)
  have f2 : fac (j + 1) ≤ 40320 := by
    have : ∀ n : Nat, n ≤ 7 → fac (n + 1) ≤ 40320 := by decide
    exact this j h
  have e : fac j * ((j : Int) + 1) = fac (j + 1) := rfl
  rw [e]
  exact IntWalk.wrap64_in _ ⟨by omega, by omega⟩

theorem fac_ret {a b : Int} (h : a = b) : Ending.returned (.int .i64 a) = .returned (.int .i64 b) := by rw [h]

end Go.Proofs.YtaceiebmgnhdgaaGreatDoor

/- Opposites of orders: they are orders, and major indices of both are all pairs together. No condition. -/
namespace Go.Proofs.YtaceiebmgnhdgaaGreatDoor

theorem opp_len (xs : List Int) : (opp xs).length = xs.length := map_range_len _
theorem el_opp {xs : List Int} {j : Nat} (h : j < xs.length) : el (opp xs) j = (xs.length : Int) - 1 - el xs j := el_map h
theorem opp_valid {xs : List Int} (h : Valid xs) : Valid (opp xs) := by
  refine ⟨by rw [opp_len]; exact h.len, fun j hj => ?_, fun j hj => ?_, fun i j hij hj => ?_⟩
  · rw [opp_len] at hj
    rw [el_opp hj]
    have := h.hi j hj
    omega
  · rw [opp_len] at hj ⊢
    rw [el_opp hj]
    have := h.lo j hj
    omega
  · rw [opp_len] at hj
    rw [el_opp hj, el_opp (by omega)]
    have := h.ne i j hij hj
    omega

theorem sumTo_app {l : List Int} {x : Int} : ∀ k, k ≤ l.length → sumTo (l ++ [x]) k = sumTo l k := by
  intro k
  induction k with
  | zero => intro _; rfl
  | succ k ih =>
    intro hk
    rw [sumTo, sumTo, ih (by omega)]
    congr 1
    simp [el, List.getElem?_append_left (show k < l.length by omega)]
def majP (xs : List Int) (k : Nat) : Int := sumL (dsP xs k) + (dsP xs k).length
theorem majP_yes {xs : List Int} {k : Nat} (h : el xs (k + 1) < el xs k) : majP xs (k + 1) = majP xs k + (k + 1) := by
  unfold majP
  rw [dsP_yes h, sumL_app, List.length_append, List.length_singleton]
  omega
theorem majP_no {xs : List Int} {k : Nat} (h : el xs k ≤ el xs (k + 1)) : majP xs (k + 1) = majP xs k := by
  unfold majP
  rw [dsP_no h]

theorem opp_step {xs : List Int} (h : Valid xs) {k : Nat} (hk : k + 1 < xs.length) : (el xs (k + 1) < el xs k ∧ el (opp xs) k ≤ el (opp xs) (k + 1)) ∨ (el xs k ≤ el xs (k + 1) ∧ el (opp xs) (k + 1) < el (opp xs) k) := by
  rw [el_opp hk, el_opp (show k < xs.length by omega)]
  have := h.ne k (k + 1) (by omega) hk
  omega

theorem opp_major {xs : List Int} (h : Valid xs) : 2 * (major xs + major (opp xs)) = (xs.length : Int) * ((xs.length : Int) - 1) := by
  have key : ∀ k, k ≤ xs.length - 1 → 2 * (majP xs k + majP (opp xs) k) = (k : Int) * ((k : Int) + 1) := by
    intro k
    induction k with
    | zero => intro _; rfl
    | succ k ih =>
      intro hk
      have h1 := ih (by omega)
      have e : ((k + 1 : Nat) : Int) * (((k + 1 : Nat) : Int) + 1) = (k : Int) * ((k : Int) + 1) + 2 * ((k : Int) + 1) := by
        have e1 : ((k + 1 : Nat) : Int) = (k : Int) + 1 := by omega
        rw [e1, show (k : Int) + 1 + 1 = k + 2 by omega, Int.mul_add, Int.mul_comm ((k : Int) + 1) k, Int.mul_comm ((k : Int) + 1) 2]
      rw [e]
      clear e
      generalize (k : Int) * ((k : Int) + 1) = z at h1 ⊢
      rcases opp_step h (k := k) (by omega) with ⟨a, b⟩ | ⟨a, b⟩
      · rw [majP_yes a, majP_no b]; omega
      · rw [majP_no a, majP_yes b]; omega
  have := key (xs.length - 1) (Nat.le_refl _)
  have e1 : majP xs (xs.length - 1) = major xs := rfl
  have e2 : majP (opp xs) (xs.length - 1) = major (opp xs) := by rw [major, desc, opp_len]; rfl
  rw [e1, e2] at this
  rw [this]
  rcases Nat.eq_zero_or_pos xs.length with hz | hz
  · rw [hz]; rfl
  · have e3 : ((xs.length - 1 : Nat) : Int) = (xs.length : Int) - 1 := by omega
    rw [e3, Int.sub_add_cancel, Int.mul_comm]

end Go.Proofs.YtaceiebmgnhdgaaGreatDoor

/- More of the laws' own small functions: a number in a list, ascending lists, products. Condition: the lists' cells can be read. -/
namespace Go.Proofs.YtaceiebmgnhdgaaGreatDoor
open Go.RowKit

def Asc (xs : List Int) : Prop := ∀ i, i < xs.length → 0 < i → el xs (i - 1) < el xs i
instance (xs : List Int) : Decidable (Asc xs) := inferInstanceAs (Decidable (∀ i, i < xs.length → 0 < i → el xs (i - 1) < el xs i))

theorem mem_dsP (xs : List Int) (i : Nat) : ∀ k, ((i : Int) ∈ dsP xs k) ↔ (i < k ∧ el xs (i + 1) < el xs i) := by
  intro k
  induction k with
  | zero => simp [dsP]
  | succ k ih =>
    by_cases e : el xs (k + 1) < el xs k
    · rw [dsP_yes e, List.mem_append, ih, List.mem_singleton]
      constructor
      · rintro (⟨a, b⟩ | a)
        · exact ⟨by omega, b⟩
        · obtain rfl : i = k := by omega
          exact ⟨by omega, e⟩
      · rintro ⟨a, b⟩
        by_cases ei : i = k
        · right; omega
        · left; exact ⟨by omega, b⟩
    · rw [dsP_no (by omega), ih]
      constructor
      · rintro ⟨a, b⟩; exact ⟨by omega, b⟩
      · rintro ⟨a, b⟩
        refine ⟨?_, b⟩
        rcases Nat.lt_or_ge i k with h | h
        · exact h
        · obtain rfl : i = k := by omega
          exact absurd b e
theorem mem_desc {xs : List Int} {i : Nat} (h : i + 1 < xs.length) : ((i : Int) ∈ desc xs) ↔ el xs (i + 1) < el xs i := by
  rw [desc, mem_dsP]
  constructor
  · exact fun a => a.2
  · exact fun a => ⟨by omega, a⟩

theorem opp_fall {xs : List Int} (hv : Valid xs) {i : Nat} (h : i + 1 < xs.length) : (decide ((i : Int) ∈ desc xs) == decide ((i : Int) ∈ desc (opp xs))) = false := by
  have h1 := mem_desc h
  have h2 := mem_desc (xs := opp xs) (i := i) (by rw [opp_len]; exact h)
  rw [decide_eq_decide.2 h1, decide_eq_decide.2 h2]
  rcases opp_step hv h with ⟨a, b⟩ | ⟨a, b⟩
  · rw [decide_eq_true a, decide_eq_false (by omega)]; rfl
  · rw [decide_eq_false (by omega), decide_eq_true b]; rfl

theorem opp_opp {xs : List Int} : opp (opp xs) = xs := by
  refine ext_el (by rw [opp_len, opp_len]) (fun j hj => ?_)
  rw [opp_len, opp_len] at hj
  rw [el_opp (by rw [opp_len]; exact hj), el_opp hj, opp_len]
  omega

end Go.Proofs.YtaceiebmgnhdgaaGreatDoor

/- Turned orders: they are orders, and they fall where the order rises, from the other end; descents ascend. No condition. -/
namespace Go.Proofs.YtaceiebmgnhdgaaGreatDoor

theorem turn_len (xs : List Int) : (turn xs).length = xs.length := map_range_len _
theorem el_turn {xs : List Int} {j : Nat} (h : j < xs.length) : el (turn xs) j = el xs (xs.length - 1 - j) := el_map h
theorem turn_valid {xs : List Int} (h : Valid xs) : Valid (turn xs) := by
  refine ⟨by rw [turn_len]; exact h.len, fun j hj => ?_, fun j hj => ?_, fun i j hij hj => ?_⟩
  · rw [turn_len] at hj
    rw [el_turn hj]
    exact h.lo _ (by omega)
  · rw [turn_len] at hj ⊢
    rw [el_turn hj]
    exact h.hi _ (by omega)
  · rw [turn_len] at hj
    rw [el_turn hj, el_turn (by omega)]
    exact fun e => h.ne (xs.length - 1 - j) (xs.length - 1 - i) (by omega) (by omega) e.symm
theorem turn_turn {xs : List Int} : turn (turn xs) = xs := by
  refine ext_el (by rw [turn_len, turn_len]) (fun j hj => ?_)
  rw [turn_len, turn_len] at hj
  rw [el_turn (by rw [turn_len]; exact hj), turn_len, el_turn (by omega)]
  congr 1
  omega

theorem turn_fall {xs : List Int} (hv : Valid xs) {i : Nat} (h : i + 1 < xs.length) : (decide ((i : Int) ∈ desc xs) == decide (((xs.length : Int) - 2 - i) ∈ desc (turn xs))) = false := by
  have h1 := mem_desc h
  have e : (xs.length : Int) - 2 - i = ((xs.length - 2 - i : Nat) : Int) := by omega
  have h2 := mem_desc (xs := turn xs) (i := xs.length - 2 - i) (by rw [turn_len]; omega)
  rw [el_turn (by omega), el_turn (by omega), show xs.length - 1 - (xs.length - 2 - i + 1) = i by omega, show xs.length - 1 - (xs.length - 2 - i) = i + 1 by omega] at h2
  rw [e, decide_eq_decide.2 h1, decide_eq_decide.2 h2]
  have hne := hv.ne i (i + 1) (by omega) h
  rcases Int.lt_or_le (el xs (i + 1)) (el xs i) with a | a
  · rw [decide_eq_true a, decide_eq_false (by omega)]; rfl
  · rw [decide_eq_false (by omega), decide_eq_true (by omega)]; rfl

theorem el_app_lt {a : List Int} {x : Int} {j : Nat} (h : j < a.length) : el (a ++ [x]) j = el a j := by simp [el, List.getElem?_append_left h]
theorem el_app_eq {a : List Int} {x : Int} : el (a ++ [x]) a.length = x := by simp [el]

theorem asc_dsP (xs : List Int) : ∀ k, Asc (dsP xs k) := by
  intro k
  induction k with
  | zero => intro i hi _; simp [dsP] at hi
  | succ k ih =>
    rw [dsP]
    split
    · intro i hi h0
      rw [List.length_append, List.length_singleton] at hi
      by_cases e : i = (dsP xs k).length
      · rw [el_app_lt (by omega), e, el_app_eq]
        have := dsP_mem xs k _ (el_mem (xs := dsP xs k) (j := (dsP xs k).length - 1) (by omega))
        exact this.2
      · rw [el_app_lt (by omega), el_app_lt (by omega)]
        exact ih i (by omega) h0
    · exact ih
theorem asc_desc (xs : List Int) : Asc (desc xs) := asc_dsP xs _

end Go.Proofs.YtaceiebmgnhdgaaGreatDoor

/- Sums of numbers. No condition. -/
namespace Go.Proofs.YtaceiebmgnhdgaaGreatDoor

/-- The sum of the first k numbers g. -/
def S (g : Nat → Int) : Nat → Int
  | 0 => 0
  | k + 1 => S g k + g k
theorem S_congr {g h : Nat → Int} : ∀ k, (∀ j, j < k → g j = h j) → S g k = S h k := by
  intro k
  induction k with
  | zero => intro _; rfl
  | succ k ih => intro e; rw [S, S, ih (fun j hj => e j (by omega)), e k (by omega)]
theorem S_add (g h : Nat → Int) : ∀ k, S (fun i => g i + h i) k = S g k + S h k := by
  intro k
  induction k with
  | zero => rfl
  | succ k ih => rw [S, S, S, ih]; omega
theorem S_front (g : Nat → Int) : ∀ m, S g (m + 1) = g 0 + S (fun t => g (t + 1)) m := by
  intro m
  induction m with
  | zero => simp [S]
  | succ m ih => rw [S, ih, S]; omega
theorem S_rev (g : Nat → Int) : ∀ m, S g m = S (fun t => g (m - 1 - t)) m := by
  intro m
  induction m with
  | zero => rfl
  | succ m ih =>
    have e1 : S (fun t => g (m + 1 - 1 - t)) (m + 1) = g (m + 1 - 1 - 0) + S (fun t => g (m + 1 - 1 - (t + 1))) m := S_front _ m
    have e2 : S (fun t => g (m - 1 - t)) m = S (fun t => g (m + 1 - 1 - (t + 1))) m := S_congr m (fun j _ => by congr 1; omega)
    rw [e1, ← e2, S, ih, show m + 1 - 1 - 0 = m by omega]
    omega
def ind (p : Nat → Bool) (j : Nat) : Int := if p j then 1 else 0
theorem cntP_S (p : Nat → Bool) : ∀ k, cntP p k = S (ind p) k := by
  intro k
  induction k with
  | zero => rfl
  | succ k ih =>
    rw [cntP, S, ih, ind]
    split <;> omega
theorem cntP_rev (p : Nat → Bool) (m : Nat) : cntP p m = cntP (fun t => p (m - 1 - t)) m := by
  rw [cntP_S, cntP_S, S_rev]
  rfl
theorem sumTo_S (xs : List Int) : ∀ k, sumTo xs k = S (el xs) k := by
  intro k
  induction k with
  | zero => rfl
  | succ k ih => rw [sumTo, S, ih]
theorem table_S (xs : List Int) : sumL (table xs) = S (lb xs) xs.length := by
  rw [sumL, sumTo_S, table_len]
  exact S_congr _ (fun j hj => el_table hj)

end Go.Proofs.YtaceiebmgnhdgaaGreatDoor

/- Inversions of an order and of the order turned are all pairs; of a rising order alone there are none. No condition. -/
namespace Go.Proofs.YtaceiebmgnhdgaaGreatDoor

/-- How many lesser numbers stand ahead of place i; how many greater ones. -/
def la (xs : List Int) (i : Nat) : Int := cntP (fun t => decide (el xs t < el xs i)) i
def ga (xs : List Int) (i : Nat) : Int := cntP (fun t => decide (el xs i < el xs t)) i

theorem rows_cols (xs : List Int) : ∀ k, S (fun i => lbP xs i (k - 1 - i)) k = S (ga xs) k := by
  intro k
  induction k with
  | zero => rfl
  | succ k ih =>
    rw [S, S, ← ih]
    have h0 : lbP xs k (k + 1 - 1 - k) = 0 := by rw [show k + 1 - 1 - k = 0 by omega]; rfl
    have h1 : S (fun i => lbP xs i (k + 1 - 1 - i)) k = S (fun i => lbP xs i (k - 1 - i) + ind (fun t => decide (el xs k < el xs t)) i) k := by
      refine S_congr k (fun j hj => ?_)
      obtain ⟨m, hm⟩ : ∃ m, k - 1 - j = m := ⟨_, rfl⟩
      rw [show k + 1 - 1 - j = m + 1 by omega, hm, ind]
      have hk : j + 1 + m = k := by omega
      by_cases e : el xs k < el xs j
      · rw [lbP_yes (by rw [hk]; exact e)]; simp [e]
      · rw [lbP_no (by rw [hk]; omega)]; simp [e]
    rw [h0, h1, S_add, ga, cntP_S]
    omega

theorem invs_ga (xs : List Int) : sumL (table xs) = S (ga xs) xs.length := by
  rw [table_S, ← rows_cols]
  rfl

theorem invs_turn (xs : List Int) : sumL (table (turn xs)) = S (la xs) xs.length := by
  rw [table_S, turn_len, S_rev (la xs)]
  refine S_congr _ (fun i hi => ?_)
  have e1 : el (turn xs) i = el xs (xs.length - 1 - i) := el_turn hi
  have e3 : lb (turn xs) i = cntP (fun j => decide (el (turn xs) (i + 1 + j) < el (turn xs) i)) (xs.length - 1 - i) := by rw [lb, turn_len]; rfl
  rw [e3, la, cntP_rev, cntP_S, cntP_S]
  refine S_congr _ (fun t ht => ?_)
  have e2 : el (turn xs) (i + 1 + (xs.length - 1 - i - 1 - t)) = el xs t := by
    rw [el_turn (by omega)]; congr 1; omega
  show ind _ t = ind _ t
  unfold ind
  simp only [e2, e1]

theorem la_ga {xs : List Int} (h : Valid xs) {i : Nat} (hi : i < xs.length) : la xs i + ga xs i = i := by
  have key : ∀ k, k ≤ i → cntP (fun t => decide (el xs t < el xs i)) k + cntP (fun t => decide (el xs i < el xs t)) k = k := by
    intro k
    induction k with
    | zero => intro _; rfl
    | succ k ih =>
      intro hk
      have h1 := ih (by omega)
      have hne := h.ne k i (by omega) hi
      rcases Int.lt_or_le (el xs k) (el xs i) with a | a
      · rw [cntP_yes (by simpa using a), cntP_no (by simp; omega)]; omega
      · rw [cntP_no (by simp; omega), cntP_yes (by simp; omega)]; omega
  exact key i (Nat.le_refl _)

theorem turn_pairs {xs : List Int} (h : Valid xs) : 2 * (sumL (table (turn xs)) + sumL (table xs)) = (xs.length : Int) * ((xs.length : Int) - 1) := by
  rw [invs_turn, invs_ga]
  have key : ∀ k, k ≤ xs.length → 2 * (S (la xs) k + S (ga xs) k) = (k : Int) * ((k : Int) - 1) := by
    intro k
    induction k with
    | zero => intro _; rfl
    | succ k ih =>
      intro hk
      have h1 := ih (by omega)
      have h2 := la_ga h (i := k) (by omega)
      rw [S, S]
      have e : ((k + 1 : Nat) : Int) * (((k + 1 : Nat) : Int) - 1) = (k : Int) * ((k : Int) - 1) + 2 * k := by
        have e1 : ((k + 1 : Nat) : Int) = (k : Int) + 1 := by omega
        rw [e1, show (k : Int) + 1 - 1 = k by omega, Int.mul_sub, Int.add_mul]
        omega
      rw [e]
      clear e
      generalize (k : Int) * ((k : Int) - 1) = z at h1 ⊢
      omega
  exact key xs.length (Nat.le_refl _)

theorem S_nn {g : Nat → Int} : ∀ k, (∀ j, j < k → 0 ≤ g j) → 0 ≤ S g k := by
  intro k
  induction k with
  | zero => intro _; exact Int.le_refl _
  | succ k ih => intro h; rw [S]; have := ih (fun j hj => h j (by omega)); have := h k (by omega); omega
theorem S_zero {g : Nat → Int} : ∀ k, (∀ j, j < k → 0 ≤ g j) → S g k = 0 → ∀ j, j < k → g j = 0 := by
  intro k
  induction k with
  | zero => intro _ _ j hj; omega
  | succ k ih =>
    intro h e j hj
    rw [S] at e
    have h1 := S_nn k (fun j hj => h j (by omega))
    have h2 := h k (by omega)
    by_cases ej : j = k
    · rw [ej]; omega
    · exact ih (fun j hj => h j (by omega)) (by omega) j (by omega)

/-- No inversions: the order rises. -/
theorem rises {xs : List Int} (h : Valid xs) (h0 : sumL (table xs) = 0) : xs = rise xs.length := by
  rw [invs_ga] at h0
  have hz := S_zero xs.length (fun j _ => (cntP_bd _ _).1) h0
  have hup : ∀ i j, i < j → j < xs.length → el xs i < el xs j := by
    intro i j hij hj
    have h1 : ga xs j = 0 := hz j hj
    rw [ga, cntP_S] at h1
    have h2 := S_zero j (fun t _ => by rw [ind]; split <;> omega) h1 i hij
    rw [ind] at h2
    have h3 : ¬ el xs j < el xs i := by
      intro a
      rw [if_pos (by simpa using a)] at h2
      omega
    have := h.ne i j hij hj
    omega
  have lo : ∀ i : Nat, i < xs.length → (i : Int) ≤ el xs i := by
    intro i
    induction i with
    | zero => intro hi; exact h.lo 0 hi
    | succ i ih => intro hi; have := ih (by omega); have := hup i (i + 1) (by omega) hi; omega
  have hi' : ∀ k : Nat, k < xs.length → el xs (xs.length - 1 - k) ≤ (xs.length : Int) - 1 - k := by
    intro k
    induction k with
    | zero => intro hk; have := h.hi (xs.length - 1 - 0) (by omega); omega
    | succ k ih => intro hk; have := ih (by omega); have := hup (xs.length - 1 - (k + 1)) (xs.length - 1 - k) (by omega) (by omega); omega
  refine ext_el (by rw [rise_len]) (fun j hj => ?_)
  rw [rise, el_map hj]
  have a := lo j hj
  have b := hi' (xs.length - 1 - j) (by omega)
  rw [show xs.length - 1 - (xs.length - 1 - j) = j by omega] at b
  omega

end Go.Proofs.YtaceiebmgnhdgaaGreatDoor

/- Denert's number, as the program and as the model reckon it. No condition. -/
namespace Go.Proofs.YtaceiebmgnhdgaaGreatDoor

theorem cntP_congr {p q : Nat → Bool} : ∀ k, (∀ j, j < k → p j = q j) → cntP p k = cntP q k := by
  intro k
  induction k with
  | zero => intro _; rfl
  | succ k ih => intro h; rw [cntP, cntP, ih (fun j hj => h j (by omega)), h k (by omega)]

/-- The values at places above, and at all other places, among the first k places. -/
def uvP (xs : List Int) : Nat → List Int
  | 0 => []
  | k + 1 => if (k : Int) < el xs k then uvP xs k ++ [el xs k] else uvP xs k
def dvP (xs : List Int) : Nat → List Int
  | 0 => []
  | k + 1 => if (k : Int) < el xs k then dvP xs k else dvP xs k ++ [el xs k]
/-- The sum of the places above, each with 1 more. -/
def duP (xs : List Int) : Nat → Int
  | 0 => 0
  | k + 1 => if (k : Int) < el xs k then duP xs k + k + 1 else duP xs k
theorem uvP_yes {xs : List Int} {k : Nat} (h : (k : Int) < el xs k) : uvP xs (k + 1) = uvP xs k ++ [el xs k] := by rw [uvP, if_pos h]
theorem uvP_no {xs : List Int} {k : Nat} (h : el xs k ≤ (k : Int)) : uvP xs (k + 1) = uvP xs k := by rw [uvP, if_neg (by omega)]
theorem dvP_yes {xs : List Int} {k : Nat} (h : (k : Int) < el xs k) : dvP xs (k + 1) = dvP xs k := by rw [dvP, if_pos h]
theorem dvP_no {xs : List Int} {k : Nat} (h : el xs k ≤ (k : Int)) : dvP xs (k + 1) = dvP xs k ++ [el xs k] := by rw [dvP, if_neg (by omega)]
theorem duP_yes {xs : List Int} {k : Nat} (h : (k : Int) < el xs k) : duP xs (k + 1) = duP xs k + k + 1 := by rw [duP, if_pos h]
theorem duP_no {xs : List Int} {k : Nat} (h : el xs k ≤ (k : Int)) : duP xs (k + 1) = duP xs k := by rw [duP, if_neg (by omega)]
theorem uvP_len (xs : List Int) (k : Nat) : (uvP xs k).length ≤ k := by
  induction k with
  | zero => simp [uvP]
  | succ k ih =>
    rw [uvP]
    split
    · rw [List.length_append, List.length_singleton]; omega
    · omega
theorem dvP_len (xs : List Int) (k : Nat) : (dvP xs k).length ≤ k := by
  induction k with
  | zero => simp [dvP]
  | succ k ih =>
    rw [dvP]
    split
    · omega
    · rw [List.length_append, List.length_singleton]; omega
theorem duP_bd (xs : List Int) (k : Nat) : 0 ≤ duP xs k ∧ duP xs k ≤ k * k := by
  induction k with
  | zero => simp [duP]
  | succ k ih =>
    have e : ((k + 1 : Nat) : Int) * (k + 1 : Nat) = k * k + k + k + 1 := by rw [Int.natCast_add, Int.add_mul, Int.mul_add]; simp; omega
    rw [duP, e]
    split <;> omega

/-- How many numbers of a list are greater than v. -/
def gr (ys : List Int) (v : Int) : Int := cntP (fun t => decide (v < el ys t)) ys.length
theorem gr_app (ys : List Int) (x v : Int) : gr (ys ++ [x]) v = gr ys v + if v < x then 1 else 0 := by
  rw [gr, List.length_append, List.length_singleton, cntP, el_app_eq, gr]
  have e : cntP (fun t => decide (v < el (ys ++ [x]) t)) ys.length = cntP (fun t => decide (v < el ys t)) ys.length := cntP_congr _ (fun j hj => by rw [el_app_lt hj])
  rw [e]
  by_cases h : v < x
  · simp [h]
  · simp [h]
theorem invs_app (ys : List Int) (v : Int) : sumL (table (ys ++ [v])) = sumL (table ys) + gr ys v := by
  rw [invs_ga, invs_ga, List.length_append, List.length_singleton, S]
  have e1 : S (ga (ys ++ [v])) ys.length = S (ga ys) ys.length := by
    refine S_congr _ (fun i hi => ?_)
    rw [ga, ga]
    exact cntP_congr _ (fun j hj => by rw [el_app_lt hi, el_app_lt (by omega)])
  have e2 : ga (ys ++ [v]) ys.length = gr ys v := by
    rw [ga, gr]
    exact cntP_congr _ (fun j hj => by rw [el_app_eq, el_app_lt hj])
  rw [e1, e2]
theorem gr_uv (xs : List Int) (v : Int) : ∀ k, gr (uvP xs k) v = cntP (fun i => decide ((i : Int) < el xs i) && decide (v < el xs i)) k := by
  intro k
  induction k with
  | zero => rfl
  | succ k ih =>
    by_cases a : (k : Int) < el xs k
    · rw [uvP_yes a, gr_app, ih]
      by_cases b : v < el xs k
      · rw [cntP_yes (by simp [a, b]), if_pos b]
      · rw [cntP_no (by simp [b]), if_neg b]; omega
    · rw [uvP_no (by omega), ih, cntP_no (by simp [a])]
theorem gr_dv (xs : List Int) (v : Int) : ∀ k, gr (dvP xs k) v = cntP (fun i => !decide ((i : Int) < el xs i) && decide (v < el xs i)) k := by
  intro k
  induction k with
  | zero => rfl
  | succ k ih =>
    by_cases a : (k : Int) < el xs k
    · rw [dvP_yes a, ih, cntP_no (by simp [a])]
    · rw [dvP_no (by omega), gr_app, ih]
      by_cases b : v < el xs k
      · rw [cntP_yes (by simp [a, b]), if_pos b]
      · rw [cntP_no (by simp [b]), if_neg b]; omega
theorem den_pairs (xs : List Int) : ∀ k, sumL (table (uvP xs k)) + sumL (table (dvP xs k)) = prP denF xs k := by
  intro k
  induction k with
  | zero => rfl
  | succ k ih =>
    rw [prP, inP, ← ih]
    by_cases a : (k : Int) < el xs k
    · rw [uvP_yes a, dvP_yes a, invs_app, gr_uv]
      have e : cntP (fun i => decide ((i : Int) < el xs i) && decide (el xs k < el xs i)) k = cntP (fun i => denF i (el xs i) k (el xs k)) k := cntP_congr _ (fun j _ => by
        by_cases b : (j : Int) < el xs j <;> simp [denF, a, b])
      rw [e]; omega
    · rw [uvP_no (by omega), dvP_no (by omega), invs_app, gr_dv]
      have e : cntP (fun i => !decide ((i : Int) < el xs i) && decide (el xs k < el xs i)) k = cntP (fun i => denF i (el xs i) k (el xs k)) k := cntP_congr _ (fun j _ => by
        by_cases b : (j : Int) < el xs j <;> simp [denF, a, b])
      rw [e]; omega
def den (xs : List Int) : Int := pairs denF xs + duP xs xs.length
theorem den_eq (xs : List Int) : duP xs xs.length + sumL (table (uvP xs xs.length)) + sumL (table (dvP xs xs.length)) = den xs := by
  have := den_pairs xs xs.length
  rw [den, pairs]; omega
theorem du_above (xs : List Int) : ∀ k, sumL (plP upF xs k) + (plP upF xs k).length = duP xs k := by
  intro k
  induction k with
  | zero => rfl
  | succ k ih =>
    by_cases a : (k : Int) < el xs k
    · rw [plP_yes (by simp [upF, a]), duP_yes a, sumL_app, List.length_append, List.length_singleton]; omega
    · rw [plP_no (by simp [upF, a]), duP_no (by omega), ih]
theorem den_above (xs : List Int) : ((above xs).length : Int) ≤ den xs := by
  have h1 := du_above xs xs.length
  have h2 := (prP_bd denF xs xs.length).1
  have h3 : 0 ≤ sumL (plP upF xs xs.length) := by
    have : ∀ k, 0 ≤ sumL (plP upF xs k) := by
      intro k
      induction k with
      | zero => exact Int.le_refl _
      | succ k ih =>
        rw [plP]
        split
        · rw [sumL_app]; omega
        · exact ih
    exact this _
  rw [den, pairs, above]; omega

theorem du_zero (xs : List Int) : ∀ k, duP xs k ≤ 0 → ∀ j, j < k → el xs j ≤ j := by
  intro k
  induction k with
  | zero => intro _ j hj; omega
  | succ k ih =>
    intro h j hj
    have h1 := (duP_bd xs k).1
    by_cases a : (k : Int) < el xs k
    · rw [duP_yes a] at h; omega
    · rw [duP_no (by omega)] at h
      by_cases e : j = k
      · subst e; omega
      · exact ih h j (by omega)
theorem below_rise {xs : List Int} (h : Valid xs) (hb : ∀ j, j < xs.length → el xs j ≤ j) : xs = rise xs.length := by
  refine ext_el (by rw [rise_len]) (fun j hj => ?_)
  rw [rise, el_map hj]
  have key : ∀ m j, j < m → j < xs.length → el xs j = j := by
    intro m
    induction m with
    | zero => intro j hj; omega
    | succ m ih =>
      intro j hj hl
      by_cases e : j = m
      · have h1 := hb j hl
        have h2 := h.lo j hl
        rcases Int.lt_or_le (el xs j) j with a | a
        · have h3 := ih (el xs j).toNat (by omega) (by omega)
          have h4 := h.ne (el xs j).toNat j (by omega) hl
          omega
        · omega
      · exact ih j (by omega) hl
  exact key (j + 1) j (by omega) hj
theorem rise_den : ∀ n : Nat, n ≤ 7 → den (rise n) = 0 := by decide +kernel
theorem den_zero {xs : List Int} (h : Valid xs) : den xs = 0 ↔ xs = rise xs.length := by
  constructor
  · intro e
    have h1 := (prP_bd denF xs xs.length).1
    rw [den, pairs] at e
    exact below_rise h (du_zero xs xs.length (by omega))
  · intro e
    rw [e]
    exact rise_den _ h.len

end Go.Proofs.YtaceiebmgnhdgaaGreatDoor

/- Rows of numbers: products of polynomials, and rows that are made from them. No condition. -/
namespace Go.Proofs.YtaceiebmgnhdgaaGreatDoor

/-- All numbers lie between 0 and M. -/
def Bd (zs : List Int) (M : Int) : Prop := ∀ j, 0 ≤ el zs j ∧ el zs j ≤ M
theorem el_over {zs : List Int} {j : Nat} (h : zs.length ≤ j) : el zs j = 0 := by simp [el, List.getD, h]
theorem Bd.of {zs : List Int} {M : Int} (hM : 0 ≤ M) (h : zs.all (fun x => decide (0 ≤ x) && decide (x ≤ M)) = true) : Bd zs M := fun j => by
  by_cases hj : j < zs.length
  · have := List.all_eq_true.1 h _ (el_mem hj)
    simpa using this
  · rw [el_over (by omega)]; omega
theorem Bd.zero (n : Nat) : Bd (List.replicate n 0) 0 := fun j => by
  have : el (List.replicate n 0) j = 0 := by
    by_cases hj : j < n
    · simp [el, hj]
    · exact el_over (by simp; omega)
  omega
theorem Bd.mono {zs : List Int} {M N : Int} (h : Bd zs M) (hN : M ≤ N) : Bd zs N := fun j => ⟨(h j).1, Int.le_trans (h j).2 hN⟩

/-- One number is added at place j. -/
def addAt (zs : List Int) (j : Nat) (v : Int) : List Int := zs.set j (el zs j + v)
theorem addAt_len (zs : List Int) (j : Nat) (v : Int) : (addAt zs j v).length = zs.length := List.length_set
theorem Bd.add {zs : List Int} {M c v : Int} (h : Bd zs M) (j : Nat) (h0 : 0 ≤ v) (h1 : v ≤ c) : Bd (addAt zs j v) (M + c) := fun i => by
  have hi := h i
  by_cases e : j = i
  · subst e
    by_cases hl : j < zs.length
    · rw [addAt, el_set_same hl]; omega
    · rw [addAt, List.set_eq_of_length_le (by omega)]; omega
  · rw [addAt, el_set_ne e]; omega

/-- The first t products of row i are added; the products of the first i rows. -/
def muR (a b : List Int) (i : Nat) (zs : List Int) : Nat → List Int
  | 0 => zs
  | t + 1 => addAt (muR a b i zs t) (i + t) (el a i * el b t)
def muP (a b : List Int) : Nat → List Int
  | 0 => List.replicate (a.length + b.length - 1) 0
  | i + 1 => muR a b i (muP a b i) b.length
def mul (a b : List Int) : List Int := muP a b a.length
theorem muR_len (a b : List Int) (i : Nat) (zs : List Int) (t : Nat) : (muR a b i zs t).length = zs.length := by
  induction t with
  | zero => rfl
  | succ t ih => rw [muR, addAt_len, ih]
theorem muP_len (a b : List Int) (i : Nat) : (muP a b i).length = a.length + b.length - 1 := by
  induction i with
  | zero => simp [muP]
  | succ i ih => rw [muP, muR_len, ih]
theorem mul_len (a b : List Int) : (mul a b).length = a.length + b.length - 1 := muP_len _ _ _
theorem prod_bd {x y A B : Int} (hx : 0 ≤ x ∧ x ≤ A) (hy : 0 ≤ y ∧ y ≤ B) : 0 ≤ x * y ∧ x * y ≤ A * B :=
  ⟨Int.mul_nonneg hx.1 hy.1, Int.mul_le_mul hx.2 hy.2 hy.1 (by omega)⟩
theorem muR_bd {a b zs : List Int} {M : Int} (ha : Bd a 10000) (hb : Bd b 10) (i : Nat) (h : Bd zs M) : ∀ t, Bd (muR a b i zs t) (M + t * 100000) := by
  intro t
  induction t with
  | zero => simpa [muR] using h
  | succ t ih =>
    have hp := prod_bd (ha i) (hb t)
    have := ih.add (i + t) hp.1 hp.2
    rw [muR]
    refine this.mono ?_
    omega
theorem muP_bd {a b : List Int} (ha : Bd a 10000) (hb : Bd b 10) (h10 : b.length ≤ 10) : ∀ i, Bd (muP a b i) (i * 1000000) := by
  intro i
  induction i with
  | zero => simpa [muP] using Bd.zero _
  | succ i ih =>
    rw [muP]
    refine (muR_bd ha hb i ih b.length).mono ?_
    omega

/-- The product of x, x + 1, .., x + n - 1. -/
def cir : Nat → List Int
  | 0 => [1]
  | n + 1 => mul (cir n) [(n : Int), 1]
theorem cir_fits : ∀ n : Nat, n < 8 → (cir n).all (fun x => decide (0 ≤ x) && decide (x ≤ 10000)) = true ∧ (cir n).length = n + 1 := by decide
theorem cir_bd {n : Nat} (h : n ≤ 7) : Bd (cir n) 10000 := Bd.of (by omega) (cir_fits n (by omega)).1
theorem cir_len {n : Nat} (h : n ≤ 7) : (cir n).length = n + 1 := (cir_fits n (by omega)).2
theorem two_bd {n : Nat} (h : n ≤ 7) : Bd [(n : Int), 1] 10 := Bd.of (by omega) (by simp; omega)

/-- Rows of ones, and their product. -/
def onesL (k : Nat) : List Int := List.replicate k 1
def prw : Nat → List Int
  | 0 => [1]
  | n + 1 => mul (prw n) (onesL (n + 1))
theorem prw_fits : ∀ n : Nat, n < 8 → (prw n).all (fun x => decide (0 ≤ x) && decide (x ≤ 10000)) = true ∧ (prw n).length ≤ 22 ∧ 0 < (prw n).length := by decide
theorem prw_bd {n : Nat} (h : n ≤ 7) : Bd (prw n) 10000 := Bd.of (by omega) (prw_fits n (by omega)).1
theorem onesL_bd (k : Nat) : Bd (onesL k) 10 := Bd.of (by omega) (by simp [onesL])
theorem prw_one : prw 1 = [1] := by decide

/-- How many orders have each number of descents: the first t numbers of a row are given on. -/
def euR (row : List Int) (m : Nat) : Nat → List Int
  | 0 => List.replicate m 0
  | t + 1 => addAt (addAt (euR row m t) t (el row t * ((t : Int) + 1))) (t + 1) (el row t * ((m : Int) - t - 1))
/-- The row of n + 1 values. -/
def eu : Nat → List Int
  | 0 => [1]
  | n + 1 => euR (eu n) (n + 2) (n + 1)
theorem euR_len (row : List Int) (m t : Nat) : (euR row m t).length = m := by
  induction t with
  | zero => simp [euR]
  | succ t ih => rw [euR, addAt_len, addAt_len, ih]
theorem eu_len (n : Nat) : (eu n).length = n + 1 := by
  cases n with
  | zero => rfl
  | succ n => rw [eu, euR_len]
theorem eu_fits : ∀ n : Nat, n < 7 → (eu n).all (fun x => decide (0 ≤ x) && decide (x ≤ 10000)) = true := by decide
theorem eu_bd {n : Nat} (h : n ≤ 6) : Bd (eu n) 10000 := Bd.of (by omega) (eu_fits n (by omega))
theorem euR_bd {row : List Int} {m : Nat} (hr : Bd row 10000) (hm : m ≤ 7) : ∀ t, t < m → Bd (euR row m t) (t * 200000) := by
  intro t
  induction t with
  | zero => intro _; simpa [euR] using Bd.zero _
  | succ t ih =>
    intro ht
    have h1 := prod_bd (hr t) (B := 10) (y := (t : Int) + 1) ⟨by omega, by omega⟩
    have h2 := prod_bd (hr t) (B := 10) (y := (m : Int) - t - 1) ⟨by omega, by omega⟩
    rw [euR]
    refine (((ih (by omega)).add t h1.1 h1.2).add (t + 1) h2.1 h2.2).mono ?_
    omega
/-- The row of n values. -/
def euler (n : Nat) : List Int := eu (n - 1)

end Go.Proofs.YtaceiebmgnhdgaaGreatDoor

/- Pairs of places counted over a square of places and counted behind each other are as many. No condition. -/
namespace Go.Proofs.YtaceiebmgnhdgaaGreatDoor

/-- Does the pair of places i, k fit, i standing ahead? -/
def giF (f : Int → Int → Int → Int → Bool) (xs : List Int) (i k : Nat) : Bool := decide (i < k) && f i (el xs i) k (el xs k)
def giP (f : Int → Int → Int → Int → Bool) (xs : List Int) (i t : Nat) : Int := cntP (giF f xs i) t
def gdP (f : Int → Int → Int → Int → Bool) (xs : List Int) (n : Nat) : Nat → Int
  | 0 => 0
  | i + 1 => gdP f xs n i + giP f xs i n
theorem giP_bd (f : Int → Int → Int → Int → Bool) (xs : List Int) (i t : Nat) : 0 ≤ giP f xs i t ∧ giP f xs i t ≤ t := cntP_bd _ _
theorem giP_yes {f : Int → Int → Int → Int → Bool} {xs : List Int} {i t : Nat} (h : giF f xs i t = true) : giP f xs i (t + 1) = giP f xs i t + 1 := cntP_yes h
theorem giP_no {f : Int → Int → Int → Int → Bool} {xs : List Int} {i t : Nat} (h : giF f xs i t = false) : giP f xs i (t + 1) = giP f xs i t := cntP_no h
theorem gdP_bd (f : Int → Int → Int → Int → Bool) (xs : List Int) (n k : Nat) : 0 ≤ gdP f xs n k ∧ gdP f xs n k ≤ k * n := by
  induction k with
  | zero => simp [gdP]
  | succ k ih =>
    have := giP_bd f xs k n
    rw [gdP]
    have e : ((k + 1 : Nat) : Int) * n = k * n + n := by rw [Int.natCast_add, Int.add_mul]; simp
    omega

theorem gdP_S (f : Int → Int → Int → Int → Bool) (xs : List Int) (n : Nat) : ∀ m, gdP f xs n m = S (fun i => S (ind (giF f xs i)) n) m := by
  intro m
  induction m with
  | zero => rfl
  | succ m ih => rw [gdP, S, ih, giP, cntP_S]
theorem prP_S (f : Int → Int → Int → Int → Bool) (xs : List Int) : ∀ m, prP f xs m = S (fun k => S (ind fun i => f i (el xs i) k (el xs k)) k) m := by
  intro m
  induction m with
  | zero => rfl
  | succ m ih => rw [prP, S, ih, inP, cntP_S]

theorem S_swap2 (g : Nat → Nat → Int) (n : Nat) : ∀ m, S (fun i => S (g i) n) m = S (fun k => S (fun i => g i k) m) n := by
  intro m
  induction m with
  | zero =>
    have : ∀ n, S (fun k => S (fun i => g i k) 0) n = 0 := by
      intro n
      induction n with
      | zero => rfl
      | succ n ih => rw [S, ih]; rfl
    rw [this]; rfl
  | succ m ih =>
    rw [S, ih, ← S_add]
    rfl
theorem S_cut (g : Nat → Int) (k : Nat) : ∀ n, k ≤ n → (∀ j, k ≤ j → g j = 0) → S g n = S g k := by
  intro n
  induction n with
  | zero => intro hk _; rw [show k = 0 by omega]
  | succ n ih =>
    intro hk hz
    by_cases e : k = n + 1
    · rw [e]
    · rw [S, ih (by omega) hz, hz n (by omega)]; omega

theorem grid_pairs (f : Int → Int → Int → Int → Bool) (xs : List Int) : gdP f xs xs.length xs.length = pairs f xs := by
  rw [gdP_S, S_swap2 (fun i k => ind (giF f xs i) k), pairs, prP_S]
  refine S_congr _ (fun k hk => ?_)
  rw [S_cut _ k _ (by omega) (fun j hj => by simp [ind, giF]; intro h; omega)]
  refine S_congr _ (fun i hi => ?_)
  simp [ind, giF, hi]

end Go.Proofs.YtaceiebmgnhdgaaGreatDoor

/- Words as plain lists: which lists are words, their contents, and that the order of a word has the word's inversions and falls where the word does. No condition. -/
namespace Go.Proofs.YtaceiebmgnhdgaaGreatDoor

/-- The numbers are a word: at most seven, each of 0, 1, 2, 3. -/
structure VW (xs : List Int) : Prop where
  len : xs.length ≤ 7
  lo : ∀ j, j < xs.length → 0 ≤ el xs j
  hi : ∀ j, j < xs.length → el xs j ≤ 3
theorem vw_iff (xs : List Int) : VW xs ↔ (xs.length ≤ 7 ∧ (∀ j, j < xs.length → 0 ≤ el xs j) ∧ ∀ j, j < xs.length → el xs j ≤ 3) :=
  ⟨fun h => ⟨h.len, h.lo, h.hi⟩, fun h => ⟨h.1, h.2.1, h.2.2⟩⟩
instance (xs : List Int) : Decidable (VW xs) := decidable_of_iff _ (vw_iff xs).symm
def onW (xs ys : List Int) : List Int := if VW xs then ys else []
theorem onW_yes {xs ys : List Int} (h : VW xs) : onW xs ys = ys := if_pos h
theorem onW_no {xs ys : List Int} (h : ¬ VW xs) : onW xs ys = [] := if_neg h
def onWi (xs : List Int) (v d : Int) : Int := if VW xs then v else d
theorem onWi_yes {xs : List Int} {v d : Int} (h : VW xs) : onWi xs v d = v := if_pos h
theorem onWi_no {xs : List Int} {v d : Int} (h : ¬ VW xs) : onWi xs v d = d := if_neg h

/-- How often each letter comes among the first k. -/
def ctP (xs : List Int) : Nat → List Int
  | 0 => [0, 0, 0, 0]
  | k + 1 => addAt (ctP xs k) (el xs k).toNat 1
def cont (xs : List Int) : List Int := ctP xs xs.length
theorem ctP_len (xs : List Int) (k : Nat) : (ctP xs k).length = 4 := by
  induction k with
  | zero => rfl
  | succ k ih => rw [ctP, addAt_len, ih]
theorem ctP_bd (xs : List Int) (k : Nat) : Bd (ctP xs k) k := by
  induction k with
  | zero => exact Bd.of (zs := [0, 0, 0, 0]) (by omega) (by decide)
  | succ k ih =>
    rw [ctP]
    exact (ih.add (c := 1) (v := 1) _ (by omega) (by omega)).mono (by omega)

/-- The order of a word: at each place how many letters are less, or equal and ahead. -/
theorem rkA_len (zs : List Int) : (rkA zs).length = zs.length := map_range_len _
theorem el_rkA {zs : List Int} {i : Nat} (h : i < zs.length) : el (rkA zs) i = cntP (rkF zs i) zs.length := el_map h
theorem cntP_le {p q : Nat → Bool} (n : Nat) (h : ∀ j, j < n → p j = true → q j = true) : cntP p n ≤ cntP q n := by
  induction n with
  | zero => exact Int.le_refl _
  | succ n ih =>
    have h1 := ih (fun j hj => h j (by omega))
    have h2 := h n (by omega)
    rw [cntP, cntP]
    cases hp : p n with
    | false => cases hq : q n <;> simp <;> omega
    | true => rw [h2 hp]; simp; omega
theorem cntP_lt {p q : Nat → Bool} (n m : Nat) (hm : m < n) (hp : p m = false) (hq : q m = true) (h : ∀ j, j < n → p j = true → q j = true) : cntP p n < cntP q n := by
  induction n with
  | zero => omega
  | succ n ih =>
    rw [cntP, cntP]
    by_cases e : m = n
    · subst e
      have := cntP_le m (fun j hj => h j (by omega) : ∀ j, j < m → p j = true → q j = true)
      rw [hp, hq]; simp; omega
    · have h1 := ih (by omega) (fun j hj => h j (by omega))
      have h2 := h n (by omega)
      cases hpn : p n with
      | false => cases hqn : q n <;> simp <;> omega
      | true => rw [h2 hpn]; simp; omega
theorem rkF_iff {zs : List Int} {i k : Nat} : rkF zs i k = true ↔ el zs k < el zs i ∨ (el zs k = el zs i ∧ k < i) := by simp [rkF]
theorem rkF_self (zs : List Int) (i : Nat) : rkF zs i i = false := by
  cases h : rkF zs i i with
  | false => rfl
  | true => rw [rkF_iff] at h; omega
/-- What comes ahead in the order is less. -/
theorem rkA_lt {zs : List Int} {i k : Nat} (hi : i < zs.length) (hk : k < zs.length) (h : rkF zs i k = true) : el (rkA zs) k < el (rkA zs) i := by
  rw [el_rkA hi, el_rkA hk]
  refine cntP_lt _ k hk (rkF_self zs k) h (fun j _ hj => ?_)
  rw [rkF_iff] at h hj ⊢
  omega
/-- A greater letter ahead is a greater value ahead, and no greater one is a lesser value. -/
theorem rkA_step {zs : List Int} {i k : Nat} (hik : i < k) (hk : k < zs.length) : (el zs k < el zs i ∧ el (rkA zs) k < el (rkA zs) i) ∨ (el zs i ≤ el zs k ∧ el (rkA zs) i < el (rkA zs) k) := by
  by_cases h : el zs k < el zs i
  · exact Or.inl ⟨h, rkA_lt (by omega) hk (rkF_iff.2 (Or.inl h))⟩
  · exact Or.inr ⟨by omega, rkA_lt hk (by omega) (rkF_iff.2 (by omega))⟩
theorem rkA_gt {zs : List Int} {i k : Nat} (hik : i < k) (hk : k < zs.length) : el (rkA zs) k < el (rkA zs) i ↔ el zs k < el zs i := by
  have := rkA_step hik hk
  omega
theorem rkA_bd {zs : List Int} {i : Nat} (hi : i < zs.length) : 0 ≤ el (rkA zs) i ∧ el (rkA zs) i < zs.length := by
  rw [el_rkA hi]
  refine ⟨(cntP_bd _ _).1, ?_⟩
  have h1 : cntP (rkF zs i) zs.length < cntP (fun _ => true) zs.length := cntP_lt _ i hi (rkF_self zs i) rfl (fun _ _ _ => rfl)
  have h2 := (cntP_bd (fun _ => true) zs.length).2
  omega
theorem rkA_valid {zs : List Int} (h : zs.length ≤ 7) : Valid (rkA zs) := by
  refine ⟨by rw [rkA_len]; exact h, fun j hj => ?_, fun j hj => ?_, fun i j hij hj => ?_⟩
  · rw [rkA_len] at hj; exact (rkA_bd hj).1
  · rw [rkA_len] at hj ⊢; exact (rkA_bd hj).2
  · rw [rkA_len] at hj
    have := rkA_step hij hj
    omega
/-- The lists' tables are one. -/
theorem table_rkA (zs : List Int) : table (rkA zs) = table zs := by
  refine ext_el (by rw [table_len, table_len, rkA_len]) (fun j hj => ?_)
  rw [table_len, rkA_len] at hj
  rw [el_table (by rw [rkA_len]; exact hj), el_table hj, lb, lb, rkA_len]
  refine cntP_ext _ (fun t ht => ?_)
  have := rkA_gt (zs := zs) (i := j) (k := j + 1 + t) (by omega) (by omega)
  simp [this]
theorem dsP_rkA (zs : List Int) : ∀ k, k ≤ zs.length - 1 → dsP (rkA zs) k = dsP zs k := by
  intro k
  induction k with
  | zero => intro _; rfl
  | succ k ih =>
    intro hk
    have := rkA_gt (zs := zs) (i := k) (k := k + 1) (by omega) (by omega)
    rw [dsP, dsP, ih (by omega)]
    by_cases h : el zs (k + 1) < el zs k
    · rw [if_pos h, if_pos (this.2 h)]
    · rw [if_neg h, if_neg (fun e => h (this.1 e))]
theorem major_rkA (zs : List Int) : major (rkA zs) = major zs := by
  rw [major, major, desc, desc, rkA_len, dsP_rkA zs _ (Nat.le_refl _)]

/-- Pairs of letters of which the greater one stands ahead, counted by the one behind. -/
def gtF (_ u _ v : Int) : Bool := decide (v < u)
theorem pairs_gt (zs : List Int) : pairs gtF zs = sumL (table zs) := by
  rw [invs_ga, pairs, prP_S]
  refine S_congr _ (fun k _ => ?_)
  rw [ga, cntP_S]
  rfl
theorem major_majP (xs : List Int) : major xs = majP xs (xs.length - 1) := rfl
theorem majP_bd (xs : List Int) (k : Nat) : 0 ≤ majP xs k ∧ majP xs k ≤ k * k := by
  induction k with
  | zero => exact ⟨Int.le_refl _, Int.le_refl _⟩
  | succ k ih =>
    have e : ((k + 1 : Nat) : Int) * (k + 1 : Nat) = k * k + k + k + 1 := by rw [Int.natCast_add, Int.add_mul, Int.mul_add]; simp; omega
    by_cases h : el xs (k + 1) < el xs k
    · rw [majP_yes h]; omega
    · rw [majP_no (by omega)]; omega

end Go.Proofs.YtaceiebmgnhdgaaGreatDoor

/- Signed orders as plain lists: which numbers are one, their sizes, signs, lengths, flags, falls, products and inverses. No condition. -/
namespace Go.Proofs.YtaceiebmgnhdgaaGreatDoor

/-- A number without its sign. -/
def ab (x : Int) : Int := if x < 0 then -x else x
theorem ab_neg {x : Int} (h : x < 0) : ab x = -x := if_pos h
theorem ab_pos {x : Int} (h : 0 ≤ x) : ab x = x := if_neg (by omega)
theorem ab_bd {x n : Int} (h : -n ≤ x ∧ x ≤ n) : ab x ≤ n := by unfold ab; split <;> omega
theorem ab_nn (x : Int) : 0 ≤ ab x := by unfold ab; split <;> omega
theorem ab_nz {x : Int} (h : x ≠ 0) : 1 ≤ ab x := by unfold ab; split <;> omega
theorem ab_le {x n : Int} (h : ab x ≤ n) : -n ≤ x ∧ x ≤ n := by unfold ab at h; split at h <;> omega
theorem ab_flip (x : Int) : ab (-x) = ab x := by unfold ab; split <;> split <;> omega
def szL (xs : List Int) : List Int := (List.range xs.length).map fun k => ab (el xs k) - 1
theorem szL_len (xs : List Int) : (szL xs).length = xs.length := map_range_len _
theorem el_szL {xs : List Int} {j : Nat} (h : j < xs.length) : el (szL xs) j = ab (el xs j) - 1 := el_map h

/-- The numbers are a signed order. -/
structure SV (xs : List Int) : Prop where
  len : xs.length ≤ 5
  ord : Valid (szL xs)
theorem sv_iff (xs : List Int) : SV xs ↔ (xs.length ≤ 5 ∧ Valid (szL xs)) := ⟨fun h => ⟨h.len, h.ord⟩, fun h => ⟨h.1, h.2⟩⟩
instance (xs : List Int) : Decidable (SV xs) := decidable_of_iff _ (sv_iff xs).symm
theorem SV.bd {xs : List Int} (h : SV xs) {j : Nat} (hj : j < xs.length) : 1 ≤ ab (el xs j) ∧ ab (el xs j) ≤ xs.length := by
  have h1 := h.ord.lo j (by rw [szL_len]; exact hj)
  have h2 := h.ord.hi j (by rw [szL_len]; exact hj)
  rw [szL_len] at h2
  rw [el_szL hj] at h1 h2
  omega
theorem SV.lo {xs : List Int} (h : SV xs) {j : Nat} (hj : j < xs.length) : -(xs.length : Int) ≤ el xs j ∧ el xs j ≤ xs.length ∧ el xs j ≠ 0 := by
  have h1 := h.bd hj
  have h2 := ab_le h1.2
  refine ⟨h2.1, h2.2, fun e => ?_⟩
  rw [e, ab_pos (Int.le_refl _)] at h1
  omega
theorem SV.ne {xs : List Int} (h : SV xs) {i j : Nat} (hij : i < j) (hj : j < xs.length) : ab (el xs i) ≠ ab (el xs j) := fun e => by
  have := h.ord.ne i j hij (by rw [szL_len]; exact hj)
  rw [el_szL hj, el_szL (by omega), e] at this
  exact this rfl
theorem SV.of {xs : List Int} (h5 : xs.length ≤ 5) (h : ∀ j, j < xs.length → -(xs.length : Int) ≤ el xs j ∧ el xs j ≤ xs.length ∧ el xs j ≠ 0 ∧ ∀ t, t < j → ab (el xs t) ≠ ab (el xs j)) : SV xs := by
  refine ⟨h5, ⟨by rw [szL_len]; omega, fun j hj => ?_, fun j hj => ?_, fun i j hij hj => ?_⟩⟩
  · rw [szL_len] at hj
    have := ab_nz (h j hj).2.2.1
    rw [el_szL hj]; omega
  · rw [szL_len] at hj ⊢
    have := ab_bd ⟨(h j hj).1, (h j hj).2.1⟩
    rw [el_szL hj]; omega
  · rw [szL_len] at hj
    have := (h j hj).2.2.2 i hij
    rw [el_szL hj, el_szL (by omega)]; omega

def onS (xs ys : List Int) : List Int := if SV xs then ys else []
theorem onS_yes {xs ys : List Int} (h : SV xs) : onS xs ys = ys := if_pos h
theorem onS_no {xs ys : List Int} (h : ¬ SV xs) : onS xs ys = [] := if_neg h
def onSi (xs : List Int) (v d : Int) : Int := if SV xs then v else d
theorem onSi_yes {xs : List Int} {v d : Int} (h : SV xs) : onSi xs v d = v := if_pos h
theorem onSi_no {xs : List Int} {v d : Int} (h : ¬ SV xs) : onSi xs v d = d := if_neg h
theorem onS_len {xs ys : List Int} {m : Nat} (h : ys.length ≤ m) : (onS xs ys).length ≤ m := by
  unfold onS; split
  · exact h
  · simp

/-- At each place how many numbers are less: for different numbers the order of them as a word. -/
def ltF (xs : List Int) (i j : Nat) : Bool := decide (el xs j < el xs i)
def stL (xs : List Int) : List Int := (List.range xs.length).map fun k => cntP (ltF xs k) xs.length
theorem cntP_ext' {p q : Nat → Bool} (n : Nat) (h : ∀ j, j < n → p j = q j) : cntP p n = cntP q n := by
  induction n with
  | zero => rfl
  | succ n ih => rw [cntP, cntP, ih (fun j hj => h j (by omega)), h n (by omega)]
theorem st_rkA {xs : List Int} (h : SV xs) : stL xs = rkA xs := by
  refine ext_el (by rw [rkA_len, stL, map_range_len]) (fun j hj => ?_)
  rw [stL, map_range_len] at hj
  rw [stL, el_map hj, el_rkA hj]
  refine cntP_ext' _ (fun t ht => ?_)
  rw [ltF, rkF]
  have hne : t < j → el xs t ≠ el xs j := fun hlt e => h.ne hlt hj (by rw [e])
  by_cases e : el xs t < el xs j
  · simp [e]
  · by_cases e2 : t < j
    · have := hne e2
      simp [e, this]
    · simp [e, e2]

/-- The numbers below 0 among the first k, how many and without signs. -/
def ngF (xs : List Int) (j : Nat) : Bool := decide (el xs j < 0)
def ngN (xs : List Int) : Int := cntP (ngF xs) xs.length
def ngS (xs : List Int) : Nat → Int
  | 0 => 0
  | k + 1 => if el xs k < 0 then ngS xs k - el xs k else ngS xs k
def bwL (xs : List Int) : Nat → List Int
  | 0 => []
  | k + 1 => if el xs k < 0 then bwL xs k ++ [ab (el xs k)] else bwL xs k
theorem bwL_yes {xs : List Int} {k : Nat} (h : el xs k < 0) : bwL xs (k + 1) = bwL xs k ++ [ab (el xs k)] := if_pos h
theorem bwL_no {xs : List Int} {k : Nat} (h : ¬ el xs k < 0) : bwL xs (k + 1) = bwL xs k := if_neg h
theorem ngS_yes {xs : List Int} {k : Nat} (h : el xs k < 0) : ngS xs (k + 1) = ngS xs k - el xs k := if_pos h
theorem ngS_no {xs : List Int} {k : Nat} (h : ¬ el xs k < 0) : ngS xs (k + 1) = ngS xs k := if_neg h
theorem ngC_yes {xs : List Int} {k : Nat} (h : el xs k < 0) : cntP (ngF xs) (k + 1) = cntP (ngF xs) k + 1 := cntP_yes (by simp [ngF, h])
theorem ngC_no {xs : List Int} {k : Nat} (h : ¬ el xs k < 0) : cntP (ngF xs) (k + 1) = cntP (ngF xs) k := cntP_no (by simp [ngF]; omega)
theorem bwL_len (xs : List Int) (k : Nat) : ((bwL xs k).length : Int) = cntP (ngF xs) k := by
  induction k with
  | zero => rfl
  | succ k ih =>
    by_cases h : el xs k < 0
    · rw [bwL_yes h, ngC_yes h, List.length_append, List.length_singleton, ← ih]; omega
    · rw [bwL_no h, ngC_no h, ih]
theorem bwL_le (xs : List Int) (k : Nat) : (bwL xs k).length ≤ k := by
  have := bwL_len xs k
  have := (cntP_bd (ngF xs) k).2
  omega
theorem ngS_bd {xs : List Int} (h : SV xs) : ∀ k, k ≤ xs.length → 0 ≤ ngS xs k ∧ ngS xs k ≤ 5 * k := by
  intro k
  induction k with
  | zero => intro _; simp [ngS]
  | succ k ih =>
    intro hk
    have h1 := ih (by omega)
    have h2 := h.lo (j := k) (by omega)
    have h5 := h.len
    by_cases e : el xs k < 0
    · rw [ngS_yes e]; omega
    · rw [ngS_no e]; omega
theorem bwL_sum {xs : List Int} (k : Nat) : sumL (bwL xs k) = ngS xs k := by
  induction k with
  | zero => rfl
  | succ k ih =>
    by_cases h : el xs k < 0
    · rw [bwL_yes h, ngS_yes h, sumL_app, ih, ab_neg h]; omega
    · rw [bwL_no h, ngS_no h, ih]
theorem bwL_mem {xs : List Int} (h : SV xs) : ∀ k, k ≤ xs.length → ∀ x ∈ bwL xs k, 0 ≤ x ∧ x ≤ 5 := by
  intro k
  induction k with
  | zero => intro _ x hx; simp [bwL] at hx
  | succ k ih =>
    intro hk x hx
    by_cases e : el xs k < 0
    · rw [bwL_yes e, List.mem_append, List.mem_singleton] at hx
      rcases hx with hx | rfl
      · exact ih (by omega) x hx
      · have := h.bd (j := k) (by omega)
        have := h.len
        omega
    · rw [bwL_no e] at hx
      exact ih (by omega) x hx

def lenS (xs : List Int) : Int := sumL (table xs) + ngS xs xs.length
def flagS (xs : List Int) : Int := 2 * major xs + ngN xs
def fallS (xs : List Int) : Int := (desc xs).length + if 0 < xs.length ∧ el xs 0 < 0 then 1 else 0
/-- The number with the sign of x. -/
def sgl (x y : Int) : Int := if x < 0 then -y else y
theorem sgl_yes {x y : Int} (h : x < 0) : sgl x y = -y := if_pos h
theorem sgl_no {x y : Int} (h : ¬ x < 0) : sgl x y = y := if_neg h
def mulF (vs ws : List Int) (k : Nat) : Int := sgl (el ws k) (el vs (ab (el ws k) - 1).toNat)
def mulS (vs ws : List Int) : List Int := (List.range ws.length).map (mulF vs ws)
theorem mulS_len (vs ws : List Int) : (mulS vs ws).length = ws.length := map_range_len _
def invSF (xs : List Int) (a : List Int) (k : Nat) : List Int := a.set (ab (el xs k) - 1).toNat (sgl (el xs k) ((k : Int) + 1))
def invS (xs : List Int) : List Int := iter (invSF xs) (List.replicate xs.length 0) xs.length
theorem invS_lenK (xs : List Int) (k : Nat) : (iter (invSF xs) (List.replicate xs.length 0) k).length = xs.length :=
  (iter_len (fun _ _ => List.length_set) _ k).trans List.length_replicate
theorem invS_len (xs : List Int) : (invS xs).length = xs.length := invS_lenK xs _
/-- Two signed orders of one length. -/
def SM (vs ws : List Int) : Prop := SV vs ∧ SV ws ∧ vs.length = ws.length
instance (vs ws : List Int) : Decidable (SM vs ws) := inferInstanceAs (Decidable (_ ∧ _ ∧ _))
def onSM (vs ws zs : List Int) : List Int := if SM vs ws then zs else []
theorem onSM_yes {vs ws zs : List Int} (h : SM vs ws) : onSM vs ws zs = zs := if_pos h
theorem onSM_no {vs ws zs : List Int} (h : ¬ SM vs ws) : onSM vs ws zs = [] := if_neg h

/-- Numbers of 64 bits. -/
def R64 (xs : List Int) : Prop := ∀ j, j < xs.length → -9223372036854775808 ≤ el xs j ∧ el xs j ≤ 9223372036854775807
theorem SV.r64 {xs : List Int} (h : SV xs) : R64 xs := fun j hj => by
  have := h.lo hj
  have := h.len
  omega

end Go.Proofs.YtaceiebmgnhdgaaGreatDoor

/- Texts of signed orders as lists of their bytes less 48 (a minus sign is -3): what the program reads off them and what the model does are one. No condition. -/
namespace Go.Proofs.YtaceiebmgnhdgaaGreatDoor

def dg (v : Int) : Bool := decide (0 ≤ v) && decide (v ≤ 9)
/-- The numbers of a text: each a digit, with or without a minus sign ahead. -/
def tok : List Int → Option (List Int)
  | [] => some []
  | [v] => if dg v then some [v] else none
  | v :: c :: r => if v = -3 then (if dg c then (tok r).map (-c :: ·) else none) else if dg v then (tok (c :: r)).map (v :: ·) else none
/-- What the model's first loop makes of a text. -/
def mtk : List Int → Option (List Int)
  | [] => some []
  | [v] => some [v]
  | v :: c :: r => if v = -3 then (if c = -3 then none else (mtk r).map (-c :: ·)) else (mtk (c :: r)).map (v :: ·)
def gd (v : Int) : Bool := decide (v = -3) || dg v
/-- Every byte is a minus sign or a digit, and the last one is no minus sign. -/
def good (vs : List Int) : Bool := vs.all gd && !(vs.getLast? == some (-3))
theorem dg_ne {v : Int} (h : dg v = true) : v ≠ -3 := by
  intro e; subst e; simp [dg] at h
theorem good_tail {v c : Int} {r : List Int} : good (v :: c :: r) = (gd v && good (c :: r)) := by
  simp only [good, List.all_cons, List.getLast?_cons_cons, Bool.and_assoc]
theorem tok_iff (vs w : List Int) : tok vs = some w ↔ good vs = true ∧ mtk vs = some w := by
  induction vs using tok.induct generalizing w with
  | case1 => simp [tok, mtk, good]
  | case2 v h =>
    have := dg_ne h
    simp [tok, mtk, good, gd, h, this]
  | case3 v h =>
    have h2 : dg v = false := by simpa using h
    by_cases e : v = -3
    · subst e; simp [tok, good, dg]
    · simp [tok, good, gd, h2, e]
  | case4 c r h ih =>
    have hc := dg_ne h
    rw [tok, mtk, if_pos rfl, if_pos rfl, if_pos h, if_neg hc]
    rw [good_tail]
    have e1 : good (c :: r) = good r := by
      cases r with
      | nil => simp [good, gd, h, hc]
      | cons d r => rw [good_tail]; simp [gd, h]
    rw [e1]
    simp only [Option.map_eq_some_iff]
    constructor
    · rintro ⟨a, ha, rfl⟩
      have := (ih a).1 ha
      exact ⟨by simp [gd, this.1], a, this.2, rfl⟩
    · rintro ⟨h1, a, ha, rfl⟩
      exact ⟨a, (ih a).2 ⟨by simpa [gd] using h1, ha⟩, rfl⟩
  | case5 c r h =>
    have h2 : dg c = false := by simpa using h
    rw [tok, if_pos rfl, if_neg h]
    constructor
    · intro e; cases e
    · rintro ⟨h1, h3⟩
      rw [mtk, if_pos rfl] at h3
      by_cases e : c = -3
      · rw [if_pos e] at h3; cases h3
      · rw [good_tail] at h1
        have : good (c :: r) = true := by simpa [gd] using h1
        simp [good, gd, h2, e] at this
  | case6 v c r hv h ih =>
    rw [tok, mtk, if_neg hv, if_neg hv, if_pos h, good_tail]
    simp only [Option.map_eq_some_iff]
    constructor
    · rintro ⟨a, ha, rfl⟩
      have := (ih a).1 ha
      exact ⟨by simp [gd, h, this.1], a, this.2, rfl⟩
    · rintro ⟨h1, a, ha, rfl⟩
      exact ⟨a, (ih a).2 ⟨by simp [gd, h] at h1; exact h1, ha⟩, rfl⟩
  | case7 v c r hv h =>
    have h2 : dg v = false := by simpa using h
    rw [tok, if_neg hv, if_neg h, good_tail]
    constructor
    · intro e; cases e
    · rintro ⟨h1, _⟩
      simp [gd, h2, hv] at h1

/-- What a text gives: the signed order, or nothing. -/
def okX (vs : List Int) : Bool := match tok vs with
  | some w => decide (SV w)
  | none => false
def outX (vs : List Int) : List Int := match tok vs with
  | some w => if SV w then w else []
  | none => []

end Go.Proofs.YtaceiebmgnhdgaaGreatDoor

/- Signed orders written as texts, and read back. No condition. -/
namespace Go.Proofs.YtaceiebmgnhdgaaGreatDoor

/-- The text of a number of one digit. -/
def dgT (x : Int) : List UInt8 := if x < 0 then [45, UInt8.ofNat (48 + x.natAbs)] else [UInt8.ofNat (48 + x.toNat)]
/-- A byte less 48. -/
def toI (c : UInt8) : Int := (c.toNat : Int) - 48
theorem toI_inj {c d : UInt8} (h : toI c = toI d) : c = d := by
  apply UInt8.toNat_inj.1
  unfold toI at h
  omega
theorem toI_dg (k : Nat) (h : k ≤ 9) : toI (UInt8.ofNat (48 + k)) = k := by
  have : ∀ k : Nat, k < 10 → toI (UInt8.ofNat (48 + k)) = k := by decide
  exact this k (by omega)
theorem dgT_neg {x : Int} (h : x < 0) (h9 : -9 ≤ x) : (dgT x).map toI = [-3, -x] := by
  rw [dgT, if_pos h, List.map_cons, List.map_cons, List.map_nil, toI_dg _ (by omega)]
  have : (x.natAbs : Int) = -x := by omega
  rw [this]
  rfl
theorem dgT_pos {x : Int} (h : 0 ≤ x) (h9 : x ≤ 9) : (dgT x).map toI = [x] := by
  rw [dgT, if_neg (by omega), List.map_cons, List.map_nil, toI_dg _ (by omega)]
  have : (x.toNat : Int) = x := by omega
  rw [this]
theorem dgT_len (x : Int) : (dgT x).length = if x < 0 then 2 else 1 := by
  unfold dgT; split <;> rfl
theorem tok_dg {v : Int} (h : dg v = true) (r : List Int) : tok (v :: r) = (tok r).map (v :: ·) := by
  cases r with
  | nil => simp [tok, h]
  | cons c r => rw [tok, if_neg (dg_ne h), if_pos h]
theorem dg_of {v : Int} (h : 0 ≤ v ∧ v ≤ 9) : dg v = true := by simp [dg, h.1, h.2]
theorem tok_txt (xs : List Int) (h : ∀ x ∈ xs, -9 ≤ x ∧ x ≤ 9) : tok ((xs.flatMap dgT).map toI) = some xs := by
  induction xs with
  | nil => rfl
  | cons x xs ih =>
    have hx := h x (by simp)
    have i2 := ih (fun y hy => h y (by simp [hy]))
    rw [List.flatMap_cons, List.map_append]
    by_cases h0 : x < 0
    · rw [dgT_neg h0 hx.1, List.cons_append, List.cons_append, List.nil_append, tok, if_pos rfl, if_pos (dg_of (by omega)), i2]
      simp
    · rw [dgT_pos (by omega) hx.2, List.cons_append, List.nil_append, tok_dg (dg_of (by omega)), i2]
      rfl
theorem txt_tok (vs : List Int) : ∀ zs, tok vs = some zs → (∀ x ∈ zs, x ≠ 0) → (zs.flatMap dgT).map toI = vs := by
  induction vs using tok.induct with
  | case1 => intro zs h _; simp [tok] at h; subst h; rfl
  | case2 v h =>
    intro zs h2 _
    simp only [tok, h, if_true, Option.some.injEq] at h2
    subst h2
    simp only [dg, Bool.and_eq_true, decide_eq_true_eq] at h
    simp [dgT_pos h.1 h.2]
  | case3 v h =>
    intro zs h2
    simp [tok, h] at h2
  | case4 c r h ih =>
    intro zs h2 hz
    rw [tok, if_pos rfl, if_pos h, Option.map_eq_some_iff] at h2
    obtain ⟨a, ha, rfl⟩ := h2
    simp only [dg, Bool.and_eq_true, decide_eq_true_eq] at h
    have hc := hz (-c) (by simp)
    rw [List.flatMap_cons, List.map_append, dgT_neg (by omega) (by omega), ih a ha (fun x hx => hz x (by simp [hx])), Int.neg_neg]
    rfl
  | case5 c r h =>
    intro zs h2
    rw [tok, if_pos rfl, if_neg h] at h2
    cases h2
  | case6 v c r hv h ih =>
    intro zs h2 hz
    rw [tok, if_neg hv, if_pos h, Option.map_eq_some_iff] at h2
    obtain ⟨a, ha, rfl⟩ := h2
    simp only [dg, Bool.and_eq_true, decide_eq_true_eq] at h
    rw [List.flatMap_cons, List.map_append, dgT_pos h.1 h.2, ih a ha (fun x hx => hz x (by simp [hx]))]
    rfl
  | case7 v c r hv h =>
    intro zs h2
    rw [tok, if_neg hv, if_neg h] at h2
    cases h2

/-- The text of a signed order; of other numbers the empty one. -/
def txW (xs : List Int) : List UInt8 := if SV xs then xs.flatMap dgT else []
theorem txW_yes {xs : List Int} (h : SV xs) : txW xs = xs.flatMap dgT := if_pos h
theorem txW_no {xs : List Int} (h : ¬ SV xs) : txW xs = [] := if_neg h
theorem sv_bd {xs : List Int} (h : SV xs) : ∀ x ∈ xs, -5 ≤ x ∧ x ≤ 5 ∧ x ≠ 0 := by
  intro x hx
  obtain ⟨j, hj, rfl⟩ := List.mem_iff_getElem.1 hx
  have h1 := h.lo hj
  rw [el_lt hj] at h1
  have := h.len
  omega
theorem flat_len (xs : List Int) : (xs.flatMap dgT).length ≤ 2 * xs.length := by
  induction xs with
  | nil => simp
  | cons x xs ih =>
    rw [List.flatMap_cons, List.length_append, List.length_cons, dgT_len]
    split <;> omega
theorem txW_len (xs : List Int) : (txW xs).length ≤ 10 := by
  unfold txW; split
  · rename_i h
    have := flat_len xs
    have := h.len
    omega
  · simp
theorem flat_succ {xs : List Int} {k : Nat} (h : k < xs.length) : (xs.take (k + 1)).flatMap dgT = (xs.take k).flatMap dgT ++ dgT (el xs k) := by
  rw [take_el h, List.flatMap_append]
  simp

/-- Bytes as a text. -/
def BA (l : List UInt8) : ByteArray := ⟨l.toArray⟩
theorem BA_app (l m : List UInt8) : BA l ++ BA m = BA (l ++ m) := by
  apply ByteArray.ext
  simp [BA, ByteArray.data_append]
theorem BA_size (l : List UInt8) : (BA l).size = l.length := by
  show l.toArray.size = _
  simp
theorem BA_list (l : List UInt8) : (BA l).data.toList = l := by simp [BA]
theorem BA_inj {l m : List UInt8} (h : BA l = BA m) : l = m := by rw [← BA_list l, h, BA_list]
theorem BA_of (s : ByteArray) : BA s.data.toList = s := by cases s; simp [BA]
theorem map_inj {l m : List UInt8} (h : l.map toI = m.map toI) : l = m := by
  induction l generalizing m with
  | nil => cases m with
    | nil => rfl
    | cons d m => simp at h
  | cons c l ih => cases m with
    | nil => simp at h
    | cons d m =>
      rw [List.map_cons, List.map_cons, List.cons.injEq] at h
      rw [toI_inj h.1, ih h.2]
theorem BA_ext {l : List UInt8} {s : ByteArray} (h : l.map toI = s.data.toList.map toI) : BA l = s := by
  rw [← BA_of s]
  congr 1
  exact map_inj h

/-- What is written is read back. -/
theorem read_txt {xs : List Int} (h : SV xs) : okX ((txW xs).map toI) = true ∧ outX ((txW xs).map toI) = xs := by
  have := tok_txt xs (fun x hx => by have := sv_bd h x hx; omega)
  rw [txW_yes h]
  simp [okX, outX, this, h]
/-- What is read is written back. -/
theorem txt_read {vs : List Int} (h : okX vs = true) : (txW (outX vs)).map toI = vs ∧ SV (outX vs) := by
  cases ht : tok vs with
  | none => simp [okX, ht] at h
  | some zs =>
    have hv : SV zs := by simpa [okX, ht] using h
    have e : outX vs = zs := by simp [outX, ht, hv]
    rw [e, txW_yes hv]
    exact ⟨txt_tok vs zs ht (fun x hx => (sv_bd hv x hx).2.2), hv⟩
theorem flat_neg (xs : List Int) : ∀ k, k ≤ xs.length → (((xs.take k).flatMap dgT).length : Int) = k + cntP (ngF xs) k := by
  intro k
  induction k with
  | zero => intro _; rfl
  | succ k ih =>
    intro h
    have := ih (by omega)
    rw [flat_succ (by omega), List.length_append, dgT_len]
    unfold cntP
    by_cases h0 : el xs k < 0
    · rw [if_pos h0, if_pos (show ngF xs k = true from decide_eq_true h0)]; omega
    · rw [if_neg h0, if_neg (by simpa [ngF] using h0)]; omega
theorem txW_neg {xs : List Int} (h : SV xs) : ((txW xs).length : Int) = xs.length + ngN xs := by
  have := flat_neg xs xs.length (Nat.le_refl _)
  rw [List.take_length] at this
  rw [txW_yes h, this]
  rfl

end Go.Proofs.YtaceiebmgnhdgaaGreatDoor

