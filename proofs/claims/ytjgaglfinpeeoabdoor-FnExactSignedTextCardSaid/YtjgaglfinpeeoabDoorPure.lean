/- The plain mathematics of orders: which lists of numbers are orders, and that there are finitely many of them, so that what is to be shown of all orders may be reckoned. No condition. -/
namespace Go.Proofs.YtjgaglfinpeeoabDoor

/-- The number at place k. -/
def el (xs : List Int) (k : Nat) : Int := xs.getD k 0

theorem el_lt {xs : List Int} {k : Nat} (h : k < xs.length) : el xs k = xs[k] := by simp [el, h]
theorem el_set_same {xs : List Int} {k : Nat} {v : Int} (h : k < xs.length) : el (xs.set k v) k = v := by simp [el, h]
theorem el_set_ne {xs : List Int} {j k : Nat} {v : Int} (h : k ≠ j) : el (xs.set k v) j = el xs j := by simp [el, List.getD, h]
theorem take_el {xs : List Int} {k : Nat} (h : k < xs.length) : xs.take (k + 1) = xs.take k ++ [el xs k] := by
  rw [List.take_succ_eq_append_getElem h, el_lt h]
theorem ext_el {xs ys : List Int} (h : xs.length = ys.length) (hj : ∀ j, j < xs.length → el xs j = el ys j) : xs = ys := by
  apply List.ext_getElem h
  intro j h1 h2
  have := hj j h1
  rwa [el_lt h1, el_lt h2] at this

/-- The numbers are an order: at most seven, each of 0, 1, .. once. -/
structure Valid (xs : List Int) : Prop where
  len : xs.length ≤ 7
  lo : ∀ j, j < xs.length → 0 ≤ el xs j
  hi : ∀ j, j < xs.length → el xs j < xs.length
  ne : ∀ i j, i < j → j < xs.length → el xs i ≠ el xs j

theorem valid_iff (xs : List Int) : Valid xs ↔ (xs.length ≤ 7 ∧ (∀ j, j < xs.length → 0 ≤ el xs j) ∧ (∀ j, j < xs.length → el xs j < xs.length) ∧ ∀ j, j < xs.length → ∀ i, i < j → el xs i ≠ el xs j) :=
  ⟨fun h => ⟨h.len, h.lo, h.hi, fun j hj i hij => h.ne i j hij hj⟩, fun h => ⟨h.1, h.2.1, h.2.2.1, fun i j hij hj => h.2.2.2 j hj i hij⟩⟩
instance (xs : List Int) : Decidable (Valid xs) := decidable_of_iff _ (valid_iff xs).symm

/-- Lists of equal length, place by place: what the walks learn, step by step. -/
theorem upto_step {P : Nat → Prop} {k : Nat} (h : ∀ j, j < k → P j) (hk : P k) : ∀ j, j < k + 1 → P j := fun j hj => by
  by_cases e : j = k
  · rw [e]; exact hk
  · exact h j (by omega)
theorem not_ne {a b : Int} (h : (a == b) = true) : a = b := by simpa using h
theorem is_ne {a b : Int} (h : (a == b) = false) : a ≠ b := by simpa using h
theorem nn_ne {a b : Int} (h : (a != b) = true) : a ≠ b := by simpa using h
theorem nn_eq {a b : Int} (h : (a != b) = false) : a = b := by simpa using h

def rng : Nat → List Int
  | 0 => []
  | n + 1 => rng n ++ [(n : Int)]

/-- All lists that take f of the numbers av, each once. -/
def perms : Nat → List Int → List (List Int)
  | 0, _ => [[]]
  | f + 1, av => av.flatMap fun x => (perms f (av.erase x)).map (x :: ·)

/-- All orders of n values. -/
def orders (n : Nat) : List (List Int) := perms n (rng n)

/-- All orders of at most seven values. -/
def allUpTo (m : Nat) : List (List Int) := (List.range (m + 1)).flatMap orders

theorem mem_rng (n : Nat) (x : Int) : x ∈ rng n ↔ 0 ≤ x ∧ x < n := by
  induction n with
  | zero => simp [rng]
  | succ n ih => simp [rng, ih]; omega

theorem mem_perms : ∀ (xs av : List Int), (∀ x ∈ xs, x ∈ av) → xs.Nodup → xs ∈ perms xs.length av := by
  intro xs
  induction xs with
  | nil => intro av _ _; simp [perms]
  | cons x xs ih =>
    intro av hsub hnd
    rw [List.length_cons]
    simp only [perms, List.mem_flatMap, List.mem_map]
    rw [List.nodup_cons] at hnd
    refine ⟨x, hsub x (by simp), xs, ih _ ?_ hnd.2, rfl⟩
    intro y hy
    have hyx : y ≠ x := fun e => hnd.1 (e ▸ hy)
    exact (List.mem_erase_of_ne hyx).2 (hsub y (by simp [hy]))

theorem Valid.nodup {xs : List Int} (h : Valid xs) : xs.Nodup := by
  rw [List.nodup_iff_pairwise_ne, List.pairwise_iff_getElem]
  intro i j hi hj hij
  have := h.ne i j hij hj
  rwa [el_lt hi, el_lt hj] at this

theorem Valid.mem {xs : List Int} (h : Valid xs) {x : Int} (hx : x ∈ xs) : 0 ≤ x ∧ x < xs.length := by
  obtain ⟨j, hj, rfl⟩ := List.mem_iff_getElem.1 hx
  have h1 := h.lo j hj
  have h2 := h.hi j hj
  rw [el_lt hj] at h1 h2
  exact ⟨h1, h2⟩

theorem Valid.in_orders {xs : List Int} (h : Valid xs) : xs ∈ orders xs.length :=
  mem_perms xs _ (fun _ hx => (mem_rng _ _).2 (h.mem hx)) h.nodup

theorem Valid.in_all {xs : List Int} (h : Valid xs) : xs ∈ allUpTo 7 := by
  unfold allUpTo
  rw [List.mem_flatMap]
  exact ⟨xs.length, by have := h.len; simp; omega, h.in_orders⟩

/-- What a reckoning shows of every order holds of every order. -/
theorem Valid.all {xs : List Int} (h : Valid xs) {p : List Int → Bool} (hp : (allUpTo 7).all p = true) : p xs = true :=
  List.all_eq_true.1 hp xs h.in_all

theorem Valid.all' {xs : List Int} (h : Valid xs) {m : Nat} (hm : xs.length ≤ m) {p : List Int → Bool} (hp : (allUpTo m).all p = true) : p xs = true := by
  refine List.all_eq_true.1 hp xs ?_
  unfold allUpTo
  rw [List.mem_flatMap]
  exact ⟨xs.length, by simp; omega, h.in_orders⟩

theorem count_take {xs : List Int} {k : Nat} (h : k < xs.length) (v : Int) : (xs.take (k + 1)).count v = (xs.take k).count v + if el xs k = v then 1 else 0 := by
  rw [take_el h, List.count_append, List.count_singleton]
  simp

theorem count_two {xs : List Int} {i j : Nat} (hij : i < j) (hj : j < xs.length) (h : el xs i = el xs j) : 2 ≤ xs.count (el xs j) := by
  have h1 : xs.count (el xs j) = (xs.take j).count (el xs j) + (xs.drop j).count (el xs j) := by rw [← List.count_append, List.take_append_drop]
  have h2 : 0 < (xs.take j).count (el xs j) := by
    rw [List.count_pos_iff, ← h, el_lt (by omega)]
    exact List.mem_take_iff_getElem.2 ⟨i, by omega, rfl⟩
  have h3 : 0 < (xs.drop j).count (el xs j) := by
    rw [List.count_pos_iff, el_lt hj]
    exact List.mem_drop_iff_getElem.2 ⟨0, by simpa using hj, rfl⟩
  omega

/-- State a after k steps. -/
def iter {α : Type} (f : α → Nat → α) (a : α) : Nat → α
  | 0 => a
  | k + 1 => f (iter f a k) k

theorem iter_len {f : List Int → Nat → List Int} (hf : ∀ a k, (f a k).length = a.length) (a : List Int) (k : Nat) : (iter f a k).length = a.length := by
  induction k with
  | zero => rfl
  | succ k ih => rw [iter, hf, ih]

theorem iter_app {g : Nat → Int} (n : Nat) : iter (fun a k => a ++ [g k]) [] n = (List.range n).map g := by
  induction n with
  | zero => rfl
  | succ n ih => rw [iter, ih, List.range_succ, List.map_append]; rfl

theorem map_range_len {g : Nat → Int} (n : Nat) : ((List.range n).map g).length = n := by simp
theorem el_map {g : Nat → Int} {n j : Nat} (h : j < n) : el ((List.range n).map g) j = g j := by simp [el, h]

theorem iter_set {g : Nat → Int} (n : Nat) : iter (fun a k => a.set k (g k)) (List.replicate n 0) n = (List.range n).map g := by
  have key : ∀ k, k ≤ n → (iter (fun a k => a.set k (g k)) (List.replicate n 0) k).length = n ∧ ∀ j, j < k → el (iter (fun a k => a.set k (g k)) (List.replicate n 0) k) j = g j := by
    intro k
    induction k with
    | zero => intro _; exact ⟨by simp [iter], fun j hj => by omega⟩
    | succ k ih =>
      intro hk
      obtain ⟨h1, h2⟩ := ih (by omega)
      refine ⟨by simp [iter, h1], fun j hj => ?_⟩
      rw [iter]
      by_cases e : j = k
      · rw [e, el_set_same (by rw [h1]; omega)]
      · rw [el_set_ne (by omega), h2 j (by omega)]
  refine ext_el (by rw [(key n (Nat.le_refl _)).1]; simp) (fun j hj => ?_)
  rw [(key n (Nat.le_refl _)).1] at hj
  rw [(key n (Nat.le_refl _)).2 j hj, el_map hj]

end Go.Proofs.YtjgaglfinpeeoabDoor
