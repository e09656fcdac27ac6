/- Products of rows of natural numbers, as the kernel reckons them fast. No condition. -/
import Derived.Test.YtjphaphnmclbcaaMirP
import Derived.Test.YtjphaphnmclbcaaBnP
namespace Go.Proofs.Ytjphaphnmclbcaa
open Go

def toI (l : List Nat) : List Int := l.map Int.ofNat
theorem toI_len (l : List Nat) : (toI l).length = l.length := List.length_map ..
theorem el_toI (l : List Nat) (k : Nat) : el (toI l) k = (l.getD k 0 : Nat) := by
  unfold el toI
  rw [List.getD_eq_getElem?_getD, List.getElem?_map, List.getD_eq_getElem?_getD]
  cases l[k]? <;> rfl
def addN : List Nat → List Nat → List Nat
  | [], ys => ys
  | x :: xs, [] => x :: xs
  | x :: xs, y :: ys => (x + y) :: addN xs ys
def fmN : List Nat → List Nat → List Nat
  | [], _ => []
  | x :: a, b => addN (b.map (x * ·)) (0 :: fmN a b)
theorem getD_addN : ∀ (a b : List Nat) (k : Nat), (addN a b).getD k 0 = a.getD k 0 + b.getD k 0
  | [], b, k => by simp [addN]
  | x :: xs, [], k => by simp [addN]
  | x :: xs, y :: ys, 0 => by simp [addN]
  | x :: xs, y :: ys, k + 1 => by simpa [addN] using getD_addN xs ys k
theorem addN_len : ∀ (a b : List Nat), (addN a b).length = max a.length b.length
  | [], b => by simp [addN]
  | x :: xs, [] => by simp [addN]
  | x :: xs, y :: ys => by simp [addN, addN_len xs ys, Nat.succ_max_succ]
theorem fmN_len : ∀ (a b : List Nat), 0 < a.length → 0 < b.length → (fmN a b).length = a.length + b.length - 1
  | [], _, h, _ => by simp at h
  | [x], b, _, hb => by simp [fmN, addN_len]; omega
  | x :: y :: a, b, _, hb => by
    rw [fmN, addN_len, List.length_map, List.length_cons, fmN_len (y :: a) b (by simp) hb]
    simp only [List.length_cons]
    omega
theorem S_headN (g : Nat → Int) : ∀ n, S g (n + 1) = g 0 + S (fun i => g (i + 1)) n
  | 0 => by simp [S]
  | n + 1 => by rw [S, S_headN g n, S]; omega
theorem S_zeroN : ∀ n, S (fun _ => 0) n = 0
  | 0 => rfl
  | n + 1 => by rw [S, S_zeroN n]; rfl
theorem S_oneN (g : Nat → Int) (k : Nat) : ∀ n, S (fun j => if j = k then g j else 0) n = if k < n then g k else 0
  | 0 => by simp [S]
  | n + 1 => by
    rw [S, S_oneN g k n]
    by_cases h : k < n
    · rw [if_pos h, if_neg (by omega), if_pos (by omega)]; omega
    · by_cases e : n = k
      · subst e; rw [if_neg h, if_pos rfl, if_pos (by omega)]; omega
      · rw [if_neg h, if_neg e, if_neg (by omega)]; rfl
theorem getD_mapN (x : Nat) (b : List Nat) (k : Nat) : (b.map (x * ·)).getD k 0 = x * b.getD k 0 := by
  rw [List.getD_eq_getElem?_getD, List.getElem?_map, List.getD_eq_getElem?_getD]
  cases b[k]? <;> simp
theorem getD_fmN : ∀ (a b : List Nat) (k : Nat), (((fmN a b).getD k 0 : Nat) : Int) = S (fun i => S (fun j => cf (toI a) (toI b) i j k) b.length) a.length
  | [], b, k => by simp [fmN, S]
  | x :: a, b, k => by
    rw [fmN, getD_addN, getD_mapN, List.length_cons, S_headN]
    have h0 : S (fun j => cf (toI (x :: a)) (toI b) 0 j k) b.length = x * (b.getD k 0 : Nat) := by
      have e : (fun j => cf (toI (x :: a)) (toI b) 0 j k) = fun j => if j = k then (x : Int) * el (toI b) j else 0 := by
        funext j
        rw [cf, Nat.zero_add]
        rfl
      rw [e, S_oneN (fun j => (x : Int) * el (toI b) j) k, el_toI]
      by_cases hk : k < b.length
      · rw [if_pos hk]
      · rw [if_neg hk]; simp [hk]
    rw [h0, Int.natCast_add, Int.natCast_mul]
    congr 1
    match k with
    | 0 =>
      have e : (fun i => S (fun j => cf (toI (x :: a)) (toI b) (i + 1) j 0) b.length) = fun _ => 0 := by
        funext i
        have e2 : (fun j => cf (toI (x :: a)) (toI b) (i + 1) j 0) = fun _ => 0 := by
          funext j
          rw [cf, if_neg (by omega)]
        rw [e2, S_zeroN]
      rw [e, S_zeroN]
      rfl
    | k + 1 =>
      have e : (fun i => S (fun j => cf (toI (x :: a)) (toI b) (i + 1) j (k + 1)) b.length) = fun i => S (fun j => cf (toI a) (toI b) i j k) b.length := by
        funext i
        have e2 : (fun j => cf (toI (x :: a)) (toI b) (i + 1) j (k + 1)) = fun j => cf (toI a) (toI b) i j k := by
          funext j
          have e3 : el (toI (x :: a)) (i + 1) = el (toI a) i := by simp [el, toI]
          rw [cf, cf, e3]
          by_cases h : i + j = k
          · rw [if_pos h, if_pos (by omega)]
          · rw [if_neg h, if_neg (by omega)]
        rw [e2]
      rw [e, ← getD_fmN a b k]
      simp
theorem mul_toI {a b : List Nat} (ha : 0 < a.length) (hb : 0 < b.length) : mul (toI a) (toI b) = toI (fmN a b) := by
  refine ext_el (by rw [mul_len, toI_len, toI_len, toI_len, fmN_len a b ha hb]) fun k hk => ?_
  rw [mul_len] at hk
  rw [mul, el_muP _ _ hk, el_toI, getD_fmN, toI_len, toI_len]
theorem fmN_pos {a b : List Nat} (ha : 0 < a.length) (hb : 0 < b.length) : 0 < (fmN a b).length := by rw [fmN_len a b ha hb]; omega

def pT : List (List Nat) := [[1], [1], [1, 1], [1, 2, 2, 1], [1, 3, 5, 6, 5, 3, 1], [1, 4, 9, 15, 20, 22, 20, 15, 9, 4, 1], [1, 5, 14, 29, 49, 71, 90, 101, 101, 90, 71, 49, 29, 14, 5, 1], [1, 6, 20, 49, 98, 169, 259, 359, 455, 531, 573, 573, 531, 455, 359, 259, 169, 98, 49, 20, 6, 1]]
def bT : List (List (List Nat)) := [[[1]], [[1], [1]], [[1], [1, 1], [1]], [[1], [1, 1, 1], [1, 1, 1], [1]], [[1], [1, 1, 1, 1], [1, 1, 2, 1, 1], [1, 1, 1, 1], [1]], [[1], [1, 1, 1, 1, 1], [1, 1, 2, 2, 2, 1, 1], [1, 1, 2, 2, 2, 1, 1], [1, 1, 1, 1, 1], [1]], [[1], [1, 1, 1, 1, 1, 1], [1, 1, 2, 2, 3, 2, 2, 1, 1], [1, 1, 2, 3, 3, 3, 3, 2, 1, 1], [1, 1, 2, 2, 3, 2, 2, 1, 1], [1, 1, 1, 1, 1, 1], [1]], [[1], [1, 1, 1, 1, 1, 1, 1], [1, 1, 2, 2, 3, 3, 3, 2, 2, 1, 1], [1, 1, 2, 3, 4, 4, 5, 4, 4, 3, 2, 1, 1], [1, 1, 2, 3, 4, 4, 5, 4, 4, 3, 2, 1, 1], [1, 1, 2, 2, 3, 3, 3, 2, 2, 1, 1], [1, 1, 1, 1, 1, 1, 1], [1]]]
def bt (n k : Nat) : List Nat := (bT.getD n []).getD k []
theorem bt_all : (List.range 8).all (fun n => (List.range (n + 1)).all fun k => decide (bR n k = toI (bt n k)) && decide (0 < (bt n k).length)) = true := by decide +kernel
theorem bt_at {n k : Nat} (hn : n ≤ 7) (hk : k ≤ n) : bR n k = toI (bt n k) ∧ 0 < (bt n k).length := by
  have h := List.all_eq_true.1 (List.all_eq_true.1 bt_all n (List.mem_range.2 (by omega))) k (List.mem_range.2 (by omega))
  rw [Bool.and_eq_true] at h
  exact ⟨of_decide_eq_true h.1, of_decide_eq_true h.2⟩
def pt (n : Nat) : List Nat := pT.getD n []
theorem pt_all : (List.range 8).all (fun n => decide (prw n = toI (pt n)) && decide (0 < (pt n).length)) = true := by decide +kernel
theorem pt_at {n : Nat} (hn : n ≤ 7) : prw n = toI (pt n) ∧ 0 < (pt n).length := by
  have h := List.all_eq_true.1 pt_all n (List.mem_range.2 (by omega))
  rw [Bool.and_eq_true] at h
  exact ⟨of_decide_eq_true h.1, of_decide_eq_true h.2⟩
theorem turn_rev (xs : List Int) : turn xs = xs.reverse := by
  refine ext_el (by simp [turn]) fun k hk => ?_
  have hk' : k < xs.length := by simpa [turn] using hk
  rw [turn, el_lt (by simpa using hk'), List.getElem_map, List.getElem_range, el_lt (by omega), el_lt (by simpa using hk'), List.getElem_reverse]
theorem turn_toI (l : List Nat) : turn (toI l) = toI l.reverse := by rw [turn_rev, toI, toI, List.map_reverse]

end Go.Proofs.Ytjphaphnmclbcaa
