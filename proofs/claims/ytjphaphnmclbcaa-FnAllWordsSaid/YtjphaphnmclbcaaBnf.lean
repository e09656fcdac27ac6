/- Texts of this claim put into one: Fast, Fin, FinInv, MirFo, MirT, MirI, ValidI, Ord1I, Valid, Ord1S, Tab, Desc, LawFn, MirR. -/
import Derived.Test.YtjphaphnmclbcaaBne
import Derived.Test.YtjphaphnmclbcaaBnd
import Derived.Test.YtjphaphnmclbcaaChecked
/- Counts of orders, reckoned fast: for what the kernel reckons over all orders. No condition. -/
namespace Go.Proofs.Ytjphaphnmclbcaa

def ltb : Int → Int → Bool
  | .ofNat m, .ofNat n => Nat.blt m n
  | .ofNat _, .negSucc _ => false
  | .negSucc _, .ofNat _ => true
  | .negSucc m, .negSucc n => Nat.blt n m
theorem ltb_eq (a b : Int) : ltb a b = decide (a < b) := by
  cases a with
  | ofNat m => cases b with
    | ofNat n => rw [ltb, Bool.eq_iff_iff, Nat.blt_eq, decide_eq_true_iff]; simp only [Int.ofNat_eq_natCast]; omega
    | negSucc n => rw [ltb, eq_comm, decide_eq_false_iff_not]; simp only [Int.ofNat_eq_natCast]; omega
  | negSucc m => cases b with
    | ofNat n => rw [ltb, eq_comm, decide_eq_true_iff]; simp only [Int.ofNat_eq_natCast]; omega
    | negSucc n => rw [ltb, Bool.eq_iff_iff, Nat.blt_eq, decide_eq_true_iff]; omega
def eqb : Int → Int → Bool
  | .ofNat m, .ofNat n => Nat.beq m n
  | .ofNat _, .negSucc _ => false
  | .negSucc _, .ofNat _ => false
  | .negSucc m, .negSucc n => Nat.beq m n
theorem eqb_eq (a b : Int) : eqb a b = decide (a = b) := by
  cases a with
  | ofNat m => cases b with
    | ofNat n => rw [eqb, Bool.eq_iff_iff, Nat.beq_eq, decide_eq_true_iff]; simp only [Int.ofNat_eq_natCast]; omega
    | negSucc n => rw [eqb, eq_comm, decide_eq_false_iff_not]; simp only [Int.ofNat_eq_natCast]; omega
  | negSucc m => cases b with
    | ofNat n => rw [eqb, eq_comm, decide_eq_false_iff_not]; simp only [Int.ofNat_eq_natCast]; omega
    | negSucc n => rw [eqb, Bool.eq_iff_iff, Nat.beq_eq, decide_eq_true_iff]; omega
def eqs : List Int → List Int → Bool
  | [], [] => true
  | x :: xs, y :: ys => match eqb x y with
    | true => eqs xs ys
    | false => false
  | _, _ => false
theorem eqs_eq {xs ys : List Int} (h : eqs xs ys = true) : xs = ys := by
  induction xs generalizing ys with
  | nil => cases ys <;> simp_all [eqs]
  | cons x xs ih =>
    cases ys with
    | nil => simp [eqs] at h
    | cons y ys =>
      rw [eqs, eqb_eq] at h
      by_cases e : x = y
      · simp only [e, decide_true] at h
        rw [e, ih h]
      · simp [e] at h
/-- How many of xs are less than x, and n. -/
def clF (x : Int) : List Int → Nat → Nat
  | [], n => n
  | y :: v, n => match ltb y x with
    | true => clF x v (n + 1)
    | false => clF x v n
def invF : List Int → Nat → Nat
  | [], n => n
  | x :: xs, n => invF xs (clF x xs n)
def majF : List Int → Nat → Nat → Nat
  | [], _, n => n
  | [_], _, n => n
  | x :: y :: xs, k, n => match ltb y x with
    | true => majF (y :: xs) (k + 1) (n + k)
    | false => majF (y :: xs) (k + 1) n

theorem clF_eq (x : Int) (v : List Int) (n : Nat) : clF x v n = v.countP (fun y => decide (y < x)) + n := by
  induction v generalizing n with
  | nil => simp [clF]
  | cons y v ih =>
    rw [clF, ltb_eq]
    by_cases e : y < x
    · simp [e, ih]; omega
    · simp [e, ih]
theorem invF_add (xs : List Int) (n : Nat) : invF xs n = invF xs 0 + n := by
  induction xs generalizing n with
  | nil => simp [invF]
  | cons x xs ih => rw [invF, invF, ih, ih (clF x xs 0), clF_eq, clF_eq]; omega
theorem majF_add (xs : List Int) (k n : Nat) : majF xs k n = majF xs k 0 + n := by
  induction xs generalizing k n with
  | nil => simp [majF]
  | cons x xs ih =>
    cases xs with
    | nil => simp [majF]
    | cons y xs =>
      rw [majF, majF, ltb_eq]
      cases decide (y < x)
      · exact ih _ _
      · show majF (y :: xs) (k + 1) (n + k) = majF (y :: xs) (k + 1) (0 + k) + n
        rw [ih (k + 1) (n + k), ih (k + 1) (0 + k)]; omega
theorem el_cons (x : Int) (xs : List Int) (k : Nat) : el (x :: xs) (k + 1) = el xs k := by simp [el]
theorem el_zero (x : Int) (xs : List Int) : el (x :: xs) 0 = x := by simp [el]
theorem cntP_front (p : Nat → Bool) (k : Nat) : cntP p (k + 1) = (if p 0 then 1 else 0) + cntP (fun j => p (j + 1)) k := by
  induction k with
  | zero => simp [cntP]
  | succ k ih => rw [cntP, ih, cntP]; split <;> split <;> omega
theorem cntP_countP (v : List Int) (f : Int → Bool) : cntP (fun j => f (el v j)) v.length = (v.countP f : Int) := by
  induction v with
  | nil => rfl
  | cons y v ih =>
    rw [List.length_cons, cntP_front, el_zero]
    have e : (fun j => f (el (y :: v) (j + 1))) = fun j => f (el v j) := by funext j; rw [el_cons]
    rw [e, ih, List.countP_cons]
    split <;> simp <;> omega
theorem lb_cons (x : Int) (xs : List Int) (k : Nat) : lb (x :: xs) (k + 1) = lb xs k := by
  unfold lb lbP
  have e : (fun j => decide (el (x :: xs) (k + 1 + 1 + j) < el (x :: xs) (k + 1))) = fun j => decide (el xs (k + 1 + j) < el xs k) := by
    funext j
    rw [show k + 1 + 1 + j = (k + 1 + j) + 1 by omega, el_cons, el_cons]
  rw [e, List.length_cons]
  congr 1
  omega
theorem lb_zero (x : Int) (xs : List Int) : lb (x :: xs) 0 = (xs.countP (fun y => decide (y < x)) : Int) := by
  unfold lb lbP
  have e : (fun j => decide (el (x :: xs) (0 + 1 + j) < el (x :: xs) 0)) = fun j => (fun y => decide (y < x)) (el xs j) := by
    funext j
    rw [show 0 + 1 + j = j + 1 by omega, el_cons, el_zero]
  rw [e, ← cntP_countP]
  congr 1
theorem table_cons (x : Int) (xs : List Int) : table (x :: xs) = (xs.countP (fun y => decide (y < x)) : Int) :: table xs := by
  rw [table, List.length_cons, List.range_succ_eq_map, List.map_cons, lb_zero, List.map_map]
  congr 1
  exact List.map_congr_left (fun k _ => lb_cons x xs k)
theorem sumTo_cons (x : Int) (xs : List Int) (k : Nat) : sumTo (x :: xs) (k + 1) = x + sumTo xs k := by
  induction k with
  | zero => simp [sumTo, el_zero]
  | succ k ih => rw [sumTo, ih, el_cons, sumTo]; omega
theorem sumL_cons (x : Int) (xs : List Int) : sumL (x :: xs) = x + sumL xs := by rw [sumL, List.length_cons, sumTo_cons, sumL]
theorem sumL_nil : sumL [] = 0 := rfl
theorem invF_eq (xs : List Int) : (invF xs 0 : Int) = sumL (table xs) := by
  induction xs with
  | nil => rfl
  | cons x xs ih => rw [invF, invF_add, clF_eq, table_cons, sumL_cons, ← ih]; omega

/-- The sum of the places, from s on, behind which a lesser number stands. -/
def mjP (xs : List Int) : Nat → Int
  | 0 => 0
  | k + 1 => if el xs (k + 1) < el xs k then mjP xs k + k + 1 else mjP xs k
theorem sumL_app (xs : List Int) (v : Int) : sumL (xs ++ [v]) = sumL xs + v := by
  induction xs with
  | nil => simp [sumL, sumTo, el]
  | cons x xs ih => rw [List.cons_append, sumL_cons, ih, sumL_cons]; omega
theorem mjP_eq (xs : List Int) : ∀ k, sumL (dsP xs k) + (dsP xs k).length = mjP xs k := by
  intro k
  induction k with
  | zero => rfl
  | succ k ih =>
    rw [dsP, mjP]
    split
    · rw [sumL_app, List.length_append, List.length_singleton]; omega
    · exact ih
theorem major_eq (xs : List Int) : major xs = mjP xs (xs.length - 1) := mjP_eq xs _
theorem majF_drop (xs : List Int) (d : Nat) : ∀ (m : Nat), m + d = xs.length → (majF (xs.drop m) (m + 1) 0 : Int) + mjP xs (m - 0) = mjP xs (m + (d - 1)) := by
  induction d with
  | zero =>
    intro m hm
    rw [List.drop_eq_nil_of_le (by omega)]
    simp [majF]
  | succ d ih =>
    intro m hm
    have h1 : m < xs.length := by omega
    have e1 : xs.drop m = el xs m :: xs.drop (m + 1) := by rw [el_lt h1]; exact List.drop_eq_getElem_cons h1
    cases d with
    | zero =>
      rw [e1, List.drop_eq_nil_of_le (by omega)]
      simp [majF]
    | succ d =>
      have h2 : m + 1 < xs.length := by omega
      have e2 : xs.drop (m + 1) = el xs (m + 1) :: xs.drop (m + 1 + 1) := by rw [el_lt h2]; exact List.drop_eq_getElem_cons h2
      have := ih (m + 1) (by omega)
      rw [e1, e2, majF, ltb_eq, ← e2]
      simp only [Nat.sub_zero] at this ⊢
      rw [show m + 1 + (d + 1 - 1) = m + (d + 1 + 1 - 1) by omega] at this
      rw [← this, mjP]
      by_cases e : el xs (m + 1) < el xs m
      · simp only [e, decide_true, if_true]
        rw [majF_add]; omega
      · simp only [e, decide_false, if_false]
theorem majF_eq (xs : List Int) : (majF xs 1 0 : Int) = major xs := by
  have := majF_drop xs xs.length 0 (by omega)
  simp only [List.drop_zero, Nat.zero_add, Nat.sub_zero] at this
  rw [major_eq, ← this, mjP]
  omega

end Go.Proofs.Ytjphaphnmclbcaa

/- What a reckoning over all orders of at most seven values shows. No condition. -/
namespace Go.Proofs.Ytjphaphnmclbcaa

set_option maxRecDepth 100000 in
theorem count_all : (allUpTo 7).all (fun xs => (List.range 7).all fun v => xs.count (v : Int) == if v < xs.length then 1 else 0) = true := by decide +kernel

theorem count_valid {xs : List Int} (hn : xs.length ≤ 7) (hr : ∀ j, j < xs.length → 0 ≤ el xs j ∧ el xs j < xs.length) :
    (∀ v : Nat, v < 7 → xs.count (v : Int) = if v < xs.length then 1 else 0) ↔ Valid xs := by
  constructor
  · intro h
    refine ⟨hn, fun j hj => (hr j hj).1, fun j hj => (hr j hj).2, fun i j hij hj e => ?_⟩
    have h2 := count_two hij hj e
    obtain ⟨v, hv⟩ := Int.eq_ofNat_of_zero_le (hr j hj).1
    have h3 := (hr j hj).2
    rw [hv] at h2 h3
    have := h v (by omega)
    rw [this] at h2
    split at h2 <;> omega
  · intro h v hv
    have := h.all count_all
    rw [List.all_eq_true] at this
    simpa using this v (by simpa using hv)

end Go.Proofs.Ytjphaphnmclbcaa

/- Inverses of orders: they are orders, and their products rise. No condition. -/
namespace Go.Proofs.Ytjphaphnmclbcaa

theorem inv_length (xs : List Int) : (inv xs).length = xs.length := inv_len xs xs.length

/-- Each value has a place. -/
theorem Valid.place {xs : List Int} (h : Valid xs) {v : Nat} (hv : v < xs.length) : ∃ k, k < xs.length ∧ el xs k = v := by
  have hc := (count_valid h.len (fun j hj => ⟨h.lo j hj, h.hi j hj⟩)).2 h v (by have := h.len; omega)
  rw [if_pos hv] at hc
  have hm : (v : Int) ∈ xs := List.count_pos_iff.1 (by omega)
  obtain ⟨k, hk, he⟩ := List.mem_iff_getElem.1 hm
  exact ⟨k, hk, by rw [el_lt hk]; exact he⟩

/-- The inverse at a value is its place. -/
theorem inv_el {xs : List Int} (h : Valid xs) {k : Nat} (hk : k < xs.length) : el (inv xs) (el xs k).toNat = k := by
  have key : ∀ m, m ≤ xs.length → ∀ j, j < m → el (iter (fun (a : List Int) k => a.set (el xs k).toNat (k : Int)) (List.replicate xs.length 0) m) (el xs j).toNat = j := by
    intro m
    induction m with
    | zero => intro _ j hj; omega
    | succ m ih =>
      intro hm j hj
      have hmlo := h.lo m (by omega)
      have hmhi := h.hi m (by omega)
      rw [iter]
      by_cases e : j = m
      · rw [e, el_set_same (by rw [inv_len]; omega)]
      · have hjlo := h.lo j (by omega)
        have := h.ne j m (by omega) (by omega)
        rw [el_set_ne (by omega), ih (by omega) j (by omega)]
  exact key xs.length (Nat.le_refl _) k hk

theorem inv_at {xs : List Int} (h : Valid xs) {v : Nat} (hv : v < xs.length) : ∃ k, k < xs.length ∧ el xs k = v ∧ el (inv xs) v = k := by
  obtain ⟨k, hk, he⟩ := h.place hv
  have := inv_el h hk
  rw [he, Int.toNat_natCast] at this
  exact ⟨k, hk, he, this⟩

theorem inv_valid {xs : List Int} (h : Valid xs) : Valid (inv xs) := by
  refine ⟨by rw [inv_length]; exact h.len, fun j hj => ?_, fun j hj => ?_, fun i j hij hj => ?_⟩
  · rw [inv_length] at hj
    obtain ⟨k, hk, _, he⟩ := inv_at h hj
    rw [he]; omega
  · rw [inv_length] at hj ⊢
    obtain ⟨k, hk, _, he⟩ := inv_at h hj
    rw [he]; omega
  · rw [inv_length] at hj
    obtain ⟨k, hk, h1, he⟩ := inv_at h hj
    obtain ⟨k2, hk2, h2, he2⟩ := inv_at h (show i < xs.length by omega)
    rw [he, he2]
    intro e
    have : k2 = k := by omega
    rw [this] at h2
    omega

theorem comp_inv {xs : List Int} (h : Valid xs) : comp xs (inv xs) = rise xs.length := by
  refine ext_el (by rw [comp, map_range_len, inv_length, rise_len]) (fun j hj => ?_)
  rw [comp, map_range_len, inv_length] at hj
  obtain ⟨k, hk, h1, he⟩ := inv_at h hj
  rw [comp, el_map (by rw [inv_length]; exact hj), he, Int.toNat_natCast, h1, rise, el_map hj]

theorem inv_inv {xs : List Int} (h : Valid xs) : inv (inv xs) = xs := by
  refine ext_el (by rw [inv_length, inv_length]) (fun j hj => ?_)
  rw [inv_length, inv_length] at hj
  have hlo := h.lo j hj
  have hhi := h.hi j hj
  obtain ⟨v, hv⟩ := Int.eq_ofNat_of_zero_le hlo
  have h1 := inv_el h hj
  rw [hv, Int.toNat_natCast] at h1
  have h2 := inv_el (inv_valid h) (k := v) (by rw [inv_length]; omega)
  rw [h1, Int.toNat_natCast] at h2
  rw [h2, hv]

end Go.Proofs.Ytjphaphnmclbcaa

/- Foata's map and its way back undo each other. No condition. -/
namespace Go.Proofs.Ytjphaphnmclbcaa

/-- The numbers v cut behind those of the side and turned, b the open piece. -/
def tbF (low : Bool) (x : Int) : List Int → List Int → List Int
  | [], b => b
  | y :: v, b => match (ltb y x).xor low with
    | false => y :: (b ++ tbF low x v [])
    | true => tbF low x v (b ++ [y])
theorem xor_sid (low : Bool) (x y : Int) : ((ltb y x).xor low) = !sid low x y := by
  rw [ltb_eq, sid]; cases decide (y < x) <;> cases low <;> rfl
theorem tbF_yes {low : Bool} {x y : Int} {v b : List Int} (h : sid low x y = true) : tbF low x (y :: v) b = y :: (b ++ tbF low x v []) := by rw [tbF, xor_sid, h]; rfl
theorem tbF_no {low : Bool} {x y : Int} {v b : List Int} (h : sid low x y = false) : tbF low x (y :: v) b = tbF low x v (b ++ [y]) := by rw [tbF, xor_sid, h]; rfl
theorem tbF_drop (low : Bool) (x : Int) (v : List Int) : ∀ d i, i + d = v.length → (tbP low x v i).1 ++ tbF low x (v.drop i) (tbP low x v i).2 = (tbP low x v v.length).1 ++ (tbP low x v v.length).2 := by
  intro d
  induction d with
  | zero => intro i hi; rw [List.drop_eq_nil_of_le (by omega), tbF, show i = v.length by omega]
  | succ d ih =>
    intro i hi
    rw [← ih (i + 1) (by omega), drop_cons (by omega)]
    cases h : sid low x (el v i)
    · rw [tbF_no h, tbP_no h]
    · rw [tbF_yes h, tbP_yes h]; simp
theorem turnB_F (v : List Int) (x : Int) : turnB v x = tbF (lowOf v x) x v [] := by
  have := tbF_drop (lowOf v x) x v v.length 0 (by omega)
  simpa [turnB, tbP] using this.symm
theorem tbF_none {low : Bool} {x : Int} {r : List Int} (h : ∀ y ∈ r, sid low x y = false) (v b : List Int) : tbF low x (r ++ v) b = tbF low x v (b ++ r) := by
  induction r generalizing b with
  | nil => simp
  | cons y r ih =>
    rw [List.cons_append, tbF_no (h y (by simp)), ih (fun z hz => h z (by simp [hz]))]
    simp
theorem bkS_none (low : Bool) (x : Int) (v : List Int) : ∀ y ∈ (bkS low x v).1, sid low x y = false := by
  induction v with
  | nil => intro y hy; simp [bkS] at hy
  | cons z v ih =>
    intro y hy
    rw [bkS] at hy
    split at hy
    · simp at hy
    · rename_i h
      simp only [List.mem_cons] at hy
      rcases hy with rfl | hy
      · simpa using h
      · exact ih y hy
theorem bkS_split (low : Bool) (x : Int) (v : List Int) : v = (bkS low x v).1 ++ v.drop (bkS low x v).1.length := by
  conv => lhs; rw [← List.take_append_drop (bkS low x v).1.length v, ← bkS_run]
/-- Turning what was turned back. -/
theorem tbF_bkS (low : Bool) (x : Int) (v : List Int) : tbF low x (bkS low x v).2 [] = v.drop (bkS low x v).1.length := by
  induction v with
  | nil => rfl
  | cons y v ih =>
    rw [bkS]
    split
    · rename_i h
      show tbF low x ((bkS low x v).1 ++ [y] ++ (bkS low x v).2) [] = (y :: v).drop 0
      rw [List.append_assoc, tbF_none (bkS_none low x v), List.singleton_append, tbF_yes h, ih, List.nil_append, ← bkS_split, List.drop_zero]
    · exact ih
theorem bkS_app {low : Bool} {x : Int} {r : List Int} (h : ∀ y ∈ r, sid low x y = false) (v : List Int) : bkS low x (r ++ v) = (r ++ (bkS low x v).1, (bkS low x v).2) := by
  induction r with
  | nil => rfl
  | cons y r ih =>
    rw [List.cons_append, bkS, h y (by simp), ih (fun z hz => h z (by simp [hz]))]
    simp
/-- Turning back what was turned; b the open piece, of which no number is of the side. -/
theorem bkS_tbF (low : Bool) (x : Int) : ∀ (v b : List Int), (∀ y ∈ b, sid low x y = false) → (∀ y, (b ++ v).getLast? = some y → sid low x y = true) → bkS low x (tbF low x v b) = ([], b ++ v) := by
  intro v
  induction v with
  | nil =>
    intro b hb hl
    rw [List.append_nil] at hl
    cases e : b.getLast? with
    | none =>
      obtain rfl := List.getLast?_eq_none_iff.1 e
      rfl
    | some y =>
      have h1 := hl y e
      rw [hb y (List.mem_of_getLast? e)] at h1
      cases h1
  | cons y v ih =>
    intro b hb hl
    cases h : sid low x y
    · rw [tbF_no h, ih (b ++ [y]) (fun z hz => by
        rw [List.mem_append, List.mem_singleton] at hz
        rcases hz with hz | rfl
        · exact hb z hz
        · exact h) (fun z hz => hl z (by simpa using hz))]
      simp
    · have h1 : bkS low x (tbF low x v []) = ([], v) := by
        rw [ih [] (by simp) (fun z hz => hl z (by
          rw [List.nil_append] at hz
          cases v with
          | nil => simp at hz
          | cons a v => rw [List.getLast?_append, List.getLast?_cons_cons, hz]; rfl))]
        rfl
      rw [tbF_yes h, bkS, if_pos h, bkS_app hb, h1]
      simp

theorem lowOf_last {v : List Int} {x y : Int} (h : v.getLast? = some y) : lowOf v x = decide (y < x) := by
  rw [List.getLast?_eq_some_iff] at h
  obtain ⟨u, rfl⟩ := h
  simp [lowOf, el]
theorem turn_head (low : Bool) (x : Int) : ∀ (v b : List Int), (∀ y, (b ++ v).getLast? = some y → sid low x y = true) → (∀ y ∈ b, sid low x y = false) → 0 < (b ++ v).length → 0 < (tbF low x v b).length ∧ sid low x (el (tbF low x v b) 0) = true := by
  intro v
  induction v with
  | nil =>
    intro b hl hb h0
    rw [List.append_nil] at hl h0
    cases e : b.getLast? with
    | none =>
      obtain rfl := List.getLast?_eq_none_iff.1 e
      simp at h0
    | some y =>
      have h1 := hl y e
      rw [hb y (List.mem_of_getLast? e)] at h1
      cases h1
  | cons y v ih =>
    intro b hl hb h0
    cases h : sid low x y
    · rw [tbF_no h]
      refine ih (b ++ [y]) (fun z hz => hl z (by simpa using hz)) (fun z hz => ?_) (by simp; omega)
      rw [List.mem_append, List.mem_singleton] at hz
      rcases hz with hz | rfl
      · exact hb z hz
      · exact h
    · rw [tbF_yes h, el_zero]
      exact ⟨by simp, h⟩
theorem sid_of {x y : Int} (low : Bool) (h : decide (y < x) = low) : sid low x y = true := by rw [sid, h]; simp
theorem of_sid {x y : Int} {low : Bool} (h : sid low x y = true) : decide (y < x) = low := by simpa [sid] using h
theorem back_turn (v : List Int) (x : Int) : backB (turnB v x) x = v := by
  cases v with
  | nil => rfl
  | cons a v =>
    obtain ⟨y, hy⟩ : ∃ y, (a :: v).getLast? = some y := ⟨_, List.getLast?_eq_some_getLast (by simp)⟩
    have hs : ∀ z, ([] ++ (a :: v)).getLast? = some z → sid (lowOf (a :: v) x) x z = true := fun z hz => by
      rw [List.nil_append] at hz
      exact sid_of _ (lowOf_last hz).symm
    have h1 := turn_head (lowOf (a :: v) x) x (a :: v) [] hs (by simp) (by simp)
    have h2 := bkS_tbF (lowOf (a :: v) x) x (a :: v) [] (by simp) hs
    rw [← turnB_F] at h1 h2
    have h3 : lowB (turnB (a :: v) x) x = lowOf (a :: v) x := by
      rw [lowB, decide_eq_true h1.1, of_sid h1.2]; rfl
    rw [backB, h3, h2]
    rfl
theorem bk_head (low : Bool) (x y : Int) (v : List Int) (h : sid low x y = true) : (bkS low x (y :: v)).1 = [] ∧ ∃ z, (bkS low x (y :: v)).2.getLast? = some z ∧ sid low x z = true := by
  induction v generalizing y with
  | nil => rw [bkS, if_pos h]; exact ⟨rfl, y, by simp [bkS], h⟩
  | cons a v ih =>
    rw [bkS, if_pos h]
    refine ⟨rfl, ?_⟩
    cases ha : sid low x a
    · rw [bkS, ha]
      simp only [Bool.false_eq_true, if_false]
      have h1 := ih y h
      rw [bkS, if_pos h] at h1
      obtain ⟨_, z, hz, hs⟩ := h1
      simp only at hz
      cases e : (bkS low x v).2 with
      | nil => exact ⟨y, by simp only [List.append_nil, List.cons_append]; rw [← List.cons_append, List.getLast?_append]; rfl, h⟩
      | cons c l =>
        rw [e] at hz
        refine ⟨z, ?_, hs⟩
        rw [List.getLast?_append] at hz ⊢
        rw [List.getLast?_eq_some_getLast (l := c :: l) (by simp)] at hz ⊢
        exact hz
    · obtain ⟨h1, z, hz, hs⟩ := ih a ha
      refine ⟨z, ?_, hs⟩
      rw [List.getLast?_append, hz]; rfl
theorem turn_back (v : List Int) (x : Int) : turnB (backB v x) x = v := by
  cases v with
  | nil => rfl
  | cons a v =>
    have hs : sid (lowB (a :: v) x) x a = true := sid_of _ (by simp [lowB, el])
    obtain ⟨h1, z, hz, hzs⟩ := bk_head (lowB (a :: v) x) x a v hs
    have h2 := tbF_bkS (lowB (a :: v) x) x (a :: v)
    have h3 : backB (a :: v) x = (bkS (lowB (a :: v) x) x (a :: v)).2 := by rw [backB, h1, List.nil_append]
    have h4 : lowOf (backB (a :: v) x) x = lowB (a :: v) x := by rw [h3, lowOf_last hz, of_sid hzs]
    rw [turnB_F, h4, h3, h2, h1]
    rfl

theorem el_app_last (v : List Int) (x : Int) : el (v ++ [x]) v.length = x := by simp [el]
theorem fbP_foat (xs : List Int) : ∀ t, t ≤ xs.length → fbP (foat xs) t = foP xs (xs.length - t) ∧ fbT (foat xs) t = xs.drop (xs.length - t) := by
  intro t
  induction t with
  | zero => intro _; exact ⟨rfl, by rw [fbT, List.drop_eq_nil_of_le (by omega)]⟩
  | succ t ih =>
    intro ht
    obtain ⟨h1, h2⟩ := ih (by omega)
    obtain ⟨m, hm⟩ : ∃ m, xs.length - t = m + 1 := ⟨xs.length - t - 1, by omega⟩
    have hl := foP_len xs (m + 1)
    have h3 : el (foP xs (m + 1)) ((foP xs (m + 1)).length - 1) = el xs m := by
      have := el_app_last (turnB (foP xs m) (el xs m)) (el xs m)
      rw [turnB_len, foP_len] at this
      rw [hl, foP]
      exact this
    have h4 : (foP xs (m + 1)).take ((foP xs (m + 1)).length - 1) = turnB (foP xs m) (el xs m) := by
      rw [hl, foP, List.take_append_of_le_length (by rw [turnB_len, foP_len]; omega), List.take_of_length_le (by rw [turnB_len, foP_len]; omega)]
    constructor
    · rw [fbP, h1, hm, h3, h4, back_turn, show xs.length - (t + 1) = m by omega]
    · rw [fbT, h1, h2, hm, h3, show xs.length - (t + 1) = m by omega, drop_cons (show m < xs.length by omega)]
theorem fbac_foat (xs : List Int) : fbac (foat xs) = xs := by
  rw [fbac, foat_len, (fbP_foat xs _ (Nat.le_refl _)).2, Nat.sub_self, List.drop_zero]
theorem el_fbT (xs : List Int) : ∀ t k, k < t → el (fbT xs t) k = el (fbP xs (t - 1 - k)) ((fbP xs (t - 1 - k)).length - 1) := by
  intro t
  induction t with
  | zero => intro k hk; omega
  | succ t ih =>
    intro k hk
    cases k with
    | zero => rw [fbT, el_zero]; simp
    | succ k => rw [fbT, el_cons, ih k (by omega), show t + 1 - 1 - (k + 1) = t - 1 - k by omega]
theorem foP_fbac (xs : List Int) : ∀ k, k ≤ xs.length → foP (fbac xs) k = fbP xs (xs.length - k) := by
  intro k
  induction k with
  | zero =>
    intro _
    have := fbP_len xs xs.length
    rw [foP, Nat.sub_zero]
    exact (List.eq_nil_of_length_eq_zero (by omega)).symm
  | succ k ih =>
    intro hk
    have h1 : el (fbac xs) k = el (fbP xs (xs.length - (k + 1))) ((fbP xs (xs.length - (k + 1))).length - 1) := by
      rw [fbac, el_fbT xs _ _ (by omega), show xs.length - 1 - k = xs.length - (k + 1) by omega]
    have hl := fbP_len xs (xs.length - (k + 1))
    have h2 : fbP xs (xs.length - k) = backB ((fbP xs (xs.length - (k + 1))).take k) (el (fbP xs (xs.length - (k + 1))) k) := by
      rw [show xs.length - k = xs.length - (k + 1) + 1 by omega, fbP, hl, show xs.length - (xs.length - (k + 1)) - 1 = k by omega]
    rw [show (fbP xs (xs.length - (k + 1))).length - 1 = k by omega] at h1
    rw [foP, ih (by omega), h2, h1, turn_back, ← take_el (by omega), List.take_of_length_le (by omega)]
theorem foat_fbac (xs : List Int) : foat (fbac xs) = xs := by
  rw [foat, fbac_len, foP_fbac xs _ (Nat.le_refl _), Nat.sub_self, fbP]

theorem sid_perm (low : Bool) (x : Int) (v b : List Int) : (tbF low x v b).Perm (b ++ v) := by
  induction v generalizing b with
  | nil => simp [tbF]
  | cons y v ih =>
    cases h : sid low x y
    · rw [tbF_no h]
      simpa using ih (b ++ [y])
    · rw [tbF_yes h]
      have := ih []
      exact ((this.append_left b).cons y).trans (by rw [List.nil_append]; exact List.perm_middle.symm)
theorem turnB_perm (v : List Int) (x : Int) : (turnB v x).Perm v := by
  rw [turnB_F]; exact sid_perm _ _ _ _
theorem foP_perm (xs : List Int) : ∀ k, k ≤ xs.length → (foP xs k).Perm (xs.take k) := by
  intro k
  induction k with
  | zero => intro _; simp [foP]
  | succ k ih =>
    intro hk
    rw [foP, take_el (by omega)]
    exact ((turnB_perm _ _).trans (ih (by omega))).append_right _
theorem foat_perm (xs : List Int) : (foat xs).Perm xs := by
  have := foP_perm xs _ (Nat.le_refl _)
  rwa [List.take_of_length_le (Nat.le_refl _)] at this
/-- What has the values of an order is an order. -/
theorem Valid.perm {xs ys : List Int} (h : Valid xs) (hp : ys.Perm xs) : Valid ys := by
  have hl := hp.length_eq
  have hm : ∀ j, j < ys.length → 0 ≤ el ys j ∧ el ys j < ys.length := fun j hj => by
    rw [hl]; exact h.mem (hp.subset (el_mem hj))
  refine ⟨by rw [hl]; exact h.len, fun j hj => (hm j hj).1, fun j hj => (hm j hj).2, fun i j hij hj => ?_⟩
  have hn := (hp.nodup_iff).2 h.nodup
  rw [List.nodup_iff_pairwise_ne, List.pairwise_iff_getElem] at hn
  have := hn i j (by omega) hj hij
  rwa [← el_lt, ← el_lt] at this
theorem foat_valid {xs : List Int} (h : Valid xs) : Valid (foat xs) := h.perm (foat_perm xs)
theorem fbac_valid {xs : List Int} (h : Valid xs) : Valid (fbac xs) := h.perm (by
  have := foat_perm (fbac xs)
  rw [foat_fbac] at this
  exact this.symm)
theorem foat_last (xs : List Int) (h : 0 < xs.length) : el (foat xs) (xs.length - 1) = el xs (xs.length - 1) := by
  obtain ⟨m, hm⟩ : ∃ m, xs.length = m + 1 := ⟨xs.length - 1, by omega⟩
  rw [foat, hm, foP]
  have := el_app_last (turnB (foP xs m) (el xs m)) (el xs m)
  rw [turnB_len, foP_len] at this
  exact this

/-- Foata's map, reckoned fast. -/
def laF (x : Int) : List Int → Bool → Bool
  | [], b => b
  | y :: v, _ => laF x v (ltb y x)
def foF : List Int → List Int → List Int
  | [], v => v
  | x :: xs, v => foF xs (tbF (laF x v false) x v [] ++ [x])
theorem laF_eq (x : Int) (v : List Int) (b : Bool) : laF x v b = if v.length = 0 then b else lowOf v x := by
  induction v generalizing b with
  | nil => simp [laF]
  | cons y v ih =>
    rw [laF, ih, if_neg (show ¬ (y :: v).length = 0 by simp)]
    cases v with
    | nil => simp [lowOf, el, ltb_eq]
    | cons z v =>
      rw [if_neg (show ¬ (z :: v).length = 0 by simp)]
      have : el (y :: z :: v) ((y :: z :: v).length - 1) = el (z :: v) ((z :: v).length - 1) := by
        rw [show (y :: z :: v).length - 1 = ((z :: v).length - 1) + 1 by simp, el_cons]
      rw [lowOf, lowOf, this]
      simp
theorem laF_low (x : Int) (v : List Int) : laF x v false = lowOf v x := by
  rw [laF_eq]
  split
  · rename_i h
    obtain rfl := List.eq_nil_of_length_eq_zero h
    rfl
  · rfl
theorem foF_drop (xs : List Int) : ∀ d k, k + d = xs.length → foF (xs.drop k) (foP xs k) = foat xs := by
  intro d
  induction d with
  | zero => intro k hk; rw [List.drop_eq_nil_of_le (by omega), foF, foat, show k = xs.length by omega]
  | succ d ih =>
    intro k hk
    rw [drop_cons (by omega), foF, laF_low, ← turnB_F]
    exact ih (k + 1) (by omega)
theorem foF_eq (xs : List Int) : foF xs [] = foat xs := foF_drop xs xs.length 0 (by omega)

/-- Does the number v + 1 stand ahead of v? -/
def befF (v : Int) : List Int → Bool
  | [] => false
  | y :: xs => match eqb y v with
    | true => false
    | false => match eqb y (v + 1) with
      | true => true
      | false => befF v xs
theorem befF_idx (v : Int) (xs : List Int) : ∀ i j, i < xs.length → j < xs.length → el xs i = v → el xs j = v + 1 → (∀ k, k < xs.length → el xs k = v → k = i) → (∀ k, k < xs.length → el xs k = v + 1 → k = j) → befF v xs = decide (j < i) := by
  induction xs with
  | nil => intro i j hi; simp at hi
  | cons y xs ih =>
    intro i j hi hj ei ej ui uj
    rw [befF, eqb_eq, eqb_eq]
    by_cases h1 : y = v
    · have := ui 0 (by simp) (by rw [el_zero]; exact h1)
      simp only [h1, decide_true]
      rw [eq_comm, decide_eq_false_iff_not]; omega
    · by_cases h2 : y = v + 1
      · have := uj 0 (by simp) (by rw [el_zero]; exact h2)
        have h3 : i ≠ 0 := fun e => by rw [e, el_zero] at ei; exact h1 ei
        rw [decide_eq_false h1, decide_eq_true h2]
        simp only
        rw [eq_comm, decide_eq_true_iff]; omega
      · simp only [h1, h2, decide_false]
        cases i with
        | zero => rw [el_zero] at ei; exact absurd ei h1
        | succ i =>
          cases j with
          | zero => rw [el_zero] at ej; exact absurd ej h2
          | succ j =>
            rw [el_cons] at ei ej
            rw [List.length_cons] at hi hj
            rw [ih i j (by omega) (by omega) ei ej (fun k hk e => by have := ui (k + 1) (by simp; omega) (by rw [el_cons]; exact e); omega) (fun k hk e => by have := uj (k + 1) (by simp; omega) (by rw [el_cons]; exact e); omega)]
            simp
def bef2 (xs ys : List Int) : Nat → Bool
  | 0 => true
  | k + 1 => match (befF (Int.ofNat k) xs).xor (befF (Int.ofNat k) ys) with
    | true => false
    | false => bef2 xs ys k
theorem bef2_all {xs ys : List Int} {n : Nat} (h : bef2 xs ys n = true) : ∀ k, k < n → befF (k : Int) xs = befF (k : Int) ys := by
  induction n with
  | zero => intro k hk; omega
  | succ n ih =>
    rw [bef2] at h
    cases e : (befF (Int.ofNat n) xs).xor (befF (Int.ofNat n) ys)
    · rw [e] at h
      intro k hk
      by_cases e2 : k = n
      · rw [e2]
        have : befF (Int.ofNat n) xs = befF (Int.ofNat n) ys := by revert e; cases befF (Int.ofNat n) xs <;> cases befF (Int.ofNat n) ys <;> simp
        exact this
      · exact ih h k (by omega)
    · rw [e] at h; cases h
theorem bef_inv {xs : List Int} (h : Valid xs) {k : Nat} (hk : k + 1 < xs.length) : befF (k : Int) xs = decide (el (inv xs) (k + 1) < el (inv xs) k) := by
  obtain ⟨i, hi, ei, fi⟩ := inv_at h (show k < xs.length by omega)
  obtain ⟨j, hj, ej, fj⟩ := inv_at h hk
  have u : ∀ a b, a < xs.length → b < xs.length → el xs a = el xs b → a = b := fun a b ha hb e => by
    rcases Nat.lt_trichotomy a b with h1 | h1 | h1
    · exact absurd e (h.ne _ _ h1 hb)
    · exact h1
    · exact absurd e.symm (h.ne _ _ h1 ha)
  rw [befF_idx (k : Int) xs i j hi hj ei (by rw [ej]; simp) (fun a ha e => u a i ha hi (by rw [e, ei])) (fun a ha e => u a j ha hj (by rw [e, ej]; simp)), fi, fj]
  simp
theorem dsP_congr {xs ys : List Int} : ∀ k, (∀ j, j < k → decide (el xs (j + 1) < el xs j) = decide (el ys (j + 1) < el ys j)) → dsP xs k = dsP ys k := by
  intro k
  induction k with
  | zero => intro _; rfl
  | succ k ih =>
    intro h
    have h1 := h k (by omega)
    rw [decide_eq_decide] at h1
    rw [dsP, dsP, ih (fun j hj => h j (by omega))]
    by_cases e : el xs (k + 1) < el xs k
    · rw [if_pos e, if_pos (h1.1 e)]
    · rw [if_neg e, if_neg (fun e2 => e (h1.2 e2))]

end Go.Proofs.Ytjphaphnmclbcaa

/- The order of a table: the values that are left, in their order. No condition. -/
namespace Go.Proofs.Ytjphaphnmclbcaa

/-- The values that are left behind the first k places. -/
def leP (ts : List Int) : Nat → List Int
  | 0 => rise ts.length
  | k + 1 => (leP ts k).eraseIdx (el ts k).toNat
def ordT (ts : List Int) : List Int := (List.range ts.length).map fun k => el (leP ts k) (el ts k).toNat

theorem rise_pw (n : Nat) : (rise n).Pairwise (· < ·) := by
  rw [rise, List.pairwise_map]
  exact List.pairwise_lt_range.imp (fun h => by omega)
theorem rise_mem {n : Nat} {x : Int} : x ∈ rise n ↔ 0 ≤ x ∧ x < n := by
  rw [rise, List.mem_map]
  constructor
  · rintro ⟨k, hk, rfl⟩
    have := List.mem_range.1 hk
    omega
  · rintro ⟨h1, h2⟩
    exact ⟨x.toNat, List.mem_range.2 (by omega), by omega⟩
theorem leP_sub (ts : List Int) (k : Nat) : (leP ts k).Sublist (rise ts.length) := by
  induction k with
  | zero => exact List.Sublist.refl _
  | succ k ih => exact (List.eraseIdx_sublist _ _).trans ih
theorem leP_pw (ts : List Int) (k : Nat) : (leP ts k).Pairwise (· < ·) := (rise_pw _).sublist (leP_sub ts k)
theorem leP_mem {ts : List Int} {k : Nat} {x : Int} (h : x ∈ leP ts k) : 0 ≤ x ∧ x < ts.length := rise_mem.1 ((leP_sub ts k).subset h)
theorem vt_nat {ts : List Int} (h : VT ts) {k : Nat} (hk : k < ts.length) : ((el ts k).toNat : Int) = el ts k ∧ (el ts k).toNat + k < ts.length := by
  have h1 := h.lo k hk
  have h2 := h.hi k hk
  omega
theorem leP_len {ts : List Int} (h : VT ts) : ∀ k, k ≤ ts.length → (leP ts k).length = ts.length - k := by
  intro k
  induction k with
  | zero => intro _; simp [leP, rise_len]
  | succ k ih =>
    intro hk
    have h1 := ih (by omega)
    have h2 := vt_nat h (k := k) (by omega)
    rw [leP, List.length_eraseIdx, if_pos (by omega), h1]
    omega

/-- How many numbers of a list are less than x. -/
def less (L : List Int) (x : Int) : Nat := L.countP fun y => decide (y < x)
theorem less_succ (L : List Int) (x : Int) : less L (x + 1) = less L x + L.count x := by
  induction L with
  | nil => rfl
  | cons a l ih =>
    unfold less at *
    rw [List.countP_cons, List.countP_cons, ih, List.count_cons]
    by_cases h1 : a < x
    · have h2 : a < x + 1 := by omega
      have h3 : ¬ a = x := by omega
      simp [h1, h2, h3]; omega
    · by_cases h3 : a = x
      · subst h3
        have h2 : a < a + 1 := by omega
        simp [h2]; omega
      · have h2 : ¬ a < x + 1 := by omega
        simp [h1, h2, h3]
theorem erase_perm {L : List Int} {i : Nat} (hi : i < L.length) : (L[i] :: L.eraseIdx i).Perm L := by
  have e : L = L.take i ++ L[i] :: L.drop (i + 1) := by
    rw [← List.drop_eq_getElem_cons hi, List.take_append_drop]
  have h := (List.perm_middle (a := L[i]) (l₁ := L.take i) (l₂ := L.drop (i + 1))).symm
  rw [← e, ← List.eraseIdx_eq_take_drop_succ] at h
  exact h
theorem pw_nodup {L : List Int} (h : L.Pairwise (· < ·)) : L.Nodup := h.imp (fun h => by omega)
theorem less_in {L : List Int} (h : L.Pairwise (· < ·)) {x : Int} (hx : x ∈ L) : less L (x + 1) = less L x + 1 := by
  rw [less_succ, List.Nodup.count (pw_nodup h), if_pos hx]
theorem less_out {L : List Int} {x : Int} (hx : x ∉ L) : less L (x + 1) = less L x := by
  rw [less_succ, List.count_eq_zero_of_not_mem hx]; rfl
theorem less_none {L : List Int} {x : Int} (h : ∀ y ∈ L, x ≤ y) : less L x = 0 := by
  rw [less, List.countP_eq_zero]
  intro y hy
  have := h y hy
  simp; omega
theorem less_all {L : List Int} {x : Int} (h : ∀ y ∈ L, y < x) : less L x = L.length := by
  rw [less, List.countP_eq_length]
  intro y hy
  simpa using h y hy
theorem less_at {L : List Int} (h : L.Pairwise (· < ·)) : ∀ i, i < L.length → less L (el L i) = i := by
  induction L with
  | nil => intro i hi; simp at hi
  | cons a l ih =>
    intro i hi
    rw [List.pairwise_cons] at h
    cases i with
    | zero =>
      refine less_none (fun y hy => ?_)
      have e : el (a :: l) 0 = a := rfl
      rw [e]
      rcases List.mem_cons.1 hy with rfl | hy
      · omega
      · have := h.1 y hy; omega
    | succ i =>
      have e : el (a :: l) (i + 1) = el l i := by simp [el]
      have hi' : i < l.length := by simpa using hi
      have ha := h.1 (el l i) (el_mem hi')
      rw [e]
      have := ih h.2 i hi'
      unfold less at *
      rw [List.countP_cons, this]
      simp [ha]
theorem less_find {L : List Int} (h : L.Pairwise (· < ·)) {x : Int} (hx : x ∈ L) : less L x < L.length ∧ el L (less L x) = x := by
  obtain ⟨i, hi, rfl⟩ := List.mem_iff_getElem.1 hx
  have e : el L i = L[i] := el_lt hi
  have := less_at h i hi
  rw [e] at this
  rw [this]
  exact ⟨hi, e⟩
theorem less_perm {L M : List Int} (h : L.Perm M) (x : Int) : less L x = less M x := h.countP_eq _
theorem erase_mem {L : List Int} (h : L.Nodup) {i : Nat} (hi : i < L.length) {y : Int} : y ∈ L.eraseIdx i ↔ y ∈ L ∧ y ≠ el L i := by
  have hp : (el L i :: L.eraseIdx i).Perm L := by rw [el_lt hi]; exact erase_perm hi
  have hn : (el L i :: L.eraseIdx i).Nodup := hp.nodup_iff.2 h
  rw [List.nodup_cons] at hn
  rw [← hp.mem_iff, List.mem_cons]
  constructor
  · intro hy
    exact ⟨Or.inr hy, fun e => hn.1 (e ▸ hy)⟩
  · rintro ⟨h1, h2⟩
    exact h1.resolve_left h2

theorem ordT_len (ts : List Int) : (ordT ts).length = ts.length := by simp [ordT]
theorem el_ordT {ts : List Int} {k : Nat} (h : k < ts.length) : el (ordT ts) k = el (leP ts k) (el ts k).toNat := by rw [ordT, el_map h]

theorem drop_el {xs : List Int} {k : Nat} (h : k < xs.length) : xs.drop k = el xs k :: xs.drop (k + 1) := by
  rw [List.drop_eq_getElem_cons h, el_lt h]
theorem leP_step {ts : List Int} (h : VT ts) {k : Nat} (hk : k < ts.length) : (el (ordT ts) k :: leP ts (k + 1)).Perm (leP ts k) := by
  have h1 := vt_nat h hk
  have h2 := leP_len h k (by omega)
  rw [el_ordT hk, leP, el_lt (by omega)]
  exact erase_perm _
theorem ordT_drop {ts : List Int} (h : VT ts) : ∀ m, m ≤ ts.length → ((ordT ts).drop (ts.length - m)).Perm (leP ts (ts.length - m)) := by
  intro m
  induction m with
  | zero =>
    intro _
    have h1 := leP_len h ts.length (Nat.le_refl _)
    have h2 : leP ts ts.length = [] := List.eq_nil_of_length_eq_zero (by omega)
    rw [Nat.sub_zero, h2, List.drop_eq_nil_of_le (by rw [ordT_len]; omega)]
  | succ m ih =>
    intro hm
    have hk : ts.length - (m + 1) < ts.length := by omega
    have e : ts.length - (m + 1) + 1 = ts.length - m := by omega
    rw [drop_el (by rw [ordT_len]; omega), e]
    have := leP_step h hk
    rw [e] at this
    exact ((ih (by omega)).cons _).trans this
theorem ordT_perm {ts : List Int} (h : VT ts) {k : Nat} (hk : k ≤ ts.length) : ((ordT ts).drop k).Perm (leP ts k) := by
  have := ordT_drop h (ts.length - k) (by omega)
  rwa [show ts.length - (ts.length - k) = k by omega] at this

/-- How many of the numbers behind place k are less: as the table has it. -/
theorem cnt_less (xs : List Int) (x : Int) (b : Nat) : ∀ t, b + t ≤ xs.length → cntP (fun j => decide (el xs (b + j) < x)) t = less ((xs.drop b).take t) x := by
  intro t
  induction t with
  | zero => intro _; simp [cntP, less]
  | succ t ih =>
    intro ht
    have e : (xs.drop b).take (t + 1) = (xs.drop b).take t ++ [el xs (b + t)] := by
      rw [take_el (by simp; omega)]
      congr 1
      simp [el]
    rw [cntP, ih (by omega), e, less, less, List.countP_append, List.countP_singleton]
    split <;> simp
theorem lb_less {xs : List Int} {k : Nat} (hk : k < xs.length) : lb xs k = less (xs.drop (k + 1)) (el xs k) := by
  rw [lb, lbP, cnt_less xs (el xs k) (k + 1) (xs.length - 1 - k) (by omega), List.take_of_length_le (by simp; omega)]

theorem table_ordT {ts : List Int} (h : VT ts) : table (ordT ts) = ts := by
  refine ext_el (by rw [table_len, ordT_len]) (fun k hk => ?_)
  rw [table_len, ordT_len] at hk
  have h1 := vt_nat h hk
  have h2 := leP_len h k (by omega)
  have hlt : (el ts k).toNat < (leP ts k).length := by omega
  rw [el_table (by rw [ordT_len]; exact hk), lb_less (by rw [ordT_len]; exact hk), less_perm (ordT_perm h (by omega)) _]
  have e1 := less_perm (leP_step h hk) (el (ordT ts) k)
  have e2 : less (el (ordT ts) k :: leP ts (k + 1)) (el (ordT ts) k) = less (leP ts (k + 1)) (el (ordT ts) k) := by
    unfold less
    rw [List.countP_cons]
    simp
  rw [e2] at e1
  rw [e1, el_ordT hk, less_at (leP_pw ts k) _ hlt]
  exact h1.1

theorem ordT_valid {ts : List Int} (h : VT ts) : Valid (ordT ts) := by
  have hp := ordT_perm h (Nat.zero_le _)
  rw [List.drop_zero] at hp
  have hl := ordT_len ts
  have hn : (ordT ts).Nodup := hp.nodup_iff.2 (pw_nodup (rise_pw _))
  have hm : ∀ j, j < (ordT ts).length → 0 ≤ el (ordT ts) j ∧ el (ordT ts) j < ts.length := fun j hj => rise_mem.1 (hp.mem_iff.1 (el_mem hj))
  refine ⟨by rw [hl]; exact h.len, fun j hj => (hm j hj).1, fun j hj => by rw [hl]; exact (hm j hj).2, fun i j hij hj e => ?_⟩
  rw [el_lt (by omega), el_lt hj] at e
  have := (List.nodup_iff_pairwise_ne.1 hn)
  rw [List.pairwise_iff_getElem] at this
  exact this i j (by omega) hj hij e

theorem table_vt {xs : List Int} (h : Valid xs) : VT (table xs) := by
  refine ⟨by rw [table_len]; exact h.len, fun j hj => ?_, fun j hj => ?_⟩
  · exact (table_bd xs j hj).1
  · rw [table_len] at hj ⊢
    rw [el_table hj]
    have := lbP_bd xs j (xs.length - 1 - j)
    unfold lb
    omega

theorem valid_perm {xs : List Int} (h : Valid xs) : xs.Perm (rise xs.length) := by
  refine (List.perm_ext_iff_of_nodup h.nodup (pw_nodup (rise_pw _))).2 (fun x => ?_)
  rw [rise_mem]
  constructor
  · intro hx; exact h.mem hx
  · rintro ⟨h0, h1⟩
    obtain ⟨j, hj, e⟩ := h.place (v := x.toNat) (by omega)
    have e2 : el xs j = x := by omega
    exact e2 ▸ el_mem hj

theorem leP_table {xs : List Int} (h : Valid xs) : ∀ k, k ≤ xs.length → (leP (table xs) k).Perm (xs.drop k) ∧ ∀ j, j < k → el (leP (table xs) j) (el (table xs) j).toNat = el xs j := by
  intro k
  induction k with
  | zero =>
    intro _
    refine ⟨?_, fun j hj => by omega⟩
    rw [leP, table_len, List.drop_zero]
    exact (valid_perm h).symm
  | succ k ih =>
    intro hk
    obtain ⟨hp, hj⟩ := ih (by omega)
    have hx : el xs k ∈ leP (table xs) k := hp.mem_iff.2 (by rw [drop_el (by omega)]; simp)
    have e : less (leP (table xs) k) (el xs k) = (el (table xs) k).toNat := by
      rw [less_perm hp, drop_el (by omega), el_table (by omega), lb_less (by omega)]
      unfold less
      rw [List.countP_cons]
      simp
    have hf := less_find (leP_pw (table xs) k) hx
    rw [e] at hf
    refine ⟨?_, fun j hjk => ?_⟩
    · rw [leP]
      have h1 : (el xs k :: (leP (table xs) k).eraseIdx (el (table xs) k).toNat).Perm (leP (table xs) k) := by
        have := erase_perm hf.1
        rwa [← el_lt hf.1, hf.2] at this
      have h2 := h1.trans hp
      rw [drop_el (xs := xs) (k := k) (by omega)] at h2
      exact (List.perm_cons _).1 h2
    · by_cases e2 : j = k
      · rw [e2]; exact hf.2
      · exact hj j (by omega)
theorem ordT_table {xs : List Int} (h : Valid xs) : ordT (table xs) = xs := by
  refine ext_el (by rw [ordT_len, table_len]) (fun k hk => ?_)
  rw [ordT_len, table_len] at hk
  rw [el_ordT (by rw [table_len]; exact hk)]
  exact (leP_table h xs.length (Nat.le_refl _)).2 k hk

end Go.Proofs.Ytjphaphnmclbcaa

/- A greater value put into an order, values taken out, and what values add to the major index. No condition. -/
namespace Go.Proofs.Ytjphaphnmclbcaa

theorem cntP_ext {p q : Nat → Bool} : ∀ k, (∀ j, j < k → p j = q j) → cntP p k = cntP q k := by
  intro k
  induction k with
  | zero => intro _; rfl
  | succ k ih => intro h; rw [cntP, cntP, h k (by omega), ih (fun j hj => h j (by omega))]

/-- The number v at place k. -/
def ins (xs : List Int) (v : Int) (k : Nat) : List Int := xs.take k ++ [v] ++ xs.drop k
def insT (xs : List Int) (k : Nat) : List Int := ins xs (xs.length : Int) k
theorem ins_len (xs : List Int) (v : Int) {k : Nat} (hk : k ≤ xs.length) : (ins xs v k).length = xs.length + 1 := by
  simp [ins]; omega
theorem insT_len (xs : List Int) {k : Nat} (hk : k ≤ xs.length) : (insT xs k).length = xs.length + 1 := ins_len xs _ hk
theorem el_ins (xs : List Int) (v : Int) {k : Nat} (hk : k ≤ xs.length) : el (ins xs v k) k = v := by
  have : (xs.take k).length = k := by simp; omega
  rw [ins, el, List.append_assoc, List.getD_eq_getElem?_getD, List.getElem?_append_right (by omega), this, Nat.sub_self]
  rfl
theorem ins_perm (xs : List Int) (v : Int) (k : Nat) : (ins xs v k).Perm (v :: xs) := by
  rw [ins, List.append_assoc, List.singleton_append]
  exact List.perm_middle.trans (by rw [List.take_append_drop])
theorem insT_valid {xs : List Int} (h : Valid xs) (hl : xs.length < 7) {k : Nat} (hk : k ≤ xs.length) : Valid (insT xs k) := by
  have hp := ins_perm xs (xs.length : Int) k
  have hm : ∀ j, j < (insT xs k).length → 0 ≤ el (insT xs k) j ∧ el (insT xs k) j < (insT xs k).length := fun j hj => by
    have h1 := hp.subset (el_mem hj)
    rw [insT_len xs hk]
    rcases List.mem_cons.1 h1 with h2 | h2
    · rw [show el (insT xs k) j = (xs.length : Int) from h2]; omega
    · have h3 := h.mem h2
      have h4 : el (insT xs k) j = el (ins xs (xs.length : Int) k) j := rfl
      omega
  refine ⟨by rw [insT_len xs hk]; omega, fun j hj => (hm j hj).1, fun j hj => (hm j hj).2, fun i j hij hj => ?_⟩
  have hn : (insT xs k).Nodup := (hp.nodup_iff).2 (List.nodup_cons.2 ⟨fun e => by have := h.mem e; omega, h.nodup⟩)
  rw [List.nodup_iff_pairwise_ne, List.pairwise_iff_getElem] at hn
  have := hn i j (by omega) hj hij
  rwa [← el_lt, ← el_lt] at this

/-- Without the value at place k. -/
def rm (xs : List Int) (k : Nat) : List Int := xs.take k ++ xs.drop (k + 1)
def dn (v y : Int) : Int := if v < y then y - 1 else y
def rmv (xs : List Int) (k : Nat) : List Int := (rm xs k).map (dn (el xs k))
theorem rm_len (xs : List Int) {k : Nat} (hk : k < xs.length) : (rm xs k).length = xs.length - 1 := by simp [rm]; omega
theorem rmv_len (xs : List Int) {k : Nat} (hk : k < xs.length) : (rmv xs k).length = xs.length - 1 := by rw [rmv, List.length_map, rm_len xs hk]
theorem rm_split (xs : List Int) {k : Nat} (hk : k < xs.length) : xs = xs.take k ++ el xs k :: xs.drop (k + 1) := by
  rw [← drop_cons hk, List.take_append_drop]
theorem rm_perm (xs : List Int) {k : Nat} (hk : k < xs.length) : (el xs k :: rm xs k).Perm xs := by
  conv => rhs; rw [rm_split xs hk]
  exact List.perm_middle.symm
theorem rm_mem {xs : List Int} (h : Valid xs) {k : Nat} (hk : k < xs.length) : (rm xs k).Nodup ∧ ∀ y ∈ rm xs k, 0 ≤ y ∧ y < xs.length ∧ y ≠ el xs k := by
  have hn := ((rm_perm xs hk).nodup_iff).2 h.nodup
  rw [List.nodup_cons] at hn
  refine ⟨hn.2, fun y hy => ?_⟩
  have h1 := h.mem ((rm_perm xs hk).subset (List.mem_cons_of_mem _ hy))
  exact ⟨h1.1, h1.2, fun e => hn.1 (e ▸ hy)⟩
theorem el_val {xs : List Int} (h : Valid xs) {k : Nat} (hk : k < xs.length) : 0 ≤ el xs k ∧ el xs k < xs.length := ⟨h.lo k hk, h.hi k hk⟩
theorem rmv_valid {xs : List Int} (h : Valid xs) {k : Nat} (hk : k < xs.length) : Valid (rmv xs k) := by
  obtain ⟨hn, hm⟩ := rm_mem h hk
  have hv := el_val h hk
  have hl := h.len
  have he : ∀ j, j < (rmv xs k).length → el (rmv xs k) j = dn (el xs k) (el (rm xs k) j) ∧ el (rm xs k) j ∈ rm xs k := fun j hj => by
    have hj2 : j < (rm xs k).length := by rw [rmv, List.length_map] at hj; exact hj
    refine ⟨?_, el_mem hj2⟩
    rw [el_lt hj, el_lt hj2]; simp [rmv]
  refine ⟨by rw [rmv_len xs hk]; omega, fun j hj => ?_, fun j hj => ?_, fun i j hij hj => ?_⟩
  · obtain ⟨e, hy⟩ := he j hj
    have := hm _ hy
    rw [e, dn]; split <;> omega
  · obtain ⟨e, hy⟩ := he j hj
    have := hm _ hy
    rw [e, dn, rmv_len xs hk]; split <;> omega
  · obtain ⟨e, hy⟩ := he j hj
    obtain ⟨e2, hy2⟩ := he i (by omega)
    have h1 := hm _ hy
    have h2 := hm _ hy2
    have hj2 : j < (rm xs k).length := by rw [rmv, List.length_map] at hj; exact hj
    rw [List.nodup_iff_pairwise_ne, List.pairwise_iff_getElem] at hn
    have h3 := hn i j (by omega) hj2 hij
    rw [← el_lt (by omega), ← el_lt hj2] at h3
    rw [e, e2, dn, dn]
    split <;> split <;> omega

/-- For each number how many lesser ones, or equal ones ahead, there are. -/
def rkF (zs : List Int) (i k : Nat) : Bool := decide (el zs k < el zs i) || (decide (el zs k = el zs i) && decide (k < i))
def rkA (zs : List Int) : List Int := (List.range zs.length).map fun i => cntP (rkF zs i) zs.length
theorem cnt_rise (n : Nat) (y : Nat) (hy : y ≤ n) : (rise n).countP (fun z => decide (z < (y : Int))) = y := by
  induction n with
  | zero => obtain rfl : y = 0 := by omega
            rfl
  | succ n ih =>
    rw [rise_succ, List.countP_append, List.countP_singleton]
    by_cases e : y = n + 1
    · subst e
      rw [if_pos (by simp; omega)]
      have : (rise n).countP (fun z => decide (z < ((n + 1 : Nat) : Int))) = (rise n).length := by
        rw [List.countP_eq_length]
        intro z hz
        simp only [rise, List.mem_map, List.mem_range] at hz
        obtain ⟨a, ha, rfl⟩ := hz
        simp; omega
      rw [this, rise_len]
    · rw [ih (by omega), if_neg (by simp; omega)]; omega
theorem valid_cnt {xs : List Int} (h : Valid xs) {y : Nat} (hy : y ≤ xs.length) : xs.countP (fun z => decide (z < (y : Int))) = y := by
  rw [(valid_perm h).countP_eq, cnt_rise _ _ hy]
theorem rkA_rm {xs : List Int} (h : Valid xs) {k : Nat} (hk : k < xs.length) : rkA (rm xs k) = rmv xs k := by
  obtain ⟨hn, hm⟩ := rm_mem h hk
  refine ext_el (by rw [rkA, map_range_len, rmv, List.length_map]) (fun j hj => ?_)
  rw [rkA, map_range_len] at hj
  have hy := hm _ (el_mem hj)
  have e1 : el (rmv xs k) j = dn (el xs k) (el (rm xs k) j) := by
    rw [el_lt (by rw [rmv, List.length_map]; exact hj), el_lt hj]; simp [rmv]
  rw [rkA, el_map hj, e1]
  have e2 : cntP (rkF (rm xs k) j) (rm xs k).length = cntP (fun t => (fun z => decide (z < el (rm xs k) j)) (el (rm xs k) t)) (rm xs k).length := by
    refine cntP_ext _ (fun t ht => ?_)
    rw [rkF]
    by_cases e : t < j
    · rw [List.nodup_iff_pairwise_ne, List.pairwise_iff_getElem] at hn
      have h3 := hn t j (by omega) hj e
      rw [← el_lt (by omega), ← el_lt hj] at h3
      simp [h3]
    · simp [e]
  rw [e2, cntP_countP (rm xs k) (fun z => decide (z < el (rm xs k) j))]
  obtain ⟨y, hy2⟩ := Int.eq_ofNat_of_zero_le hy.1
  have hv := el_val h hk
  have e3 := (rm_perm xs hk).countP_eq (fun z => decide (z < (y : Int)))
  rw [valid_cnt h (by omega), List.countP_cons] at e3
  rw [hy2, dn]
  by_cases e4 : el xs k < (y : Int)
  · rw [if_pos (by simpa using e4)] at e3
    rw [if_pos e4]; omega
  · rw [if_neg (by simpa using e4)] at e3
    rw [if_neg e4]; omega

/-- The numbers below x. -/
def blw (xs : List Int) (x : Int) : List Int := xs.filter fun y => decide (y < x)
theorem blw_len (xs : List Int) (x : Int) : (blw xs x).length ≤ xs.length := List.length_filter_le _ _
theorem blw_take {xs : List Int} {k : Nat} (hk : k < xs.length) (x : Int) : blw (xs.take (k + 1)) x = blw (xs.take k) x ++ if el xs k < x then [el xs k] else [] := by
  rw [take_el hk, blw, List.filter_append, List.filter_cons, List.filter_nil]
  by_cases e : el xs k < x
  · simp [e, blw]
  · simp [e, blw]
theorem blw_all {xs : List Int} {x : Int} (h : ∀ y ∈ xs, y < x) : blw xs x = xs := by
  rw [blw, List.filter_eq_self]; intro y hy; simpa using h y hy
theorem blw_length {xs : List Int} (h : Valid xs) {x : Nat} (hx : x ≤ xs.length) : (blw xs x).length = x := by
  rw [blw, ← List.countP_eq_length_filter, valid_cnt h hx]
theorem blw_valid {xs : List Int} (h : Valid xs) {x : Nat} (hx : x ≤ xs.length) : Valid (blw xs x) := by
  have hl := blw_length h hx
  have hm : ∀ y ∈ blw xs (x : Int), 0 ≤ y ∧ y < x := fun y hy => by
    rw [blw, List.mem_filter] at hy
    have := h.mem hy.1
    have h2 := hy.2
    simp at h2; omega
  refine ⟨by rw [hl]; have := h.len; omega, fun j hj => (hm _ (el_mem hj)).1, fun j hj => by rw [hl]; exact (hm _ (el_mem hj)).2, fun i j hij hj => ?_⟩
  have hn : (blw xs (x : Int)).Nodup := h.nodup.filter _
  rw [List.nodup_iff_pairwise_ne, List.pairwise_iff_getElem] at hn
  have := hn i j (by omega) hj hij
  rwa [← el_lt, ← el_lt] at this
/-- What x adds: blw one more is the greater value put in somewhere. -/
theorem blw_ins {xs : List Int} (h : Valid xs) {x : Nat} (hx : x < xs.length) : ∃ k, k ≤ x ∧ blw xs ((x + 1 : Nat) : Int) = insT (blw xs x) k := by
  obtain ⟨p, hp, ep, _⟩ := inv_at h hx
  have hl := blw_length h (show x ≤ xs.length by omega)
  have hn := h.nodup
  rw [rm_split xs hp, ep] at hn
  have hm : ∀ y ∈ rm xs p, y ≠ (x : Int) := fun y hy => by have := ((rm_mem h hp).2 y hy).2.2; rwa [ep] at this
  have key : ∀ L : List Int, (∀ y ∈ L, y ≠ (x : Int)) → blw L ((x + 1 : Nat) : Int) = blw L x := fun L hL => by
    refine List.filter_congr (fun y hy => ?_)
    have := hL y hy
    rw [decide_eq_decide]; omega
  have h1 := key (xs.take p) (fun y hy => hm y (by rw [rm]; simp [hy]))
  have h2 := key (xs.drop (p + 1)) (fun y hy => hm y (by rw [rm]; simp [hy]))
  have e1 : blw xs (x : Int) = blw (xs.take p) x ++ blw (xs.drop (p + 1)) x := by
    conv => lhs; rw [rm_split xs hp, ep]
    rw [blw, List.filter_append, List.filter_cons, if_neg (by simp)]; rfl
  have e2 : blw xs ((x + 1 : Nat) : Int) = blw (xs.take p) x ++ [(x : Int)] ++ blw (xs.drop (p + 1)) x := by
    conv => lhs; rw [rm_split xs hp, ep]
    rw [← h1, ← h2, blw, List.filter_append, List.filter_cons, if_pos (by simp; omega)]; simp [blw]
  refine ⟨(blw (xs.take p) (x : Int)).length, ?_, ?_⟩
  · rw [e1, List.length_append] at hl; omega
  · rw [insT, hl, ins, e2, e1]
    congr 1
    · rw [List.take_left]
    · rw [List.drop_left]
theorem blw_insT {xs : List Int} {k x : Nat} (hx : x ≤ xs.length) : blw (insT xs k) x = blw xs x := by
  rw [insT, ins, blw, List.filter_append, List.filter_append, List.filter_cons, if_neg (by simp; omega), List.filter_nil, List.append_nil, ← List.filter_append, List.take_append_drop]; rfl

/-- What each value adds to the major index. -/
def mtv (xs : List Int) (x : Nat) : Int := major (blw xs ((x + 1 : Nat) : Int)) - major (blw xs x)
def mtab (xs : List Int) : List Int := (List.range xs.length).map (mtv xs)
theorem mtab_len (xs : List Int) : (mtab xs).length = xs.length := map_range_len _
theorem major_nil : major [] = 0 := rfl
theorem mtab_sum (xs : List Int) : ∀ k, k ≤ xs.length → sumTo (mtab xs) k = major (blw xs k) - major (blw xs 0) := by
  intro k
  induction k with
  | zero => intro _; simp [sumTo]
  | succ k ih =>
    intro hk
    rw [sumTo, ih (by omega), mtab, el_map (by omega), mtv]; omega
theorem mtab_total {xs : List Int} (h : Valid xs) : sumL (mtab xs) = major xs := by
  have e0 := blw_length h (Nat.zero_le _)
  rw [sumL, mtab_len, mtab_sum xs _ (Nat.le_refl _), show blw xs 0 = [] from List.eq_nil_of_length_eq_zero e0, blw_all (fun y hy => (h.mem hy).2), major_nil]; omega

end Go.Proofs.Ytjphaphnmclbcaa

/- What the program answers when asked whether numbers are an order. No condition but that the list's cells can be read. -/
namespace Go.Proofs.Ytjphaphnmclbcaa
open Go.RowKit

theorem infoP : ∃ i, Try.prog.info? 3 = some i := by
  have h : (Try.prog.info? 3).isSome = true := by kernel_rfl
  exact Option.isSome_iff_exists.1 h
theorem cellsI : Try.prog.cellsOf 3 = 1 := by kernel_rfl

theorem counted {xs fs os : List Int} (hn : xs.length ≤ 7) (hr : ∀ j, j < xs.length → 0 ≤ el xs j ∧ el xs j < xs.length) (hf : fs.length = 7) (ho : os.length = 7)
    (hfc : ∀ v, v < 7 → el fs v = (xs.count (v : Int) : Nat)) (hoc : ∀ v, v < 7 → el os v = if v < xs.length then 1 else 0) : decide (fs = os) = decide (Valid xs) := by
  rw [decide_eq_decide, ← count_valid hn hr]
  constructor
  · intro e v hv
    have h1 := hfc v hv
    have h2 := hoc v hv
    rw [e, h2] at h1
    split at h1 <;> split <;> omega
  · intro h
    refine ext_el (by omega) (fun v hv => ?_)
    rw [hfc v (by omega), hoc v (by omega), h v (by omega)]
    split <;> rfl

theorem zeros : ∀ v, v < 7 → el [0, 0, 0, 0, 0, 0, 0] v = 0 := by decide

set_option maxHeartbeats 1000000 in
theorem validI_any (ao : Option Addr) (n cap : Nat) (xs : List Int) (w : World) (h : Sl w ao n cap xs) :
    Calls Try.prog 59 #[.slice ao n cap] w (Says w (.bool (decide (Valid xs)))) := by
  have hbig := h.big
  have hlen := hid h.len
  by_cases h7 : n ≤ 7
  · go_enter Try.func59, Try.ntmps59
    go_wp2
    go_loopw [12] (fun i wr => ∃ (k : Nat) (fs os : List Int), k ≤ n ∧ i = .int .i64 k ∧ Below w.heap.size w wr ∧ Arr wr w.heap.size 72 fs ∧ Arr wr (w.heap.size + 1) 72 os ∧ fs.length = 7 ∧ os.length = 7 ∧
        Hid (∀ j, j < k → 0 ≤ el xs j ∧ el xs j < n) ∧ Hid (∀ v, v < 7 → el fs v = ((xs.take k).count (v : Int) : Nat)) ∧ Hid (∀ v, v < 7 → el os v = if v < k then 1 else 0))
      (fun i _ => n - (intOf i).toNat)
    case atStart =>
      refine ⟨0, [0, 0, 0, 0, 0, 0, 0], [0, 0, 0, 0, 0, 0, 0], Nat.zero_le _, rfl, by go_grown, ?_, ?_, rfl, rfl, fun j hj => by omega, fun v hv => ?_, fun v hv => ?_⟩
      · exact (Arr.made w _ [0, 0, 0, 0, 0, 0, 0]).alloc _
      · have := Arr.made (w.alloc (.cells ([0, 0, 0, 0, 0, 0, 0].map (Value.int .i64)).toArray 72)) 72 [0, 0, 0, 0, 0, 0, 0]
        rwa [World.size_alloc] at this
      · rw [zeros v hv]; simp
      · rw [zeros v hv]; simp
    case round =>
      obtain ⟨k, fs, os, hk, rfl, hbr, hF, hO, hf7, ho7, hr, hfc, hoc⟩ := hrel
      have Hf7 := hid hf7
      have Ho7 := hid ho7
      by_cases hlt : k < n
      · obtain ⟨b, off, rfl, hblt, hc⟩ := h.row (by omega)
        have hcell := (hbr.cell (p := ⟨b, off + k, none⟩) hblt).trans (hc k hlt)
        clear hc
        by_cases hin : 0 ≤ el xs k ∧ el xs k < n
        · obtain ⟨v, hv⟩ := Int.eq_ofNat_of_zero_le hin.1
          have hvn : v < n := by omega
          rw [hv] at hcell
          have Hv := hid hv
          have hfb : el fs v ≤ 7 ∧ 0 ≤ el fs v := by
            rw [hfc.out v (by omega)]
            have := List.count_le_length (a := (v : Int)) (l := xs.take k)
            rw [List.length_take] at this
            omega
          have hcF := hF.cell (j := v) (by omega)
          have hfF := hF.frozen v
          have hcO := hO.cell (j := k) (by omega)
          have hfO := hO.frozen k
          have hcO' : (wr.setCell ⟨w.heap.size, v, none⟩ (.int .i64 (el fs v + 1))).cell? ⟨w.heap.size + 1, k, none⟩ = some (.int .i64 (el os k)) := (hO.other (by simp) _).cell (by omega)
          clear hf7 ho7 hv hin
          go_wp2
          go_roundw
          case rel =>
            refine ⟨k + 1, fs.set v (el fs v + 1), os.set k 1, by omega, by go_num, ?_, ?_, ?_, by simp [Hf7.out], by simp [Ho7.out], ?_, ?_, ?_⟩
            · exact (hbr.setCell (Nat.le_refl _) _).setCell (Nat.le_succ _) _
            · exact (hF.set v _).other (by simp) _
            · exact (hO.other (by simp) _).set k 1
            · exact upto_step hr.out ⟨by rw [Hv.out]; omega, by rw [Hv.out]; omega⟩
            · intro t ht
              rw [count_take (by rw [hlen.out]; exact hlt), Hv.out]
              have := hfc.out t ht
              by_cases e : v = t
              · subst e
                rw [el_set_same (by rw [Hf7.out]; exact ht), this]; simp
              · rw [el_set_ne e, this, if_neg (by omega)]; simp
            · intro t ht
              have := hoc.out t ht
              by_cases e : k = t
              · subst e
                rw [el_set_same (by rw [Ho7.out]; exact ht), if_pos (by omega)]
              · rw [el_set_ne e, this]
                split <;> split <;> omega
          case measure => simp [intOf]; omega
        · have hno : Hid (¬ Valid xs) := fun v => hin ⟨v.lo k (by rw [hlen.out]; exact hlt), by have := v.hi k (by rw [hlen.out]; exact hlt); rwa [hlen.out] at this⟩
          have Hin := hid hin
          clear hin
          by_cases h0 : el xs k < 0
          · go_wp2
            go_ret
            exact says_false hno.out hbr
          · have h1 : (n : Int) ≤ el xs k := by have := Hin.out; omega
            go_wp2
            go_ret
            exact says_false hno.out hbr
      · obtain rfl : k = n := by omega
        have hsF : (Try.prog.info? 72).map (·.size) = some (fs.map (Value.int .i64)).toArray.size := by
          have : (Try.prog.info? 72).map (·.size) = some 7 := by kernel_rfl
          rw [this]; simp [hf7]
        have hsO : (Try.prog.info? 72).map (·.size) = some (os.map (Value.int .i64)).toArray.size := by rw [hsF]; simp [hf7, ho7]
        obtain ⟨ip, hip⟩ := infoP
        have hE := fun w => run_eql_arr (P := Try.prog) w 72 3 7 fs os Try.underlying72 hip cellsI Try.underlying3 hf7 ho7
        clear hf7 ho7
        go_wp2_with (first
          | (refine wpList_load_row rfl 72 (.tmp 3) rfl w.heap.size rfl 72 _ (0, 0) _ hF Try.underlying72 rfl hsF ?_)
          | (refine wpList_load_row rfl 72 (.tmp 4) rfl (w.heap.size + 1) rfl 72 _ (0, 0) _ hO Try.underlying72 rfl hsO ?_))
        go_ret
        refine says_bool (counted (by rw [hlen.out]; exact h7) (fun j hj => ?_) Hf7.out Ho7.out (fun v hv => ?_) (fun v hv => ?_)) hbr
        · rw [hlen.out] at hj ⊢
          exact hr.out j hj
        · have := hfc.out v hv
          rwa [List.take_of_length_le (Nat.le_of_eq hlen.out)] at this
        · rw [hlen.out]; exact hoc.out v hv
  · go_enter Try.func59, Try.ntmps59
    go_wp2
    go_ret
    exact says_false (fun v => h7 (by have := v.len; rw [hlen.out] at this; exact this)) (Below.refl _ _)
end Go.Proofs.Ytjphaphnmclbcaa

/- The program's functions of one order that make a list: InverseOrder, TurnOrder, OppositeOrder, RisingOrder. Condition: the list's cells can be read. -/
namespace Go.Proofs.Ytjphaphnmclbcaa
open Go.RowKit
end Go.Proofs.Ytjphaphnmclbcaa

/- What the program and its model answer when asked whether numbers are an order: both say so exactly if they are. No condition but that the list's cells can be read. -/
namespace Go.Proofs.Ytjphaphnmclbcaa
open Go.RowKit

set_option maxHeartbeats 1000000 in
theorem validS_any (ao : Option Addr) (n cap : Nat) (xs : List Int) (w : World) (h : Sl w ao n cap xs) :
    Calls Try.prog 64 #[.slice ao n cap] w (Says w (.bool (decide (Valid xs)))) := by
  have hbig := h.big
  have hlen := hid h.len
  go_enter Try.func64, Try.ntmps64
  go_wp2
  go_loopw [3] (fun i wr => ∃ (k : Nat), k ≤ n ∧ i = .int .i64 k ∧ Below w.heap.size w wr ∧ Hid (∀ j, j < k → 0 ≤ el xs j ∧ el xs j < n ∧ ∀ t, t < j → el xs t ≠ el xs j))
    (fun i _ => n - (intOf i).toNat)
  case atStart => exact ⟨0, Nat.zero_le _, rfl, Below.refl _ _, fun j hj => by omega⟩
  case round =>
    obtain ⟨k, hk, rfl, hbr, hm⟩ := hrel
    by_cases hlt : k < n
    · obtain ⟨b, off, rfl, hblt, hc⟩ := h.row (by omega)
      have hcell := (hbr.cell (p := ⟨b, off + k, none⟩) hblt).trans (hc k hlt)
      by_cases hr : 0 ≤ el xs k ∧ el xs k ≤ (n : Int) - 1
      · obtain ⟨hr0, hr1⟩ := hr
        have hcc := hid hc
        clear hc
        go_wp2
        obtain ⟨wo, hwo⟩ : ∃ wo : World, wo = wr := ⟨_, rfl⟩
        subst hwo
        go_loopw [4] (fun i wr => ∃ (j : Nat), j ≤ k ∧ i = .int .i64 j ∧ Below w.heap.size w wr ∧ Hid (∀ t, t < j → el xs t ≠ el xs k))
          (fun i _ => k - (intOf i).toNat)
        case atStart => exact ⟨0, Nat.zero_le _, rfl, hbr, fun j hj => by omega⟩
        case round =>
          obtain ⟨j, hj, rfl, hbr2, hm2⟩ := hrel
          have hcellk := (hbr2.cell (p := ⟨b, off + k, none⟩) hblt).trans (hcc.out k hlt)
          by_cases hjlt : j < k
          · have hcell2 := (hbr2.cell (p := ⟨b, off + j, none⟩) hblt).trans (hcc.out j (by omega))
            have hi1 : (k : Int) < n := by omega
            have hi2 : (j : Int) < n := by omega
            go_wp2
            go_quiet (fail)
            go_wp2
            · have he : (el xs j == el xs k) = true := by assumption
              go_ret
              exact says_false (fun v => v.ne j k hjlt (by rw [hlen.out]; exact hlt) (not_ne he)) (drewN_below hbr2 _)
            · have he : (el xs j == el xs k) = false := by assumption
              go_roundw
              case rel => exact ⟨j + 1, by omega, by go_num, drewN_below hbr2 _, upto_step hm2.out (is_ne he)⟩
              case measure => simp [intOf]; omega
          · obtain rfl : j = k := by omega
            go_wp2
            go_roundw
            case rel => exact ⟨j + 1, by omega, by go_num, hbr2, upto_step hm.out ⟨hr0, by omega, hm2.out⟩⟩
            case measure => simp [intOf]; omega
      · have hno : Hid (¬ Valid xs) := fun v => hr ⟨v.lo k (by rw [hlen.out]; exact hlt), by have := v.hi k (by rw [hlen.out]; exact hlt); rw [hlen.out] at this; omega⟩
        have hnr := hid hr
        clear hc
        by_cases hr0 : 0 ≤ el xs k
        · have hr1 : ¬ el xs k ≤ (n : Int) - 1 := fun e => hnr.out ⟨hr0, e⟩
          clear hr
          go_wp2
          go_ret
          exact says_false hno.out hbr
        · clear hr
          go_wp2
          go_ret
          exact says_false hno.out hbr
    · obtain rfl : k = n := by omega
      go_wp2
      go_ret
      refine says_bool (decide_eq_decide.2 ⟨fun h7 => ⟨by rw [hlen.out]; omega, fun j hj => (hm.out j (by rw [hlen.out] at hj; exact hj)).1, fun j hj => ?_, fun i j hij hj => (hm.out j (by rw [hlen.out] at hj; exact hj)).2.2 i hij⟩, fun v => ?_⟩) hbr
      · rw [hlen.out] at hj ⊢
        exact (hm.out j hj).2.1
      · have := v.len
        rw [hlen.out] at this
        omega
end Go.Proofs.Ytjphaphnmclbcaa

/- The model's functions of one order that make a list: rising, RisingOrder, inverse, InverseOrder, turned, TurnOrder, OppositeOrder. Condition: the list's cells can be read. -/
namespace Go.Proofs.Ytjphaphnmclbcaa
open Go.RowKit

theorem own_lit (w : World) : Own (w.alloc (.cells #[] 3)) w.heap.size (.slice (some ⟨w.heap.size, 0, none⟩) 0 0) [] :=
  World.ownsRow_lit w #[] 0 (Nat.le_refl _) (Nat.zero_le _) rfl

theorem own_lit_at {w : World} {B : Nat} (hB : B ≤ w.heap.size) : Own (w.alloc (.cells #[] 3)) B (.slice (some ⟨w.heap.size, 0, none⟩) 0 0) [] := (own_lit w).mono hB

end Go.Proofs.Ytjphaphnmclbcaa

/- Tables and their sums, in the program and in its model: lesserBehind, sum, TableOf, InversionsOf, SignOf. Condition: the list's cells can be read; of sum: few small numbers. -/
namespace Go.Proofs.Ytjphaphnmclbcaa
open Go.RowKit

set_option maxHeartbeats 1000000 in
theorem lesser_any (ao : Option Addr) (n cap : Nat) (xs : List Int) (w : World) (h : Sl w ao n cap xs) (h7 : n ≤ 1000) :
    Calls Try.prog 99 #[.slice ao n cap] w (Made w (table xs)) := by
  have hbig := h.big
  have hlen := hid h.len
  go_enter Try.func99, Try.ntmps99
  go_wp2
  go_loopw [3, 4] (fun v i wr => ∃ (k : Nat) (ao' : Option Addr) (cap' : Nat), k ≤ n ∧ v = .slice ao' k cap' ∧ i = .int .i64 k ∧ Below w.heap.size w wr ∧ Own wr w.heap.size (.slice ao' k cap') ((List.range k).map (lb xs)))
    (fun v _ _ => n - lenOf v)
  case atStart => exact ⟨0, _, _, Nat.zero_le _, rfl, rfl, (Below.refl _ _).alloc (Nat.le_refl _) _, own_lit w⟩
  case round =>
    obtain ⟨k, ao', cap', hk, rfl, rfl, hbr, ho⟩ := hrel
    by_cases hlt : k < n
    · obtain ⟨b, off, rfl, hblt, hc⟩ := h.row (by omega)
      have hl : ((List.range k).map (lb xs)).length ≤ 2000000 := by rw [map_range_len]; omega
      have hcc := hid hc
      clear hc
      go_wp2
      obtain ⟨wo, hwo⟩ : ∃ wo : World, wo = wr := ⟨_, rfl⟩
      subst hwo
      go_loopw [5, 6] (fun c j wr => ∃ (t : Nat), t ≤ n - 1 - k ∧ c = .int .i64 (lbP xs k t) ∧ j = .int .i64 ((k : Int) + 1 + t) ∧ Below w.heap.size w wr ∧ Own wr w.heap.size (.slice ao' k cap') ((List.range k).map (lb xs)))
        (fun _ j _ => n - (intOf j).toNat)
      case atStart => exact ⟨0, Nat.zero_le _, rfl, by simp, hbr, ho⟩
      case round =>
        obtain ⟨t, ht, rfl, rfl, hbr, ho⟩ := hrel
        have hbd := lbP_bd xs k t
        have hsz := hbr.size
        by_cases htl : t < n - 1 - k
        · have hcell1 := (hbr.cell (p := ⟨b, off + (k + 1 + t), none⟩) hblt).trans (hcc.out (k + 1 + t) (by omega))
          have hcell2 := (hbr.cell (p := ⟨b, off + k, none⟩) hblt).trans (hcc.out k hlt)
          have hi1 : (k : Int) + 1 + t < n := by omega
          go_wp2
          go_quiet (fail)
          go_wp2
          · have he : el xs (k + 1 + t) < el xs k := by assumption
            go_roundw
            case rel => exact ⟨t + 1, by omega, by rw [lbP_yes he], by go_num, drewN_below hbr _, ho⟩
            case measure => simp [intOf]; omega
          · have he : el xs k ≤ el xs (k + 1 + t) := by assumption
            go_roundw
            case rel => exact ⟨t + 1, by omega, by rw [lbP_no he], by go_num, drewN_below hbr _, ho⟩
            case measure => simp [intOf]; omega
        · obtain rfl : t = n - 1 - k := by omega
          have hi1 : ¬ (k : Int) + 1 + (n - 1 - k : Nat) < n := by omega
          go_wp2_with (at_builtin; refine app_int _ _ rfl _ _ rfl w.heap.size _ _ rfl ho rfl hl hsz ?_)
          intro u' w' ho' hg'
          have hb' := below_app hbr ho hg'
          have e : lbP xs k (n - 1 - k) = lb xs k := by rw [lb, hlen.out]
          rw [e] at ho'
          obtain ⟨ao', cap', rfl, hs'⟩ := ho'.sl
          rw [← map_range_succ (lb xs), map_range_len] at *
          clear e hbd
          go_wp2
          go_roundw
          case rel => exact ⟨k + 1, _, _, by omega, rfl, by go_num, hb', ho'⟩
          case measure => simp [lenOf]; omega
    · obtain rfl : k = n := by omega
      go_wp2
      go_ret
      refine ⟨_, rfl, ?_, hbr⟩
      rw [table, hlen.out]
      exact ho

set_option maxHeartbeats 1000000 in
theorem sum_any (ao : Option Addr) (n cap : Nat) (xs : List Int) (w : World) (h : Sl w ao n cap xs) (h7 : n ≤ 1000) (hs : Hid (∀ j, j < xs.length → 0 ≤ el xs j ∧ el xs j ≤ (1000 : Nat))) :
    Calls Try.prog 81 #[.slice ao n cap] w (Says w (.int .i64 (sumL xs))) := by
  have hbig := h.big
  have hlen := hid h.len
  go_enter Try.func81, Try.ntmps81
  go_wp2
  go_loopw [3, 4] (fun v i wr => ∃ (k : Nat), k ≤ n ∧ v = .int .i64 (sumTo xs k) ∧ i = .int .i64 k ∧ Below w.heap.size w wr)
    (fun _ i _ => n - (intOf i).toNat)
  case atStart => exact ⟨0, Nat.zero_le _, rfl, rfl, Below.refl _ _⟩
  case round =>
    obtain ⟨k, hk, rfl, rfl, hbr⟩ := hrel
    have hbd := sumTo_bd hs.out k (by rw [hlen.out]; exact hk)
    have hb2 : sumTo xs k ≤ 1000000 := Int.le_trans hbd.2 (by have : (k : Int) * (1000 : Nat) ≤ 1000 * (1000 : Nat) := Int.mul_le_mul_of_nonneg_right (by omega) (by omega); omega)
    have hb1 := hbd.1
    clear hbd
    by_cases hlt : k < n
    · obtain ⟨b, off, rfl, hblt, hc⟩ := h.row (by omega)
      have hcell := (hbr.cell (p := ⟨b, off + k, none⟩) hblt).trans (hc k hlt)
      have he := hs.out k (by rw [hlen.out]; exact hlt)
      have he0 := he.1
      have he1 := he.2
      clear hc he
      go_wp2
      go_roundw
      case rel => exact ⟨k + 1, by omega, by rw [sumTo], by go_num, hbr⟩
      case measure => simp [intOf]; omega
    · obtain rfl : k = n := by omega
      go_wp2
      go_ret
      exact says_int (by rw [sumL, hlen.out]) hbr

set_option maxHeartbeats 1000000 in
theorem tableI_any (ao : Option Addr) (n cap : Nat) (xs : List Int) (w : World) (h : Sl w ao n cap xs) :
    Calls Try.prog 70 #[.slice ao n cap] w (Made w (onV xs (table xs))) := by
  have hbig := h.big
  have hlen := hid h.len
  by_cases hv : Valid xs
  · have h7 : n ≤ 7 := by have := hv.len; rw [hlen.out] at this; exact this
    have Hv := hid hv
    go_enter Try.func70, Try.ntmps70
    go_wp2_with fail
    refine (validI_any _ _ _ xs _ h).mono ?_
    rintro e w1 ⟨rfl, hb1⟩
    have hsz := hb1.size
    go_wp2_with (at_make; refine make_ints _ rfl _ _ rfl _ _ n rfl rfl rfl rfl (by omega) ?_)
    intro w2 ho2 hb2
    clear hv
    have hb3 := hb1.trans (hb2.mono hb1.size)
    go_wp2
    go_loopw [16] (fun i wr => ∃ (k : Nat) (zs : List Int), k ≤ n ∧ i = .int .i64 k ∧ Below w.heap.size w wr ∧ OwS wr w1.heap.size w1.heap.size n n zs ∧ Hid (∀ j, j < k → el zs j = lb xs j) ∧ Hid (∀ j, k ≤ j → j < n → el zs j = 0))
      (fun i _ => n - (intOf i).toNat)
    case atStart => exact ⟨0, _, Nat.zero_le _, rfl, hb3, ho2, fun j hj => by omega, fun j _ hj => by simp [el, hj]⟩
    case round =>
      obtain ⟨k, zs, hk, rfl, hbr, hr, hz1, hz2⟩ := hrel
      by_cases hlt : k < n
      · obtain ⟨b, off, rfl, hblt, hc⟩ := h.row (by omega)
        have hcell := (hbr.cell (p := ⟨b, off + k, none⟩) hblt).trans (hc k hlt)
        by_cases hcap : cap = k + 1
        · have hn1 : n = k + 1 := by have := h.le; omega
          have e : el zs k = lb xs k := by rw [hz2.out k (Nat.le_refl _) hlt, lb, hlen.out, hn1, show k + 1 - 1 - k = 0 by omega, lbP_zero]
          have He := hid e
          have Hn := hid hn1
          have hcap2 : (cap : Int) = k + 1 := by omega
          have hz0 : n - (k + 1) = 0 := by omega
          clear e hn1
          go_wp2
          go_rounds 1
          go_roundw
          case rel => exact ⟨k + 1, zs, by omega, by go_num, hbr, hr, upto_step hz1.out He.out, fun j hj hjn => hz2.out j (by omega) hjn⟩
          case measure => simp [intOf]; omega
        · have hcap2 : ¬ (cap : Int) = k + 1 := by omega
          have hcc := hid hc
          clear hc
          have hlk := hid (hz1.out k)
          go_wp2
          obtain ⟨wo, hwo⟩ : ∃ wo : World, wo = wr := ⟨_, rfl⟩
          subst hwo
          go_loopw [26] (fun j wr => ∃ (t : Nat) (zs : List Int), t ≤ n - 1 - k ∧ j = .int .i64 t ∧ Below w.heap.size w wr ∧ OwS wr w1.heap.size w1.heap.size n n zs ∧ Hid (∀ j, j < k → el zs j = lb xs j) ∧ Hid (∀ j, k < j → j < n → el zs j = 0) ∧ el zs k = lbP xs k t)
            (fun j _ => n - 1 - k - (intOf j).toNat)
          case atStart => exact ⟨0, zs, Nat.zero_le _, rfl, hbr, hr, hz1, fun j hj hjn => hz2.out j (by omega) hjn, hz2.out k (Nat.le_refl _) hlt⟩
          case round =>
            obtain ⟨t, zs, ht, rfl, hbr, hr, hz1, hz2, hzk⟩ := hrel
            have hbd := lbP_bd xs k t
            have hzl := hid hr.len
            by_cases htl : t < n - 1 - k
            · have hcell1 : wr.cell? ⟨b, off + (k + 1) + t, none⟩ = some (.int .i64 (el xs (k + 1 + t))) := (hbr.cell (p := ⟨b, off + (k + 1) + t, none⟩) hblt).trans (by have := hcc.out (k + 1 + t) (by omega); rw [← this, Nat.add_assoc off])
              have hfr := hr.frozen k
              have hcur := hr.cell hlt
              rw [hzk] at hcur
              have Hzk := hid hzk
              clear hzk
              go_wp2
              · have he : el xs (k + 1 + t) < el xs k := by assumption
                go_roundw
                case rel =>
                  refine ⟨t + 1, zs.set k (lbP xs k t + 1), by omega, by go_num, hbr.setCell hsz _, hr.set _ _, fun j hj => ?_, fun j hj hjn => ?_, ?_⟩
                  · rw [el_set_ne (by omega)]; exact hz1.out j hj
                  · rw [el_set_ne (by omega)]; exact hz2.out j hj hjn
                  · rw [el_set_same (by rw [hzl.out]; exact hlt), lbP_yes he]
                case measure => simp [intOf]; omega
              · have he : el xs k ≤ el xs (k + 1 + t) := by assumption
                go_roundw
                case rel => exact ⟨t + 1, zs, by omega, by go_num, hbr, hr, hz1, hz2, by rw [lbP_no he]; exact Hzk.out⟩
                case measure => simp [intOf]; omega
            · obtain rfl : t = n - 1 - k := by omega
              have e : lbP xs k (n - 1 - k) = lb xs k := by rw [lb, hlen.out]
              rw [e] at hzk
              have Hzk := hid hzk
              clear hzk e
              go_wp2
              go_roundw
              case rel => exact ⟨k + 1, zs, by omega, by go_num, hbr, hr, upto_step hz1.out Hzk.out, fun j hj hjn => hz2.out j (by omega) hjn⟩
              case measure => simp [intOf]; omega
      · obtain rfl : k = n := by omega
        go_wp2
        go_ret
        refine ⟨_, rfl, ?_, hbr⟩
        have e : zs = table xs := ext_el (by rw [hr.len, table_len, hlen.out]) (fun j hj => by rw [hr.len] at hj; rw [hz1.out j hj, el_table (by rw [hlen.out]; exact hj)])
        rw [onV_yes Hv.out, ← e]
        exact hr.own.mono hsz
  · have Hv := hid hv
    go_enter Try.func70, Try.ntmps70
    go_wp2_with fail
    refine (validI_any _ _ _ xs _ h).mono ?_
    rintro e w1 ⟨rfl, hb1⟩
    go_wp2
    go_ret
    refine ⟨_, rfl, ?_, hb1⟩
    rw [onV_no Hv.out]
    exact Own.nil

theorem table_small {xs : List Int} (h : Valid xs) : ∀ j, j < (table xs).length → 0 ≤ el (table xs) j ∧ el (table xs) j ≤ (1000 : Nat) := fun j hj => by
  have := table_bd xs j hj
  have := h.len
  omega

set_option maxHeartbeats 1000000 in
theorem invsI_any (ao : Option Addr) (n cap : Nat) (xs : List Int) (w : World) (h : Sl w ao n cap xs) :
    Calls Try.prog 21 #[.slice ao n cap] w (Says w (.int .i64 (onVi xs (sumL (table xs)) (-1)))) := by
  have hbig := h.big
  have hlen := hid h.len
  by_cases hv : Valid xs
  · have h7 : n ≤ 7 := by have := hv.len; rw [hlen.out] at this; exact this
    have Hv := hid hv
    go_enter Try.func21, Try.ntmps21
    go_wp2_with fail
    refine (validI_any _ _ _ xs _ h).mono ?_
    rintro e w1 ⟨rfl, hb1⟩
    have hsz := hb1.size
    go_wp2_with fail
    refine (tableI_any _ _ _ xs _ (h.later hb1)).mono ?_
    rintro e w2 ⟨u2, rfl, ho2, hb2⟩
    rw [onV_yes Hv.out] at ho2
    obtain ⟨a2, c2, rfl, hs2⟩ := ho2.sl
    have hl2 : (table xs).length ≤ 7 := by rw [table_len, hlen.out]; omega
    have hts := hid (table_small Hv.out)
    have hb3 := hb1.trans (hb2.mono hsz)
    clear hv
    obtain ⟨ts, Hts⟩ : ∃ ts, Hid (ts = table xs) := ⟨_, rfl⟩
    rw [← Hts.out] at hs2 hl2 hts ⊢
    obtain ⟨m, hm⟩ : ∃ m, ts.length = m := ⟨_, rfl⟩
    rw [hm] at hs2 hl2 ⊢
    have Hm := hid hm
    clear hm ho2
    go_wp2
    go_loopw [3, 12] (fun v i wr => ∃ (k : Nat), k ≤ m ∧ v = .int .i64 (sumTo ts k) ∧ i = .int .i64 k ∧ Below w2.heap.size w2 wr)
      (fun _ i _ => m - (intOf i).toNat)
    case atStart => exact ⟨0, Nat.zero_le _, rfl, rfl, Below.refl _ _⟩
    case round =>
      obtain ⟨k, hk, rfl, rfl, hbr⟩ := hrel
      have hbd := sumTo_bd hts.out k (by rw [Hm.out]; exact hk)
      have hbb2 : sumTo ts k ≤ 1000000 := Int.le_trans hbd.2 (by have : (k : Int) * (1000 : Nat) ≤ 1000 * (1000 : Nat) := Int.mul_le_mul_of_nonneg_right (by omega) (by omega); omega)
      have hbb1 := hbd.1
      clear hbd
      by_cases hlt : k < m
      · obtain ⟨b, off, rfl, hblt, hc⟩ := hs2.row (by omega)
        have hcell := (hbr.cell (p := ⟨b, off + k, none⟩) hblt).trans (hc k hlt)
        have he := hts.out k (by rw [Hm.out]; exact hlt)
        have he0 := he.1
        have he1 := he.2
        clear hc he
        go_wp2
        go_roundw
        case rel => exact ⟨k + 1, by omega, by rw [sumTo], by go_num, hbr⟩
        case measure => simp [intOf]; omega
      · obtain rfl : k = m := by omega
        go_wp2
        go_ret
        rw [onVi_yes Hv.out]
        exact says_int (by rw [← Hts.out, sumL, Hm.out]) (hb3.trans (hbr.mono hb3.size))
  · have Hv := hid hv
    go_enter Try.func21, Try.ntmps21
    go_wp2_with fail
    refine (validI_any _ _ _ xs _ h).mono ?_
    rintro e w1 ⟨rfl, hb1⟩
    go_wp2
    go_ret
    rw [onVi_no Hv.out]
    exact ⟨rfl, hb1⟩

end Go.Proofs.Ytjphaphnmclbcaa

/- Descents, major indices and signs, in the program and in its model. Condition: the list's cells can be read. -/
namespace Go.Proofs.Ytjphaphnmclbcaa
open Go.RowKit

set_option maxHeartbeats 1000000 in
theorem descents_any (ao : Option Addr) (n cap : Nat) (xs : List Int) (w : World) (h : Sl w ao n cap xs) (h7 : n ≤ 1000) :
    Calls Try.prog 98 #[.slice ao n cap] w (Made w (desc xs)) := by
  have hbig := h.big
  have hlen := hid h.len
  go_enter Try.func98, Try.ntmps98
  go_wp2
  go_loopw [3, 4] (fun v i wr => ∃ (k m : Nat) (ao' : Option Addr) (cap' : Nat), k ≤ n - 1 ∧ v = .slice ao' m cap' ∧ i = .int .i64 ((k : Nat)) ∧ Below w.heap.size w wr ∧ Own wr w.heap.size (.slice ao' m cap') (dsP xs k))
    (fun _ i _ => n - (intOf i).toNat)
  case atStart => exact ⟨0, _, _, _, Nat.zero_le _, rfl, rfl, (Below.refl _ _).alloc (Nat.le_refl _) _, own_lit w⟩
  case round =>
    obtain ⟨k, m, ao', cap', hk, rfl, rfl, hbr, ho⟩ := hrel
    have hsz := hbr.size
    have hl : (dsP xs k).length ≤ 2000000 := by have := dsP_len xs k; omega
    by_cases hlt : k + 1 < n
    · obtain ⟨b, off, rfl, hblt, hc⟩ := h.row (by omega)
      have hcell := (hbr.cell (p := ⟨b, off + k, none⟩) hblt).trans (hc k (by omega))
      have hcell1 := (hbr.cell (p := ⟨b, off + (k + 1), none⟩) hblt).trans (hc (k + 1) hlt)
      have hi1 : (k : Int) + 1 < n := by omega
      have hi2 : (k : Int) < n := by omega
      clear hc
      by_cases he : el xs (k + 1) < el xs k
      · go_wp2_with fail
        go_quiet (fail)
        go_wp2_with (at_builtin; refine app_int _ _ rfl _ _ rfl w.heap.size _ _ rfl (ho.drewN _) rfl hl hsz ?_)
        intro u' w' ho' hg'
        have hb' := below_app (drewN_below hbr _) (ho.drewN _) hg'
        rw [← dsP_yes he] at ho'
        have hl' := hid (rfl : (dsP xs (k + 1)).length = (dsP xs (k + 1)).length)
        obtain ⟨ao', cap', rfl, hs'⟩ := ho'.sl
        go_wp2
        go_roundw
        case rel => exact ⟨k + 1, _, _, _, by omega, rfl, by go_num, hb', ho'⟩
        case measure => simp [intOf]; omega
      · have he' : el xs k ≤ el xs (k + 1) := by omega
        go_wp2_with fail
        go_quiet (fail)
        go_wp2
        go_roundw
        case rel => exact ⟨k + 1, _, _, _, by omega, rfl, by go_num, drewN_below hbr _, by rw [dsP_no he']; exact ho.drewN _⟩
        case measure => simp [intOf]; omega
    · have hk1 : k = n - 1 := by omega
      have Hk1 := hid hk1
      clear hk1
      go_wp2
      go_ret
      refine ⟨_, rfl, ?_, hbr⟩
      rw [desc, hlen.out, ← Hk1.out]
      exact ho

set_option maxHeartbeats 1000000 in
theorem descI_any (ao : Option Addr) (n cap : Nat) (xs : List Int) (w : World) (h : Sl w ao n cap xs) :
    Calls Try.prog 71 #[.slice ao n cap] w (Made w (onV xs (desc xs))) := by
  have hbig := h.big
  have hlen := hid h.len
  by_cases hv : Valid xs
  · have h7 : n ≤ 7 := by have := hv.len; rw [hlen.out] at this; exact this
    have Hv := hid hv
    go_enter Try.func71, Try.ntmps71
    go_wp2_with fail
    refine (validI_any _ _ _ xs _ h).mono ?_
    rintro e w1 ⟨rfl, hb1⟩
    have hsz := hb1.size
    go_wp2
    clear hsz
    go_loopw [3, 4] (fun v i wr => ∃ (k m : Nat) (ao' : Option Addr) (cap' : Nat), k ≤ n - 1 ∧ v = .slice ao' m cap' ∧ i = .int .i64 ((k : Int) + 1) ∧ Below w.heap.size w wr ∧ Own wr w.heap.size (.slice ao' m cap') (dsP xs k))
      (fun _ i _ => n - (intOf i).toNat)
    case atStart => exact ⟨0, _, _, _, Nat.zero_le _, rfl, by simp, hb1.alloc hb1.size _, own_lit_at hb1.size⟩
    case round =>
      obtain ⟨k, m, ao', cap', hk, rfl, rfl, hbr, ho⟩ := hrel
      have hsz := hbr.size
      have hl : (dsP xs k).length ≤ 2000000 := by have := dsP_len xs k; omega
      by_cases hlt : k + 1 < n
      · obtain ⟨b, off, rfl, hblt, hc⟩ := h.row (by omega)
        have hcell := (hbr.cell (p := ⟨b, off + k, none⟩) hblt).trans (hc k (by omega))
        have hcell1 := (hbr.cell (p := ⟨b, off + (k + 1), none⟩) hblt).trans (hc (k + 1) hlt)
        have hi1 : (k : Int) + 1 < n := by omega
        have hi2 : (k : Int) < n := by omega
        clear hc
        by_cases he : el xs (k + 1) < el xs k
        · go_wp2_with fail
          go_quiet (fail)
          go_wp2_with (at_builtin; refine app_int _ _ rfl _ _ rfl w.heap.size _ _ rfl (ho.drewN _) rfl hl hsz ?_)
          intro u' w' ho' hg'
          have hb' := below_app (drewN_below hbr _) (ho.drewN _) hg'
          rw [← dsP_yes he] at ho'
          have hl' := hid (rfl : (dsP xs (k + 1)).length = (dsP xs (k + 1)).length)
          obtain ⟨ao', cap', rfl, hs'⟩ := ho'.sl
          go_wp2
          go_roundw
          case rel => exact ⟨k + 1, _, _, _, by omega, rfl, by go_num, hb', ho'⟩
          case measure => simp [intOf]; omega
        · have he' : el xs k ≤ el xs (k + 1) := by omega
          go_wp2_with fail
          go_quiet (fail)
          go_wp2
          go_roundw
          case rel => exact ⟨k + 1, _, _, _, by omega, rfl, by go_num, drewN_below hbr _, by rw [dsP_no he']; exact ho.drewN _⟩
          case measure => simp [intOf]; omega
      · have hk1 : k = n - 1 := by omega
        have Hk1 := hid hk1
        clear hk1
        go_wp2
        go_ret
        refine ⟨_, rfl, ?_, hbr⟩
        rw [onV_yes Hv.out, desc, hlen.out, ← Hk1.out]
        exact ho
  · have Hv := hid hv
    go_enter Try.func71, Try.ntmps71
    go_wp2_with fail
    refine (validI_any _ _ _ xs _ h).mono ?_
    rintro e w1 ⟨rfl, hb1⟩
    go_wp2
    go_ret
    refine ⟨_, rfl, ?_, hb1⟩
    rw [onV_no Hv.out]
    exact Own.nil

set_option maxHeartbeats 1000000 in
theorem major_any (ao : Option Addr) (n cap : Nat) (xs : List Int) (w : World) (h : Sl w ao n cap xs) (h7 : n ≤ 1000) :
    Calls Try.prog 67 #[.slice ao n cap] w (Says w (.int .i64 (major xs))) := by
  have hbig := h.big
  have hlen := hid h.len
  have hl2 : (desc xs).length ≤ 1000 := by have := desc_len xs; rw [hlen.out] at this; omega
  have hds := hid (desc_small (xs := xs) (by rw [hlen.out]; exact h7))
  have hbd := sumL_bd hds.out hl2
  have hbd1 := hbd.1
  have hbd2 : sumL (desc xs) ≤ 1000000 := by have := hbd.2; omega
  clear hbd
  go_enter Try.func67, Try.ntmps67
  go_wp2_with fail
  refine (descents_any _ _ _ xs _ h h7).mono ?_
  rintro e w2 ⟨u2, rfl, ho2, hb2⟩
  obtain ⟨a2, c2, rfl, hs2⟩ := ho2.sl
  go_wp2_with fail
  refine (sum_any _ _ _ _ _ hs2 hl2 hds).mono ?_
  rintro e w3 ⟨rfl, hb3⟩
  go_wp2
  go_ret
  exact ⟨rfl, hb2.trans (hb3.mono hb2.size)⟩

set_option maxHeartbeats 1000000 in
theorem majorI_any (ao : Option Addr) (n cap : Nat) (xs : List Int) (w : World) (h : Sl w ao n cap xs) :
    Calls Try.prog 22 #[.slice ao n cap] w (Says w (.int .i64 (onVi xs (major xs) (-1)))) := by
  have hbig := h.big
  have hlen := hid h.len
  by_cases hv : Valid xs
  · have h7 : n ≤ 7 := by have := hv.len; rw [hlen.out] at this; exact this
    have Hv := hid hv
    go_enter Try.func22, Try.ntmps22
    go_wp2_with fail
    refine (validI_any _ _ _ xs _ h).mono ?_
    rintro e w1 ⟨rfl, hb1⟩
    have hsz := hb1.size
    go_wp2_with fail
    refine (descI_any _ _ _ xs _ (h.later hb1)).mono ?_
    rintro e w2 ⟨u2, rfl, ho2, hb2⟩
    rw [onV_yes Hv.out] at ho2
    obtain ⟨a2, c2, rfl, hs2⟩ := ho2.sl
    have hl2 : (desc xs).length ≤ 7 := by have := desc_len xs; rw [hlen.out] at this; omega
    have hts := hid (desc_small (xs := xs) (by rw [hlen.out]; omega))
    have hb3 := hb1.trans (hb2.mono hsz)
    clear hv
    obtain ⟨ts, Hts⟩ : ∃ ts, Hid (ts = desc xs) := ⟨_, rfl⟩
    rw [← Hts.out] at hs2 hl2 hts ⊢
    obtain ⟨m, hm⟩ : ∃ m, ts.length = m := ⟨_, rfl⟩
    rw [hm] at hs2 hl2 ⊢
    have Hm := hid hm
    clear hm ho2
    go_wp2
    go_loopw [3, 12] (fun v i wr => ∃ (k : Nat), k ≤ m ∧ v = .int .i64 (sumTo ts k + k) ∧ i = .int .i64 k ∧ Below w2.heap.size w2 wr)
      (fun _ i _ => m - (intOf i).toNat)
    case atStart => exact ⟨0, Nat.zero_le _, rfl, rfl, Below.refl _ _⟩
    case round =>
      obtain ⟨k, hk, rfl, rfl, hbr⟩ := hrel
      have hbd := sumTo_bd hts.out k (by rw [Hm.out]; exact hk)
      have hbb2 : sumTo ts k ≤ 1000000 := Int.le_trans hbd.2 (by have : (k : Int) * (1000 : Nat) ≤ 1000 * (1000 : Nat) := Int.mul_le_mul_of_nonneg_right (by omega) (by omega); omega)
      have hbb1 := hbd.1
      clear hbd
      by_cases hlt : k < m
      · obtain ⟨b, off, rfl, hblt, hc⟩ := hs2.row (by omega)
        have hcell := (hbr.cell (p := ⟨b, off + k, none⟩) hblt).trans (hc k hlt)
        have he := hts.out k (by rw [Hm.out]; exact hlt)
        have he0 := he.1
        have he1 := he.2
        clear hc he
        go_wp2
        go_roundw
        case rel => exact ⟨k + 1, by omega, by rw [sumTo]; congr 1; omega, by go_num, hbr⟩
        case measure => simp [intOf]; omega
      · obtain rfl : k = m := by omega
        go_wp2
        go_ret
        rw [onVi_yes Hv.out]
        exact says_int (by rw [major, ← Hts.out, sumL, Hm.out]) (hb3.trans (hbr.mono hb3.size))
  · have Hv := hid hv
    go_enter Try.func22, Try.ntmps22
    go_wp2_with fail
    refine (validI_any _ _ _ xs _ h).mono ?_
    rintro e w1 ⟨rfl, hb1⟩
    go_wp2
    go_ret
    rw [onVi_no Hv.out]
    exact ⟨rfl, hb1⟩

end Go.Proofs.Ytjphaphnmclbcaa

/- What the laws' own small functions answer: equal lists, a number in a list, sums, products. Condition: the lists' cells can be read. -/
namespace Go.Proofs.Ytjphaphnmclbcaa
open Go.RowKit

set_option maxHeartbeats 400000 in
theorem equalInts_any (ao : Option Addr) (n cap : Nat) (xs : List Int) (bo : Option Addr) (m cap2 : Nat) (ys : List Int) (w : World) (h : Sl w ao n cap xs) (g : Sl w bo m cap2 ys) :
    Calls Try.prog 20 #[.slice ao n cap, .slice bo m cap2] w (Says w (.bool (decide (xs = ys)))) := by
  have hbig := h.big
  have hbig2 := g.big
  have hlen := hid h.len
  have glen := hid g.len
  by_cases hnm : n = m
  · subst hnm
    go_enter Try.func20, Try.ntmps20
    go_wp2
    go_loopw [5] (fun i wr => ∃ k : Nat, k ≤ n ∧ i = .int .i64 k ∧ Below w.heap.size w wr ∧ Hid (∀ j, j < k → el xs j = el ys j))
      (fun i _ => n - (intOf i).toNat)
    case atStart => exact ⟨0, Nat.zero_le _, rfl, Below.refl _ _, fun j hj => by omega⟩
    case round =>
      obtain ⟨k, hk, rfl, hbr, heq⟩ := hrel
      by_cases hlt : k < n
      · obtain ⟨b, off, rfl, hblt, hc⟩ := h.row (by omega)
        obtain ⟨b2, off2, rfl, hblt2, hc2⟩ := g.row (by omega)
        have hcell := (hbr.cell (p := ⟨b, off + k, none⟩) hblt).trans (hc k hlt)
        have hcell2 := (hbr.cell (p := ⟨b2, off2 + k, none⟩) hblt2).trans (hc2 k hlt)
        clear hc hc2
        have hi1 : (k : Int) < n := by omega
        go_wp2
        go_quiet (fail)
        go_wp2
        · have hne : ¬ el xs k = el ys k := by
            have : (el xs k != el ys k) = true := by assumption
            simpa using this
          go_ret
          exact says_false (fun e => hne (by rw [e])) (drewN_below hbr _)
        · have he : el xs k = el ys k := by
            have : (el xs k != el ys k) = false := by assumption
            simpa using this
          go_roundw
          case rel => exact ⟨k + 1, by omega, by go_num, drewN_below hbr _, fun j hj => by
            by_cases hjk : j = k
            · rw [hjk]; exact he
            · exact heq.out j (by omega)⟩
          case measure => simp [intOf]; omega
      · obtain rfl : k = n := by omega
        go_wp2
        go_ret
        exact says_true (ext_el (by rw [hlen.out, glen.out]) (fun j hj => heq.out j (by rw [hlen.out] at hj; exact hj))) hbr
  · have hne : ¬ (n : Int) = m := by omega
    go_enter Try.func20, Try.ntmps20
    go_wp2
    go_ret
    exact says_false (fun e => hnm (by rw [← hlen.out, ← glen.out, e])) (Below.refl _ _)

set_option maxHeartbeats 1000000 in
theorem total_any (ao : Option Addr) (n cap : Nat) (xs : List Int) (w : World) (h : Sl w ao n cap xs) (h7 : n ≤ 1000) (hs : Hid (∀ j, j < xs.length → 0 ≤ el xs j ∧ el xs j ≤ (1000 : Nat))) :
    Calls Try.prog 32 #[.slice ao n cap] w (Says w (.int .i64 (sumL xs))) := by
  have hbig := h.big
  have hlen := hid h.len
  go_enter Try.func32, Try.ntmps32
  go_wp2
  go_loopw [3, 4] (fun v i wr => ∃ (k : Nat), k ≤ n ∧ v = .int .i64 (sumTo xs k) ∧ i = .int .i64 k ∧ Below w.heap.size w wr)
    (fun _ i _ => n - (intOf i).toNat)
  case atStart => exact ⟨0, Nat.zero_le _, rfl, rfl, Below.refl _ _⟩
  case round =>
    obtain ⟨k, hk, rfl, rfl, hbr⟩ := hrel
    have hbd := sumTo_bd hs.out k (by rw [hlen.out]; exact hk)
    have hb2 : sumTo xs k ≤ 1000000 := Int.le_trans hbd.2 (by have : (k : Int) * (1000 : Nat) ≤ 1000 * (1000 : Nat) := Int.mul_le_mul_of_nonneg_right (by omega) (by omega); omega)
    have hb1 := hbd.1
    clear hbd
    by_cases hlt : k < n
    · obtain ⟨b, off, rfl, hblt, hc⟩ := h.row (by omega)
      have hcell := (hbr.cell (p := ⟨b, off + k, none⟩) hblt).trans (hc k hlt)
      have he := hs.out k (by rw [hlen.out]; exact hlt)
      have he0 := he.1
      have he1 := he.2
      clear hc he
      go_wp2
      go_roundw
      case rel => exact ⟨k + 1, by omega, by rw [sumTo], by go_num, hbr⟩
      case measure => simp [intOf]; omega
    · obtain rfl : k = n := by omega
      go_wp2
      go_ret
      exact says_int (by rw [sumL, hlen.out]) hbr

end Go.Proofs.Ytjphaphnmclbcaa

/- Ranks as plain functions of tables, and that both ways to reckon them agree. No condition. -/
namespace Go.Proofs.Ytjphaphnmclbcaa

def fac : Nat → Int
  | 0 => 1
  | n + 1 => fac n * ((n : Int) + 1)
theorem fac_pos (n : Nat) : 1 ≤ fac n := by
  induction n with
  | zero => exact Int.le_refl _
  | succ n ih =>
    rw [fac]
    have : 1 * 1 ≤ fac n * ((n : Int) + 1) := Int.mul_le_mul ih (by omega) (by omega) (by omega)
    omega
theorem fac_le {n : Nat} (h : n ≤ 7) : fac n ≤ 5040 := by
  have : ∀ n : Nat, n ≤ 7 → fac n ≤ 5040 := by decide
  exact this n h

/-- The rank, place by place from the front: as the program reckons it. -/
def rkP (t : List Int) (n : Nat) : Nat → Int
  | 0 => 0
  | k + 1 => rkP t n k * ((n : Int) - k) + el t k
/-- The rank as a sum: as the model reckons it. -/
def rkS (t : List Int) (n : Nat) : Nat → Int
  | 0 => 0
  | k + 1 => rkS t n k + el t k * fac (n - 1 - k)
theorem rk_both (t : List Int) (n : Nat) : ∀ k, k ≤ n → rkS t n k = rkP t n k * fac (n - k) := by
  intro k
  induction k with
  | zero => intro _; simp [rkS, rkP]
  | succ k ih =>
    intro hk
    rw [rkS, ih (by omega), rkP]
    obtain ⟨m, hm⟩ : ∃ m, n - k = m + 1 := ⟨n - k - 1, by omega⟩
    rw [hm, show n - 1 - k = m by omega, show n - (k + 1) = m by omega, fac, Int.add_mul]
    have e : (n : Int) - k = (m : Int) + 1 := by omega
    rw [e, ← Int.mul_assoc, Int.mul_assoc (rkP t n k) (fac m), Int.mul_comm (fac m), ← Int.mul_assoc]
theorem rk_eq (t : List Int) (n : Nat) : rkS t n n = rkP t n n := by
  rw [rk_both t n n (Nat.le_refl _), Nat.sub_self, fac, Int.mul_one]

def pow8 : Nat → Int
  | 0 => 1
  | k + 1 => pow8 k * 8
theorem rkP_bd {t : List Int} {n : Nat} (hn : n ≤ 7) (ht : ∀ j, j < n → 0 ≤ el t j ∧ el t j ≤ 7) : ∀ k, k ≤ n → 0 ≤ rkP t n k ∧ rkP t n k ≤ pow8 k - 1 := by
  intro k
  induction k with
  | zero => intro _; simp [rkP, pow8]
  | succ k ih =>
    intro hk
    have h1 := ih (by omega)
    have h2 := ht k (by omega)
    rw [rkP, pow8]
    have h3 : rkP t n k * ((n : Int) - k) ≤ rkP t n k * 7 := Int.mul_le_mul_of_nonneg_left (by omega) h1.1
    have h4 : 0 ≤ rkP t n k * ((n : Int) - k) := Int.mul_nonneg h1.1 (by omega)
    omega
theorem pow8_le {k : Nat} (h : k ≤ 7) : pow8 k ≤ 2097152 := by
  have : ∀ k : Nat, k ≤ 7 → pow8 k ≤ 2097152 := by decide
  exact this k h
theorem rkS_bd {t : List Int} {n : Nat} (hn : n ≤ 7) (ht : ∀ j, j < n → 0 ≤ el t j ∧ el t j ≤ 7) : ∀ k, k ≤ n → 0 ≤ rkS t n k ∧ rkS t n k ≤ k * 35280 := by
  intro k
  induction k with
  | zero => intro _; simp [rkS]
  | succ k ih =>
    intro hk
    have h1 := ih (by omega)
    have h2 := ht k (by omega)
    have f1 := fac_pos (n - 1 - k)
    have f2 := fac_le (n := n - 1 - k) (by omega)
    rw [rkS]
    have h3 : 0 ≤ el t k * fac (n - 1 - k) := Int.mul_nonneg h2.1 (by omega)
    have h4 : el t k * fac (n - 1 - k) ≤ 7 * 5040 := Int.mul_le_mul h2.2 f2 (by omega) (by omega)
    omega
def rk (xs : List Int) : Int := rkP (table xs) xs.length xs.length
theorem table_seven {xs : List Int} (h : Valid xs) : ∀ j, j < xs.length → 0 ≤ el (table xs) j ∧ el (table xs) j ≤ 7 := fun j hj => by
  have h1 := table_bd xs j (by rw [table_len]; exact hj)
  have := h.len
  omega
theorem rk_bd {xs : List Int} (h : Valid xs) : 0 ≤ rk xs ∧ rk xs ≤ 2097151 := by
  have h1 := rkP_bd h.len (table_seven h) xs.length (Nat.le_refl _)
  have h2 := pow8_le h.len
  unfold rk
  omega

end Go.Proofs.Ytjphaphnmclbcaa

