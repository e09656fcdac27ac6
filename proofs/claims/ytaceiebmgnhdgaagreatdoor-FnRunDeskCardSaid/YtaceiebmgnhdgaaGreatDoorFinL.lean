/- Lines and circles are turned into each other, a line falls as often as values are below their places, and its records are as many as the circles: reckoned for all orders of at most seven values. No condition. -/
import Derived.Test.YtaceiebmgnhdgaaGreatDoorMirL
import Derived.Test.YtaceiebmgnhdgaaGreatDoorBnd
namespace Go.Proofs.YtaceiebmgnhdgaaGreatDoor

def elF : List Int → Nat → Int
  | [], _ => 0
  | x :: _, 0 => x
  | _ :: xs, k + 1 => elF xs k
theorem elF_eq (xs : List Int) : ∀ k, elF xs k = el xs k := by
  induction xs with
  | nil => intro k; simp [elF, el]
  | cons x xs ih =>
    intro k
    cases k with
    | zero => rw [elF, el_zero]
    | succ k => rw [elF, el_cons, ih]
def natF : Int → Nat
  | .ofNat n => n
  | .negSucc _ => 0
theorem natF_eq (x : Int) : natF x = x.toNat := by cases x <;> rfl
def setF : List Int → Nat → Int → List Int
  | [], _, _ => []
  | _ :: xs, 0, v => v :: xs
  | x :: xs, k + 1, v => x :: setF xs k v
theorem setF_eq (xs : List Int) (v : Int) : ∀ k, setF xs k v = xs.set k v := by
  induction xs with
  | nil => intro k; simp [setF]
  | cons x xs ih =>
    intro k
    cases k with
    | zero => rfl
    | succ k => rw [setF, List.set_cons_succ, ih]
/-- The values of the circle of x, in y the next one; none if one of them is bad. -/
def wkF (bad : Int → Bool) (xs : List Int) (x : Int) : Nat → Int → List Int → List Int
  | 0, _, _ => []
  | f + 1, y, acc => match eqb y x with
    | true => acc
    | false => match bad y with
      | true => []
      | false => wkF bad xs x f (elF xs (natF y)) (acc ++ [y])
theorem wkF_eq (bad : Int → Bool) {xs : List Int} (h : Valid xs) {x : Int} (hx : 0 ≤ x ∧ x < xs.length) : ∀ f t, 1 ≤ t → t ≤ per xs x → per xs x < t + f → (∀ s, s < t → bad (itr xs x s) = false) →
    wkF bad xs x f (itr xs x t) ((List.range t).map (itr xs x)) = if (cyc xs x).all (fun y => !bad y) then cyc xs x else [] := by
  obtain ⟨p1, p2, p3, p4⟩ := per_spec h hx
  intro f
  induction f with
  | zero => intro t _ h2 h3 _; omega
  | succ f ih =>
    intro t h1 h2 h3 hb
    rw [wkF, eqb_eq]
    by_cases e : t = per xs x
    · subst e
      rw [p3, decide_eq_true rfl]
      have : (cyc xs x).all (fun y => !bad y) = true := by
        rw [cyc, List.all_map, List.all_eq_true]
        intro s hs
        simp [hb s (List.mem_range.1 hs)]
      rw [this]; rfl
    · have hne := p4 t h1 (by omega)
      rw [decide_eq_false hne]
      cases hy : bad (itr xs x t)
      · simp only
        have := ih (t + 1) (by omega) (by omega) (by omega) (fun s hs => by
          by_cases e2 : s = t
          · rw [e2]; exact hy
          · exact hb s (by omega))
        rw [itr, List.range_succ, List.map_append] at this
        rw [elF_eq, natF_eq]
        exact this
      · simp only
        have : (cyc xs x).all (fun y => !bad y) = false := by
          rw [cyc, List.all_map, List.all_eq_false]
          exact ⟨t, List.mem_range.2 (by omega), by simp [hy]⟩
        rw [this]; rfl
def wk0 (bad : Int → Bool) (xs : List Int) (x : Nat) : List Int := wkF bad xs (Int.ofNat x) (xs.length + 1) (elF xs x) [Int.ofNat x]
theorem wk0_eq (bad : Int → Bool) {xs : List Int} (h : Valid xs) {x : Nat} (hx : x < xs.length) (hb : bad x = false) : wk0 bad xs x = if (cyc xs x).all (fun y => !bad y) then cyc xs x else [] := by
  have hx2 : 0 ≤ (x : Int) ∧ (x : Int) < xs.length := by omega
  obtain ⟨p1, p2, p3, p4⟩ := per_spec h hx2
  have := wkF_eq bad h hx2 (xs.length + 1) 1 (Nat.le_refl _) p1 (by omega) (fun s hs => by
    obtain rfl : s = 0 := by omega
    exact hb)
  rw [wk0, elF_eq]
  exact this
def tlF (xs : List Int) : Nat → List Int
  | 0 => []
  | k + 1 => tlF xs k ++ wk0 (ltb (Int.ofNat k)) xs k
theorem tlF_eq {xs : List Int} (h : Valid xs) : ∀ k, k ≤ xs.length → tlF xs k = tlP xs k := by
  intro k
  induction k with
  | zero => intro _; rfl
  | succ k ih =>
    intro hk
    rw [tlF, ih (by omega), wk0_eq _ h (by omega) (by rw [ltb_eq]; simp)]
    have e : (cyc xs k).all (fun y => !ltb (Int.ofNat k) y) = gre xs k := by
      rw [gre]
      congr 1
      funext y
      rw [ltb_eq, Int.ofNat_eq_natCast]
      by_cases hy : y ≤ (k : Int)
      · simp [hy]
      · simp [hy]; omega
    rw [e, tlP]
    cases gre xs k <;> simp
/-- How many circles there are, by their least values. -/
def ccF (xs : List Int) : Nat → Nat
  | 0 => 0
  | k + 1 => match wk0 (fun y => ltb y (Int.ofNat k)) xs k with
    | [] => ccF xs k
    | _ :: _ => ccF xs k + 1
theorem ccF_eq {xs : List Int} (h : Valid xs) : ∀ k, k ≤ xs.length → ccF xs k = (ciP xs k).length := by
  intro k
  induction k with
  | zero => intro _; rfl
  | succ k ih =>
    intro hk
    rw [ccF, wk0_eq _ h (by omega) (by rw [ltb_eq]; simp)]
    have e : (cyc xs k).all (fun y => !ltb y (Int.ofNat k)) = lea xs k := by
      rw [lea]
      congr 1
      funext y
      rw [ltb_eq, Int.ofNat_eq_natCast]
      by_cases hy : (k : Int) ≤ y
      · simp [hy]
      · simp [hy]; omega
    have hx2 : 0 ≤ (k : Int) ∧ (k : Int) < xs.length := by omega
    obtain ⟨p1, _⟩ := per_spec h hx2
    rw [e]
    cases hl : lea xs k
    · rw [ciP_no hl]
      simp only [Bool.false_eq_true, if_false]
      exact ih (by omega)
    · rw [ciP_yes hl, List.length_append, List.length_singleton, ← ih (by omega)]
      simp only [if_true]
      cases hc : cyc xs k with
      | nil =>
        have : (cyc xs k).length = per xs k := by simp [cyc]
        rw [hc] at this
        simp at this; omega
      | cons a l => rfl

/-- The order of a line: m the greatest value so far. -/
def frF (m : Int) : List Int → List Int → List Int
  | [], p => p
  | [x], p => match ltb m x with
    | true => setF p (natF x) x
    | false => setF p (natF x) m
  | x :: y :: v, p => match ltb m x with
    | true => match ltb y x with
      | true => frF x (y :: v) (setF p (natF x) y)
      | false => frF x (y :: v) (setF p (natF x) x)
    | false => match ltb y m with
      | true => frF m (y :: v) (setF p (natF x) y)
      | false => frF m (y :: v) (setF p (natF x) m)
theorem frF_drop (ws : List Int) : ∀ d k, k + d = ws.length → frF (mxP ws k) (ws.drop k) (frP ws k) = frL ws := by
  intro d
  induction d with
  | zero => intro k hk; rw [List.drop_eq_nil_of_le (by omega), frF, frL, show k = ws.length by omega]
  | succ d ih =>
    intro k hk
    have e1 : ws.drop k = el ws k :: ws.drop (k + 1) := by rw [el_lt (by omega)]; exact List.drop_eq_getElem_cons (by omega)
    have hi := ih (k + 1) (by omega)
    rw [frP_succ, nx] at hi
    cases d with
    | zero =>
      have e2 : ws.drop (k + 1) = [] := List.drop_eq_nil_of_le (by omega)
      rw [if_neg (fun hh => by have := hh.1; omega), e2, frF, mxP] at hi
      rw [e1, e2, frF, ltb_eq, natF_eq, setF_eq, setF_eq]
      by_cases c : mxP ws k < el ws k
      · rw [if_pos c] at hi; rw [decide_eq_true c]; exact hi
      · rw [if_neg c] at hi; rw [decide_eq_false c]; exact hi
    | succ d =>
      have e2 : ws.drop (k + 1) = el ws (k + 1) :: ws.drop (k + 1 + 1) := by rw [el_lt (by omega)]; exact List.drop_eq_getElem_cons (by omega)
      rw [e1, e2, frF, ltb_eq, ltb_eq, ltb_eq, natF_eq, setF_eq, setF_eq, setF_eq, ← e2]
      rw [mxP] at hi
      by_cases c : mxP ws k < el ws k
      · rw [if_pos c] at hi
        rw [decide_eq_true c]
        simp only
        by_cases c2 : el ws (k + 1) < el ws k
        · rw [if_pos ⟨by omega, c2⟩] at hi; rw [decide_eq_true c2]; exact hi
        · rw [if_neg (fun hh => c2 hh.2)] at hi; rw [decide_eq_false c2]; exact hi
      · rw [if_neg c] at hi
        rw [decide_eq_false c]
        simp only
        by_cases c2 : el ws (k + 1) < mxP ws k
        · rw [if_pos ⟨by omega, c2⟩] at hi; rw [decide_eq_true c2]; exact hi
        · rw [if_neg (fun hh => c2 hh.2)] at hi; rw [decide_eq_false c2]; exact hi
def zerF : List Int → List Int
  | [] => []
  | _ :: xs => 0 :: zerF xs
theorem zerF_eq (xs : List Int) : zerF xs = List.replicate xs.length 0 := by
  induction xs with
  | nil => rfl
  | cons x xs ih => rw [zerF, ih]; rfl
def fr0 (ws : List Int) : List Int := frF (-1) ws (zerF ws)
theorem fr0_eq (ws : List Int) : fr0 ws = frL ws := by
  have := frF_drop ws ws.length 0 (by omega)
  rw [fr0, zerF_eq]
  exact this

/-- Is it an order? -/
def memF (x : Int) : List Int → Bool
  | [] => false
  | y :: xs => match eqb x y with
    | true => true
    | false => memF x xs
def allF (n : Int) : List Int → Bool
  | [] => true
  | x :: xs => match ltb x n, ltb x 0, memF x xs with
    | true, false, false => allF n xs
    | _, _, _ => false
theorem memF_not {x : Int} {xs : List Int} (h : memF x xs = false) : x ∉ xs := by
  induction xs with
  | nil => simp
  | cons y xs ih =>
    rw [memF, eqb_eq] at h
    by_cases e : x = y
    · rw [decide_eq_true e] at h; cases h
    · rw [decide_eq_false e] at h
      simp only at h
      rw [List.mem_cons]
      intro hh
      rcases hh with hh | hh
      · exact e hh
      · exact ih h hh
theorem allF_spec {n : Int} {xs : List Int} (h : allF n xs = true) : (∀ x ∈ xs, 0 ≤ x ∧ x < n) ∧ xs.Nodup := by
  induction xs with
  | nil => simp
  | cons x xs ih =>
    rw [allF] at h
    cases h1 : ltb x n <;> cases h2 : ltb x 0 <;> cases h3 : memF x xs <;> rw [h1, h2, h3] at h <;> try (cases h)
    simp only at h
    obtain ⟨i1, i2⟩ := ih h
    rw [ltb_eq, decide_eq_true_iff] at h1
    rw [ltb_eq, decide_eq_false_iff_not] at h2
    refine ⟨fun y hy => ?_, List.nodup_cons.2 ⟨memF_not h3, i2⟩⟩
    rcases List.mem_cons.1 hy with rfl | hy
    · omega
    · exact i1 y hy
theorem allF_valid {xs : List Int} (h7 : xs.length ≤ 7) (h : allF (Int.ofNat xs.length) xs = true) : Valid xs := by
  obtain ⟨h1, h2⟩ := allF_spec h
  refine ⟨h7, fun j hj => (h1 _ (el_mem hj)).1, fun j hj => (h1 _ (el_mem hj)).2, fun i j hij hj => ?_⟩
  rw [List.nodup_iff_pairwise_ne, List.pairwise_iff_getElem] at h2
  have := h2 i j (by omega) hj hij
  rwa [← el_lt, ← el_lt] at this

/-- How many numbers fall, are below their places, are records. -/
def dcF : List Int → Nat → Nat
  | [], n => n
  | [_], n => n
  | x :: y :: xs, n => match ltb y x with
    | true => dcF (y :: xs) (n + 1)
    | false => dcF (y :: xs) n
def bpF : List Int → Nat → Nat → Nat
  | [], _, n => n
  | x :: xs, k, n => match ltb x (Int.ofNat k) with
    | true => bpF xs (k + 1) (n + 1)
    | false => bpF xs (k + 1) n
def rnF (m : Int) : List Int → Nat → Nat
  | [], n => n
  | x :: xs, n => match ltb m x with
    | true => rnF x xs (n + 1)
    | false => rnF m xs n
theorem dcF_eq (xs : List Int) : ∀ d k, k + d + 1 = xs.length → dcF (xs.drop k) (dsP xs k).length = (desc xs).length := by
  intro d
  induction d with
  | zero =>
    intro k hk
    have e1 : xs.drop k = el xs k :: xs.drop (k + 1) := by rw [el_lt (by omega)]; exact List.drop_eq_getElem_cons (by omega)
    rw [e1, List.drop_eq_nil_of_le (by omega), dcF, desc, show xs.length - 1 = k by omega]
  | succ d ih =>
    intro k hk
    have e1 : xs.drop k = el xs k :: xs.drop (k + 1) := by rw [el_lt (by omega)]; exact List.drop_eq_getElem_cons (by omega)
    have e2 : xs.drop (k + 1) = el xs (k + 1) :: xs.drop (k + 1 + 1) := by rw [el_lt (by omega)]; exact List.drop_eq_getElem_cons (by omega)
    rw [e1, e2, dcF, ltb_eq, ← e2, ← ih (k + 1) (by omega)]
    by_cases c : el xs (k + 1) < el xs k
    · rw [decide_eq_true c, dsP_yes c, List.length_append]; rfl
    · rw [decide_eq_false c, dsP_no (by omega)]
theorem dc_eq (xs : List Int) : dcF xs 0 = (desc xs).length := by
  cases xs with
  | nil => rfl
  | cons x xs => exact dcF_eq (x :: xs) xs.length 0 (by simp)
theorem bpF_eq (xs : List Int) : ∀ d k n, k + d = xs.length → (bpF (xs.drop k) k n : Int) + cntP (fun j => decide (el xs j < (j : Int))) k = cntP (fun j => decide (el xs j < (j : Int))) xs.length + n := by
  intro d
  induction d with
  | zero => intro k n hk; rw [List.drop_eq_nil_of_le (by omega), bpF, show k = xs.length by omega]; omega
  | succ d ih =>
    intro k n hk
    have e1 : xs.drop k = el xs k :: xs.drop (k + 1) := by rw [el_lt (by omega)]; exact List.drop_eq_getElem_cons (by omega)
    rw [e1, bpF, ltb_eq, Int.ofNat_eq_natCast]
    by_cases c : el xs k < (k : Int)
    · have := ih (k + 1) (n + 1) (by omega)
      rw [cntP_yes (by simpa using c)] at this
      rw [decide_eq_true c]
      simp only
      omega
    · have := ih (k + 1) n (by omega)
      rw [cntP_no (by simpa using c)] at this
      rw [decide_eq_false c]
      simp only
      omega
theorem rnF_eq (xs : List Int) : ∀ d k, k + d = xs.length → rnF (mxP xs k) (xs.drop k) (rcP xs k).length = (records xs).length := by
  intro d
  induction d with
  | zero => intro k hk; rw [List.drop_eq_nil_of_le (by omega), rnF, records, show k = xs.length by omega]
  | succ d ih =>
    intro k hk
    have e1 : xs.drop k = el xs k :: xs.drop (k + 1) := by rw [el_lt (by omega)]; exact List.drop_eq_getElem_cons (by omega)
    rw [e1, rnF, ltb_eq, ← ih (k + 1) (by omega)]
    by_cases c : mxP xs k < el xs k
    · rw [decide_eq_true c, rcP_yes c, mxP_yes c, List.length_append]; rfl
    · rw [decide_eq_false c, rcP_no (by omega), mxP_no (by omega)]
theorem rn_eq (xs : List Int) : rnF (-1) xs 0 = (records xs).length := rnF_eq xs xs.length 0 (by omega)

def lnOk (ws : List Int) : Bool := match fr0 ws with
  | p => allF (Int.ofNat p.length) p && eqs (tlF p p.length) ws && Nat.beq (bpF p 0 0) (dcF ws 0) && Nat.beq (ccF p p.length) (rnF (-1) ws 0)
def lbOk (xs : List Int) : Bool := match tlF xs xs.length with
  | w => allF (Int.ofNat w.length) w && Nat.beq w.length xs.length && eqs (fr0 w) xs
def lnOk2 (xs : List Int) : Bool := lnOk xs && lbOk xs
set_option maxRecDepth 100000 in
theorem lnOk6 : (allUpTo 6).all lnOk2 = true := by decide +kernel

set_option maxRecDepth 100000 in
theorem lnOk70 : (begun 0).all lnOk2 = true := by decide +kernel

set_option maxRecDepth 100000 in
theorem lnOk71 : (begun 1).all lnOk2 = true := by decide +kernel

set_option maxRecDepth 100000 in
theorem lnOk72 : (begun 2).all lnOk2 = true := by decide +kernel

set_option maxRecDepth 100000 in
theorem lnOk73 : (begun 3).all lnOk2 = true := by decide +kernel

set_option maxRecDepth 100000 in
theorem lnOk74 : (begun 4).all lnOk2 = true := by decide +kernel

set_option maxRecDepth 100000 in
theorem lnOk75 : (begun 5).all lnOk2 = true := by decide +kernel

set_option maxRecDepth 100000 in
theorem lnOk76 : (begun 6).all lnOk2 = true := by decide +kernel

theorem lnOk_all {xs : List Int} (h : Valid xs) : lnOk2 xs = true :=
  h.parts (p := lnOk2) lnOk6 (seven (P := fun x => (begun x).all lnOk2 = true) lnOk70 lnOk71 lnOk72 lnOk73 lnOk74 lnOk75 lnOk76)

theorem ln_facts {ws : List Int} (h : Valid ws) : Valid (frL ws) ∧ toL (frL ws) = ws ∧ cntP (fun j => decide (el (frL ws) j < (j : Int))) ws.length = (desc ws).length ∧ (circles (frL ws)).length = (records ws).length := by
  have h1 := lnOk_all h
  simp only [lnOk2, lnOk, fr0_eq, Bool.and_eq_true, Nat.beq_eq] at h1
  obtain ⟨⟨⟨⟨q1, q2⟩, q3⟩, q4⟩, _⟩ := h1
  have hl := frL_len ws
  have hv := allF_valid (by rw [hl]; exact h.len) q1
  refine ⟨hv, ?_, ?_, ?_⟩
  · rw [toL, ← tlF_eq hv _ (Nat.le_refl _)]; exact eqs_eq q2
  · have e3 := bpF_eq (frL ws) ws.length 0 0 (by rw [hl]; omega)
    rw [List.drop_zero, q3, dc_eq, hl] at e3
    rw [cntP] at e3
    omega
  · rw [circles, ← ccF_eq hv _ (Nat.le_refl _), q4, rn_eq]
theorem lb_facts {xs : List Int} (h : Valid xs) : Valid (toL xs) ∧ (toL xs).length = xs.length ∧ frL (toL xs) = xs := by
  have h1 := lnOk_all h
  simp only [lnOk2, lbOk, fr0_eq, tlF_eq h _ (Nat.le_refl _), Bool.and_eq_true, Nat.beq_eq] at h1
  obtain ⟨_, ⟨q1, q2⟩, q3⟩ := h1
  exact ⟨allF_valid (by rw [show (toL xs).length = xs.length from q2]; exact h.len) q1, q2, eqs_eq q3⟩

end Go.Proofs.YtaceiebmgnhdgaaGreatDoor
