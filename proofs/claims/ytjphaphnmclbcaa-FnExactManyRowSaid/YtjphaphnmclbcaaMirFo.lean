/- Foata's map and its way back undo each other. No condition. -/
import Derived.Test.YtjphaphnmclbcaaBng
import Derived.Test.YtjphaphnmclbcaaFinInv
namespace Go.Proofs.Ytjphaphnmclbcaa

/-- The numbers v cut behind those of the side and turned, b the open piece. -/
def tbF (low : Bool) (x : Int) : List Int → List Int → List Int
  | [], b => b
  | y :: v, b => match (ltb y x).xor low with
    | false => y :: (b ++ tbF low x v [])
    | true => tbF low x v (b ++ [y])
theorem xor_sid (low : Bool) (x y : Int) : ((ltb y x).xor low) = !sid low x y := by
  rw [ltb_eq, sid]; cases decide (y < x) <;> cases low <;> rfl
theorem tbF_yes {low : Bool} {x y : Int} {v b : List Int} (h : sid low x y = true) : tbF low x (y :: v) b = y :: (b ++ tbF low x v []) := by rw [tbF, xor_sid, h]; rfl
theorem tbF_no {low : Bool} {x y : Int} {v b : List Int} (h : sid low x y = false) : tbF low x (y :: v) b = tbF low x v (b ++ [y]) := by rw [tbF, xor_sid, h]; rfl
theorem tbF_drop (low : Bool) (x : Int) (v : List Int) : ∀ d i, i + d = v.length → (tbP low x v i).1 ++ tbF low x (v.drop i) (tbP low x v i).2 = (tbP low x v v.length).1 ++ (tbP low x v v.length).2 := by
  intro d
  induction d with
  | zero => intro i hi; rw [List.drop_eq_nil_of_le (by omega), tbF, show i = v.length by omega]
  | succ d ih =>
    intro i hi
    rw [← ih (i + 1) (by omega), drop_cons (by omega)]
    cases h : sid low x (el v i)
    · rw [tbF_no h, tbP_no h]
    · rw [tbF_yes h, tbP_yes h]; simp
theorem turnB_F (v : List Int) (x : Int) : turnB v x = tbF (lowOf v x) x v [] := by
  have := tbF_drop (lowOf v x) x v v.length 0 (by omega)
  simpa [turnB, tbP] using this.symm
theorem tbF_none {low : Bool} {x : Int} {r : List Int} (h : ∀ y ∈ r, sid low x y = false) (v b : List Int) : tbF low x (r ++ v) b = tbF low x v (b ++ r) := by
  induction r generalizing b with
  | nil => simp
  | cons y r ih =>
    rw [List.cons_append, tbF_no (h y (by simp)), ih (fun z hz => h z (by simp [hz]))]
    simp
theorem bkS_none (low : Bool) (x : Int) (v : List Int) : ∀ y ∈ (bkS low x v).1, sid low x y = false := by
  induction v with
  | nil => intro y hy; simp [bkS] at hy
  | cons z v ih =>
    intro y hy
    rw [bkS] at hy
    split at hy
    · simp at hy
    · rename_i h
      simp only [List.mem_cons] at hy
      rcases hy with rfl | hy
      · simpa using h
      · exact ih y hy
theorem bkS_split (low : Bool) (x : Int) (v : List Int) : v = (bkS low x v).1 ++ v.drop (bkS low x v).1.length := by
  conv => lhs; rw [← List.take_append_drop (bkS low x v).1.length v, ← bkS_run]
/-- Turning what was turned back. -/
theorem tbF_bkS (low : Bool) (x : Int) (v : List Int) : tbF low x (bkS low x v).2 [] = v.drop (bkS low x v).1.length := by
  induction v with
  | nil => rfl
  | cons y v ih =>
    rw [bkS]
    split
    · rename_i h
      show tbF low x ((bkS low x v).1 ++ [y] ++ (bkS low x v).2) [] = (y :: v).drop 0
      rw [List.append_assoc, tbF_none (bkS_none low x v), List.singleton_append, tbF_yes h, ih, List.nil_append, ← bkS_split, List.drop_zero]
    · exact ih
theorem bkS_app {low : Bool} {x : Int} {r : List Int} (h : ∀ y ∈ r, sid low x y = false) (v : List Int) : bkS low x (r ++ v) = (r ++ (bkS low x v).1, (bkS low x v).2) := by
  induction r with
  | nil => rfl
  | cons y r ih =>
    rw [List.cons_append, bkS, h y (by simp), ih (fun z hz => h z (by simp [hz]))]
    simp
/-- Turning back what was turned; b the open piece, of which no number is of the side. -/
theorem bkS_tbF (low : Bool) (x : Int) : ∀ (v b : List Int), (∀ y ∈ b, sid low x y = false) → (∀ y, (b ++ v).getLast? = some y → sid low x y = true) → bkS low x (tbF low x v b) = ([], b ++ v) := by
  intro v
  induction v with
  | nil =>
    intro b hb hl
    rw [List.append_nil] at hl
    cases e : b.getLast? with
    | none =>
      obtain rfl := List.getLast?_eq_none_iff.1 e
      rfl
    | some y =>
      have h1 := hl y e
      rw [hb y (List.mem_of_getLast? e)] at h1
      cases h1
  | cons y v ih =>
    intro b hb hl
    cases h : sid low x y
    · rw [tbF_no h, ih (b ++ [y]) (fun z hz => by
        rw [List.mem_append, List.mem_singleton] at hz
        rcases hz with hz | rfl
        · exact hb z hz
        · exact h) (fun z hz => hl z (by simpa using hz))]
      simp
    · have h1 : bkS low x (tbF low x v []) = ([], v) := by
        rw [ih [] (by simp) (fun z hz => hl z (by
          rw [List.nil_append] at hz
          cases v with
          | nil => simp at hz
          | cons a v => rw [List.getLast?_append, List.getLast?_cons_cons, hz]; rfl))]
        rfl
      rw [tbF_yes h, bkS, if_pos h, bkS_app hb, h1]
      simp

theorem lowOf_last {v : List Int} {x y : Int} (h : v.getLast? = some y) : lowOf v x = decide (y < x) := by
  rw [List.getLast?_eq_some_iff] at h
  obtain ⟨u, rfl⟩ := h
  simp [lowOf, el]
theorem turn_head (low : Bool) (x : Int) : ∀ (v b : List Int), (∀ y, (b ++ v).getLast? = some y → sid low x y = true) → (∀ y ∈ b, sid low x y = false) → 0 < (b ++ v).length → 0 < (tbF low x v b).length ∧ sid low x (el (tbF low x v b) 0) = true := by
  intro v
  induction v with
  | nil =>
    intro b hl hb h0
    rw [List.append_nil] at hl h0
    cases e : b.getLast? with
    | none =>
      obtain rfl := List.getLast?_eq_none_iff.1 e
      simp at h0
    | some y =>
      have h1 := hl y e
      rw [hb y (List.mem_of_getLast? e)] at h1
      cases h1
  | cons y v ih =>
    intro b hl hb h0
    cases h : sid low x y
    · rw [tbF_no h]
      refine ih (b ++ [y]) (fun z hz => hl z (by simpa using hz)) (fun z hz => ?_) (by simp; omega)
      rw [List.mem_append, List.mem_singleton] at hz
      rcases hz with hz | rfl
      · exact hb z hz
      · exact h
    · rw [tbF_yes h, el_zero]
      exact ⟨by simp, h⟩
theorem sid_of {x y : Int} (low : Bool) (h : decide (y < x) = low) : sid low x y = true := by rw [sid, h]; simp
theorem of_sid {x y : Int} {low : Bool} (h : sid low x y = true) : decide (y < x) = low := by simpa [sid] using h
theorem back_turn (v : List Int) (x : Int) : backB (turnB v x) x = v := by
  cases v with
  | nil => rfl
  | cons a v =>
    obtain ⟨y, hy⟩ : ∃ y, (a :: v).getLast? = some y := ⟨_, List.getLast?_eq_some_getLast (by simp)⟩
    have hs : ∀ z, ([] ++ (a :: v)).getLast? = some z → sid (lowOf (a :: v) x) x z = true := fun z hz => by
      rw [List.nil_append] at hz
      exact sid_of _ (lowOf_last hz).symm
    have h1 := turn_head (lowOf (a :: v) x) x (a :: v) [] hs (by simp) (by simp)
    have h2 := bkS_tbF (lowOf (a :: v) x) x (a :: v) [] (by simp) hs
    rw [← turnB_F] at h1 h2
    have h3 : lowB (turnB (a :: v) x) x = lowOf (a :: v) x := by
      rw [lowB, decide_eq_true h1.1, of_sid h1.2]; rfl
    rw [backB, h3, h2]
    rfl
theorem bk_head (low : Bool) (x y : Int) (v : List Int) (h : sid low x y = true) : (bkS low x (y :: v)).1 = [] ∧ ∃ z, (bkS low x (y :: v)).2.getLast? = some z ∧ sid low x z = true := by
  induction v generalizing y with
  | nil => rw [bkS, if_pos h]; exact ⟨rfl, y, by simp [bkS], h⟩
  | cons a v ih =>
    rw [bkS, if_pos h]
    refine ⟨rfl, ?_⟩
    cases ha : sid low x a
    · rw [bkS, ha]
      simp only [Bool.false_eq_true, if_false]
      have h1 := ih y h
      rw [bkS, if_pos h] at h1
      obtain ⟨_, z, hz, hs⟩ := h1
      simp only at hz
      cases e : (bkS low x v).2 with
      | nil => exact ⟨y, by simp only [List.append_nil, List.cons_append]; rw [← List.cons_append, List.getLast?_append]; rfl, h⟩
      | cons c l =>
        rw [e] at hz
        refine ⟨z, ?_, hs⟩
        rw [List.getLast?_append] at hz ⊢
        rw [List.getLast?_eq_some_getLast (l := c :: l) (by simp)] at hz ⊢
        exact hz
    · obtain ⟨h1, z, hz, hs⟩ := ih a ha
      refine ⟨z, ?_, hs⟩
      rw [List.getLast?_append, hz]; rfl
theorem turn_back (v : List Int) (x : Int) : turnB (backB v x) x = v := by
  cases v with
  | nil => rfl
  | cons a v =>
    have hs : sid (lowB (a :: v) x) x a = true := sid_of _ (by simp [lowB, el])
    obtain ⟨h1, z, hz, hzs⟩ := bk_head (lowB (a :: v) x) x a v hs
    have h2 := tbF_bkS (lowB (a :: v) x) x (a :: v)
    have h3 : backB (a :: v) x = (bkS (lowB (a :: v) x) x (a :: v)).2 := by rw [backB, h1, List.nil_append]
    have h4 : lowOf (backB (a :: v) x) x = lowB (a :: v) x := by rw [h3, lowOf_last hz, of_sid hzs]
    rw [turnB_F, h4, h3, h2, h1]
    rfl

theorem el_app_last (v : List Int) (x : Int) : el (v ++ [x]) v.length = x := by simp [el]
theorem fbP_foat (xs : List Int) : ∀ t, t ≤ xs.length → fbP (foat xs) t = foP xs (xs.length - t) ∧ fbT (foat xs) t = xs.drop (xs.length - t) := by
  intro t
  induction t with
  | zero => intro _; exact ⟨rfl, by rw [fbT, List.drop_eq_nil_of_le (by omega)]⟩
  | succ t ih =>
    intro ht
    obtain ⟨h1, h2⟩ := ih (by omega)
    obtain ⟨m, hm⟩ : ∃ m, xs.length - t = m + 1 := ⟨xs.length - t - 1, by omega⟩
    have hl := foP_len xs (m + 1)
    have h3 : el (foP xs (m + 1)) ((foP xs (m + 1)).length - 1) = el xs m := by
      have := el_app_last (turnB (foP xs m) (el xs m)) (el xs m)
      rw [turnB_len, foP_len] at this
      rw [hl, foP]
      exact this
    have h4 : (foP xs (m + 1)).take ((foP xs (m + 1)).length - 1) = turnB (foP xs m) (el xs m) := by
      rw [hl, foP, List.take_append_of_le_length (by rw [turnB_len, foP_len]; omega), List.take_of_length_le (by rw [turnB_len, foP_len]; omega)]
    constructor
    · rw [fbP, h1, hm, h3, h4, back_turn, show xs.length - (t + 1) = m by omega]
    · rw [fbT, h1, h2, hm, h3, show xs.length - (t + 1) = m by omega, drop_cons (show m < xs.length by omega)]
theorem fbac_foat (xs : List Int) : fbac (foat xs) = xs := by
  rw [fbac, foat_len, (fbP_foat xs _ (Nat.le_refl _)).2, Nat.sub_self, List.drop_zero]
theorem el_fbT (xs : List Int) : ∀ t k, k < t → el (fbT xs t) k = el (fbP xs (t - 1 - k)) ((fbP xs (t - 1 - k)).length - 1) := by
  intro t
  induction t with
  | zero => intro k hk; omega
  | succ t ih =>
    intro k hk
    cases k with
    | zero => rw [fbT, el_zero]; simp
    | succ k => rw [fbT, el_cons, ih k (by omega), show t + 1 - 1 - (k + 1) = t - 1 - k by omega]
theorem foP_fbac (xs : List Int) : ∀ k, k ≤ xs.length → foP (fbac xs) k = fbP xs (xs.length - k) := by
  intro k
  induction k with
  | zero =>
    intro _
    have := fbP_len xs xs.length
    rw [foP, Nat.sub_zero]
    exact (List.eq_nil_of_length_eq_zero (by omega)).symm
  | succ k ih =>
    intro hk
    have h1 : el (fbac xs) k = el (fbP xs (xs.length - (k + 1))) ((fbP xs (xs.length - (k + 1))).length - 1) := by
      rw [fbac, el_fbT xs _ _ (by omega), show xs.length - 1 - k = xs.length - (k + 1) by omega]
    have hl := fbP_len xs (xs.length - (k + 1))
    have h2 : fbP xs (xs.length - k) = backB ((fbP xs (xs.length - (k + 1))).take k) (el (fbP xs (xs.length - (k + 1))) k) := by
      rw [show xs.length - k = xs.length - (k + 1) + 1 by omega, fbP, hl, show xs.length - (xs.length - (k + 1)) - 1 = k by omega]
    rw [show (fbP xs (xs.length - (k + 1))).length - 1 = k by omega] at h1
    rw [foP, ih (by omega), h2, h1, turn_back, ← take_el (by omega), List.take_of_length_le (by omega)]
theorem foat_fbac (xs : List Int) : foat (fbac xs) = xs := by
  rw [foat, fbac_len, foP_fbac xs _ (Nat.le_refl _), Nat.sub_self, fbP]

theorem sid_perm (low : Bool) (x : Int) (v b : List Int) : (tbF low x v b).Perm (b ++ v) := by
  induction v generalizing b with
  | nil => simp [tbF]
  | cons y v ih =>
    cases h : sid low x y
    · rw [tbF_no h]
      simpa using ih (b ++ [y])
    · rw [tbF_yes h]
      have := ih []
      exact ((this.append_left b).cons y).trans (by rw [List.nil_append]; exact List.perm_middle.symm)
theorem turnB_perm (v : List Int) (x : Int) : (turnB v x).Perm v := by
  rw [turnB_F]; exact sid_perm _ _ _ _
theorem foP_perm (xs : List Int) : ∀ k, k ≤ xs.length → (foP xs k).Perm (xs.take k) := by
  intro k
  induction k with
  | zero => intro _; simp [foP]
  | succ k ih =>
    intro hk
    rw [foP, take_el (by omega)]
    exact ((turnB_perm _ _).trans (ih (by omega))).append_right _
theorem foat_perm (xs : List Int) : (foat xs).Perm xs := by
  have := foP_perm xs _ (Nat.le_refl _)
  rwa [List.take_of_length_le (Nat.le_refl _)] at this
/-- What has the values of an order is an order. -/
theorem Valid.perm {xs ys : List Int} (h : Valid xs) (hp : ys.Perm xs) : Valid ys := by
  have hl := hp.length_eq
  have hm : ∀ j, j < ys.length → 0 ≤ el ys j ∧ el ys j < ys.length := fun j hj => by
    rw [hl]; exact h.mem (hp.subset (el_mem hj))
  refine ⟨by rw [hl]; exact h.len, fun j hj => (hm j hj).1, fun j hj => (hm j hj).2, fun i j hij hj => ?_⟩
  have hn := (hp.nodup_iff).2 h.nodup
  rw [List.nodup_iff_pairwise_ne, List.pairwise_iff_getElem] at hn
  have := hn i j (by omega) hj hij
  rwa [← el_lt, ← el_lt] at this
theorem foat_valid {xs : List Int} (h : Valid xs) : Valid (foat xs) := h.perm (foat_perm xs)
theorem fbac_valid {xs : List Int} (h : Valid xs) : Valid (fbac xs) := h.perm (by
  have := foat_perm (fbac xs)
  rw [foat_fbac] at this
  exact this.symm)
theorem foat_last (xs : List Int) (h : 0 < xs.length) : el (foat xs) (xs.length - 1) = el xs (xs.length - 1) := by
  obtain ⟨m, hm⟩ : ∃ m, xs.length = m + 1 := ⟨xs.length - 1, by omega⟩
  rw [foat, hm, foP]
  have := el_app_last (turnB (foP xs m) (el xs m)) (el xs m)
  rw [turnB_len, foP_len] at this
  exact this

/-- Foata's map, reckoned fast. -/
def laF (x : Int) : List Int → Bool → Bool
  | [], b => b
  | y :: v, _ => laF x v (ltb y x)
def foF : List Int → List Int → List Int
  | [], v => v
  | x :: xs, v => foF xs (tbF (laF x v false) x v [] ++ [x])
theorem laF_eq (x : Int) (v : List Int) (b : Bool) : laF x v b = if v.length = 0 then b else lowOf v x := by
  induction v generalizing b with
  | nil => simp [laF]
  | cons y v ih =>
    rw [laF, ih, if_neg (show ¬ (y :: v).length = 0 by simp)]
    cases v with
    | nil => simp [lowOf, el, ltb_eq]
    | cons z v =>
      rw [if_neg (show ¬ (z :: v).length = 0 by simp)]
      have : el (y :: z :: v) ((y :: z :: v).length - 1) = el (z :: v) ((z :: v).length - 1) := by
        rw [show (y :: z :: v).length - 1 = ((z :: v).length - 1) + 1 by simp, el_cons]
      rw [lowOf, lowOf, this]
      simp
theorem laF_low (x : Int) (v : List Int) : laF x v false = lowOf v x := by
  rw [laF_eq]
  split
  · rename_i h
    obtain rfl := List.eq_nil_of_length_eq_zero h
    rfl
  · rfl
theorem foF_drop (xs : List Int) : ∀ d k, k + d = xs.length → foF (xs.drop k) (foP xs k) = foat xs := by
  intro d
  induction d with
  | zero => intro k hk; rw [List.drop_eq_nil_of_le (by omega), foF, foat, show k = xs.length by omega]
  | succ d ih =>
    intro k hk
    rw [drop_cons (by omega), foF, laF_low, ← turnB_F]
    exact ih (k + 1) (by omega)
theorem foF_eq (xs : List Int) : foF xs [] = foat xs := foF_drop xs xs.length 0 (by omega)

/-- Does the number v + 1 stand ahead of v? -/
def befF (v : Int) : List Int → Bool
  | [] => false
  | y :: xs => match eqb y v with
    | true => false
    | false => match eqb y (v + 1) with
      | true => true
      | false => befF v xs
theorem befF_idx (v : Int) (xs : List Int) : ∀ i j, i < xs.length → j < xs.length → el xs i = v → el xs j = v + 1 → (∀ k, k < xs.length → el xs k = v → k = i) → (∀ k, k < xs.length → el xs k = v + 1 → k = j) → befF v xs = decide (j < i) := by
  induction xs with
  | nil => intro i j hi; simp at hi
  | cons y xs ih =>
    intro i j hi hj ei ej ui uj
    rw [befF, eqb_eq, eqb_eq]
    by_cases h1 : y = v
    · have := ui 0 (by simp) (by rw [el_zero]; exact h1)
      simp only [h1, decide_true]
      rw [eq_comm, decide_eq_false_iff_not]; omega
    · by_cases h2 : y = v + 1
      · have := uj 0 (by simp) (by rw [el_zero]; exact h2)
        have h3 : i ≠ 0 := fun e => by rw [e, el_zero] at ei; exact h1 ei
        rw [decide_eq_false h1, decide_eq_true h2]
        simp only
        rw [eq_comm, decide_eq_true_iff]; omega
      · simp only [h1, h2, decide_false]
        cases i with
        | zero => rw [el_zero] at ei; exact absurd ei h1
        | succ i =>
          cases j with
          | zero => rw [el_zero] at ej; exact absurd ej h2
          | succ j =>
            rw [el_cons] at ei ej
            rw [List.length_cons] at hi hj
            rw [ih i j (by omega) (by omega) ei ej (fun k hk e => by have := ui (k + 1) (by simp; omega) (by rw [el_cons]; exact e); omega) (fun k hk e => by have := uj (k + 1) (by simp; omega) (by rw [el_cons]; exact e); omega)]
            simp
def bef2 (xs ys : List Int) : Nat → Bool
  | 0 => true
  | k + 1 => match (befF (Int.ofNat k) xs).xor (befF (Int.ofNat k) ys) with
    | true => false
    | false => bef2 xs ys k
theorem bef2_all {xs ys : List Int} {n : Nat} (h : bef2 xs ys n = true) : ∀ k, k < n → befF (k : Int) xs = befF (k : Int) ys := by
  induction n with
  | zero => intro k hk; omega
  | succ n ih =>
    rw [bef2] at h
    cases e : (befF (Int.ofNat n) xs).xor (befF (Int.ofNat n) ys)
    · rw [e] at h
      intro k hk
      by_cases e2 : k = n
      · rw [e2]
        have : befF (Int.ofNat n) xs = befF (Int.ofNat n) ys := by revert e; cases befF (Int.ofNat n) xs <;> cases befF (Int.ofNat n) ys <;> simp
        exact this
      · exact ih h k (by omega)
    · rw [e] at h; cases h
theorem bef_inv {xs : List Int} (h : Valid xs) {k : Nat} (hk : k + 1 < xs.length) : befF (k : Int) xs = decide (el (inv xs) (k + 1) < el (inv xs) k) := by
  obtain ⟨i, hi, ei, fi⟩ := inv_at h (show k < xs.length by omega)
  obtain ⟨j, hj, ej, fj⟩ := inv_at h hk
  have u : ∀ a b, a < xs.length → b < xs.length → el xs a = el xs b → a = b := fun a b ha hb e => by
    rcases Nat.lt_trichotomy a b with h1 | h1 | h1
    · exact absurd e (h.ne _ _ h1 hb)
    · exact h1
    · exact absurd e.symm (h.ne _ _ h1 ha)
  rw [befF_idx (k : Int) xs i j hi hj ei (by rw [ej]; simp) (fun a ha e => u a i ha hi (by rw [e, ei])) (fun a ha e => u a j ha hj (by rw [e, ej]; simp)), fi, fj]
  simp
theorem dsP_congr {xs ys : List Int} : ∀ k, (∀ j, j < k → decide (el xs (j + 1) < el xs j) = decide (el ys (j + 1) < el ys j)) → dsP xs k = dsP ys k := by
  intro k
  induction k with
  | zero => intro _; rfl
  | succ k ih =>
    intro h
    have h1 := h k (by omega)
    rw [decide_eq_decide] at h1
    rw [dsP, dsP, ih (fun j hj => h j (by omega))]
    by_cases e : el xs (k + 1) < el xs k
    · rw [if_pos e, if_pos (h1.1 e)]
    · rw [if_neg e, if_neg (fun e2 => e (h1.2 e2))]

end Go.Proofs.Ytjphaphnmclbcaa
