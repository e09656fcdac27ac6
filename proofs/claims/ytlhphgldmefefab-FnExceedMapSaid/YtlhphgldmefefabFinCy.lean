/- What circles count: the least values, their lengths, the circles of the inverse, and the places that are fixed. No condition. -/
import Derived.Test.YtlhphgldmefefabMirCy
import Derived.Test.YtlhphgldmefefabMirC
import Derived.Test.YtlhphgldmefefabFinSum
namespace Go.Proofs.Ytlhphgldmefefab

theorem lea_iff {xs : List Int} (h : Valid xs) {x : Int} (hx : 0 ≤ x ∧ x < xs.length) : lea xs x = true ↔ ∀ t, x ≤ itr xs x t := by
  rw [lea, List.all_eq_true]
  constructor
  · intro a t
    have := a _ ((mem_cyc h hx).2 ⟨t, rfl⟩)
    simpa using this
  · intro a z hz
    obtain ⟨t, rfl⟩ := (mem_cyc h hx).1 hz
    simpa using a t

/-- Circles are counted by their least values. -/
theorem ciP_cnt (xs : List Int) : ∀ k, ((ciP xs k).length : Int) = cntP (fun j => lea xs (j : Int)) k := by
  intro k
  induction k with
  | zero => rfl
  | succ k ih =>
    cases e : lea xs (k : Int)
    · rw [ciP_no e, cntP_no (by simpa using e), ih]
    · rw [ciP_yes e, cntP_yes (by simpa using e), List.length_append, List.length_singleton, ← ih]; omega

/-- How many circles, and of how many values, the first k values begin. -/
def walkF (xs : List Int) (x : Int) : Nat → Int → Nat → Option Nat
  | 0, _, _ => none
  | f + 1, y, t => if y = x then some t else if y < x then none else walkF xs x f (el xs y.toNat) (t + 1)
def fcnt (xs : List Int) : Nat → Nat × Nat
  | 0 => (0, 0)
  | k + 1 => match walkF xs k xs.length (el xs k) 1 with
    | some t => ((fcnt xs k).1 + 1, (fcnt xs k).2 + t)
    | none => fcnt xs k

theorem walkF_spec {xs : List Int} (h : Valid xs) {x : Int} (hx : 0 ≤ x ∧ x < xs.length) : ∀ f t, 1 ≤ t → t + f = xs.length + 1 → (∀ s, s < t → x ≤ itr xs x s) → (∀ s, 1 ≤ s → s < t → itr xs x s ≠ x) →
    walkF xs x f (itr xs x t) t = if lea xs x then some (per xs x) else none := by
  have hp := per_spec h hx
  intro f
  induction f with
  | zero =>
    intro t ht hf _ hne
    exact absurd hp.2.2.1 (hne _ hp.1 (by omega))
  | succ f ih =>
    intro t ht hf hge hne
    have htp : t ≤ per xs x := by
      rcases Nat.lt_or_ge (per xs x) t with a | a
      · exact absurd hp.2.2.1 (hne _ hp.1 a)
      · exact a
    rw [walkF]
    by_cases e : itr xs x t = x
    · rw [if_pos e]
      have ep : t = per xs x := by
        rcases Nat.lt_or_ge t (per xs x) with a | a
        · exact absurd e (hp.2.2.2 t ht a)
        · omega
      have hl : lea xs x = true := by
        rw [lea, cyc, List.all_eq_true]
        intro z hz
        obtain ⟨s, hs, rfl⟩ := List.mem_map.1 hz
        have := hge s (by rw [ep]; exact List.mem_range.1 hs)
        simpa using this
      rw [hl, ep]; rfl
    · rw [if_neg e]
      by_cases e2 : itr xs x t < x
      · rw [if_pos e2]
        have hl : lea xs x = false := by
          rw [lea, List.all_eq_false]
          exact ⟨itr xs x t, (mem_cyc h hx).2 ⟨t, rfl⟩, by simp; exact e2⟩
        rw [hl]; rfl
      · rw [if_neg e2]
        have := ih (t + 1) (by omega) (by omega) (fun s hs => by
          by_cases es : s = t
          · rw [es]; omega
          · exact hge s (by omega)) (fun s h1 hs => by
          by_cases es : s = t
          · rw [es]; exact e
          · exact hne s h1 (by omega))
        exact this

/-- How many numbers the first j lists hold, together. -/
def sumLen (yss : List (List Int)) : Nat := (yss.map List.length).sum
theorem sumLen_app (yss : List (List Int)) (ys : List Int) : sumLen (yss ++ [ys]) = sumLen yss + ys.length := by simp [sumLen]
theorem fcnt_spec {xs : List Int} (h : Valid xs) : ∀ k, k ≤ xs.length → fcnt xs k = ((ciP xs k).length, sumLen (ciP xs k)) := by
  intro k
  induction k with
  | zero => intro _; rfl
  | succ k ih =>
    intro hk
    have hki : 0 ≤ (k : Int) ∧ (k : Int) < xs.length := ⟨by omega, by omega⟩
    have h1 := walkF_spec h hki xs.length 1 (Nat.le_refl _) (by omega) (fun s hs => by
      have e : s = 0 := by omega
      rw [e]; exact Int.le_refl _) (fun s h1 h2 => by omega)
    have e1 : itr xs k 1 = el xs k := rfl
    rw [e1] at h1
    rw [fcnt, h1, ih (by omega)]
    cases e : lea xs (k : Int)
    · rw [ciP_no e]; rfl
    · rw [ciP_yes e, sumLen_app, List.length_append, List.length_singleton, cyc_len]; rfl

/-- The circles, one by one: each is that of its least value, and these rise. -/
theorem ciP_at {xs : List Int} (h : Valid xs) : ∀ k, k ≤ xs.length → (∀ j, j < (ciP xs k).length → ∃ x : Nat, x < k ∧ lea xs (x : Int) = true ∧ (ciP xs k).getD j [] = cyc xs (x : Int)) ∧
    (∀ j, j < (ciP xs k).length → 0 < j → el ((ciP xs k).getD (j - 1) []) 0 < el ((ciP xs k).getD j []) 0) := by
  intro k
  induction k with
  | zero => intro _; exact ⟨fun j hj => by simp [ciP] at hj, fun j hj => by simp [ciP] at hj⟩
  | succ k ih =>
    intro hk
    obtain ⟨i1, i2⟩ := ih (by omega)
    cases e : lea xs (k : Int)
    · rw [ciP_no e]
      exact ⟨fun j hj => by obtain ⟨x, a, b, c⟩ := i1 j hj; exact ⟨x, by omega, b, c⟩, i2⟩
    · rw [ciP_yes e]
      have happ : ∀ j, j < (ciP xs k).length → (ciP xs k ++ [cyc xs (k : Int)]).getD j [] = (ciP xs k).getD j [] := fun j hj => by simp [List.getElem?_append_left hj]
      have hlast : (ciP xs k ++ [cyc xs (k : Int)]).getD (ciP xs k).length [] = cyc xs (k : Int) := by simp
      refine ⟨fun j hj => ?_, fun j hj h0 => ?_⟩
      · rw [List.length_append, List.length_singleton] at hj
        by_cases ej : j = (ciP xs k).length
        · rw [ej, hlast]; exact ⟨k, by omega, e, rfl⟩
        · rw [happ j (by omega)]
          obtain ⟨x, a, b, c⟩ := i1 j (by omega); exact ⟨x, by omega, b, c⟩
      · rw [List.length_append, List.length_singleton] at hj
        by_cases ej : j = (ciP xs k).length
        · rw [ej, hlast, happ _ (by omega)]
          obtain ⟨x, a, b, c⟩ := i1 ((ciP xs k).length - 1) (by omega)
          rw [c, el_cyc (by have := (per_spec h (x := (x : Int)) ⟨by omega, by omega⟩).1; omega), el_cyc (by have := (per_spec h (x := (k : Int)) ⟨by omega, by omega⟩).1; omega)]
          show (x : Int) < k
          omega
        · rw [happ j (by omega), happ (j - 1) (by omega)]
          exact i2 j (by omega) h0
theorem cyc_next {xs : List Int} (h : Valid xs) {x : Int} (hx : 0 ≤ x ∧ x < xs.length) {i : Nat} (hi : i < per xs x) : el xs (el (cyc xs x) i).toNat = if i + 1 < per xs x then el (cyc xs x) (i + 1) else el (cyc xs x) 0 := by
  have hp := per_spec h hx
  have e : el xs (itr xs x i).toNat = itr xs x (i + 1) := rfl
  rw [el_cyc hi, e]
  by_cases h1 : i + 1 < per xs x
  · rw [if_pos h1, el_cyc h1]
  · rw [if_neg h1, el_cyc (by omega), show i + 1 = per xs x by omega, hp.2.2.1]; rfl
theorem cyc_head {xs : List Int} (h : Valid xs) {x : Int} (hx : 0 ≤ x ∧ x < xs.length) (hl : lea xs x = true) {i : Nat} (hi : i < per xs x) : el (cyc xs x) 0 ≤ el (cyc xs x) i := by
  have hp := per_spec h hx
  rw [el_cyc hi, el_cyc (by omega)]
  exact (lea_iff h hx).1 hl i

/-- The inverse goes round the same circles. -/
theorem itr_inv {xs : List Int} (h : Valid xs) {x : Int} (hx : 0 ≤ x ∧ x < xs.length) : ∀ t, itr (inv xs) (itr xs x t) t = x := by
  intro t
  induction t with
  | zero => rfl
  | succ t ih =>
    have hb := itr_in h hx t
    have h1 := inv_el h (k := (itr xs x t).toNat) (by omega)
    have e : itr (inv xs) (itr xs x (t + 1)) (t + 1) = itr (inv xs) (itr (inv xs) (itr xs x (t + 1)) 1) t := by rw [Nat.add_comm t 1, itr_add]
    rw [e]
    have e2 : itr (inv xs) (itr xs x (t + 1)) 1 = itr xs x t := by
      show el (inv xs) (el xs (itr xs x t).toNat).toNat = itr xs x t
      rw [h1]; omega
    rw [e2, ih]
theorem cyc_inv {xs : List Int} (h : Valid xs) {x y : Int} (hx : 0 ≤ x ∧ x < xs.length) (hy : y ∈ cyc xs x) : y ∈ cyc (inv xs) x := by
  have hyi := cyc_in h hx hy
  obtain ⟨t, rfl⟩ := (mem_cyc h hx).1 hy
  refine cyc_symm (inv_valid h) (by rw [inv_length]; exact hyi) ?_
  exact (mem_cyc (inv_valid h) (by rw [inv_length]; exact hyi)).2 ⟨t, itr_inv h hx t⟩
theorem lea_inv {xs : List Int} (h : Valid xs) {x : Int} (hx : 0 ≤ x ∧ x < xs.length) : lea (inv xs) x = lea xs x := by
  rw [Bool.eq_iff_iff, lea, lea, List.all_eq_true, List.all_eq_true]
  have hx' : 0 ≤ x ∧ x < (inv xs).length := by rw [inv_length]; exact hx
  constructor
  · intro a z hz; exact a z (cyc_inv h hx hz)
  · intro a z hz
    have := cyc_inv (inv_valid h) hx' hz
    rw [inv_inv h] at this
    exact a z this
theorem circles_inv {xs : List Int} (h : Valid xs) : (circles (inv xs)).length = (circles xs).length := by
  have e : ∀ k, k ≤ xs.length → (ciP (inv xs) k).length = (ciP xs k).length := by
    intro k
    induction k with
    | zero => intro _; rfl
    | succ k ih =>
      intro hk
      have h1 := lea_inv h (x := (k : Int)) ⟨by omega, by omega⟩
      cases e : lea xs (k : Int)
      · rw [ciP_no e, ciP_no (by rw [h1, e]), ih (by omega)]
      · rw [ciP_yes e, ciP_yes (by rw [h1, e]), List.length_append, List.length_append, ih (by omega)]; rfl
  rw [circles, circles, inv_length]
  exact e _ (Nat.le_refl _)

/-- How many of the first k circles have one value. -/
def oneP (yss : List (List Int)) (k : Nat) : Int := cntP (fun j => decide ((yss.getD j []).length = 1)) k
theorem fixed_one {xs : List Int} (h : Valid xs) : oneP (circles xs) (circles xs).length = (fixed xs).length := by
  have e : ∀ k, k ≤ xs.length → oneP (ciP xs k) (ciP xs k).length = (plP fixF xs k).length := by
    intro k
    induction k with
    | zero => intro _; rfl
    | succ k ih =>
      intro hk
      have hki : 0 ≤ (k : Int) ∧ (k : Int) < xs.length := ⟨by omega, by omega⟩
      have hp := per_spec h hki
      have e1 : itr xs k 1 = el xs k := rfl
      have ih' := ih (by omega)
      by_cases e : el xs k = k
      · have hper : per xs k = 1 := by
          rcases Nat.lt_or_ge 1 (per xs k) with a | a
          · exact absurd (e1.trans e) (hp.2.2.2 1 (Nat.le_refl _) a)
          · omega
        have hl : lea xs (k : Int) = true := by
          rw [lea, cyc, hper]; simp [itr]
        rw [ciP_yes hl, plP_yes (by simp [fixF, e]), List.length_append, List.length_append, List.length_singleton, List.length_singleton]
        unfold oneP at ih' ⊢
        rw [cntP_yes (by simp [cyc_len, hper])]
        have e2 : cntP (fun j => decide (((ciP xs k ++ [cyc xs (k : Int)]).getD j []).length = 1)) (ciP xs k).length = cntP (fun j => decide (((ciP xs k).getD j []).length = 1)) (ciP xs k).length := by
          rw [cntP_S, cntP_S]
          exact S_congr _ (fun j hj => by simp [ind, List.getElem?_append_left hj])
        rw [e2, ih']; omega
      · rw [plP_no (by simp [fixF, e])]
        have hper : per xs k ≠ 1 := fun a => e (by have := hp.2.2.1; rw [a] at this; exact this)
        cases hl : lea xs (k : Int)
        · rw [ciP_no hl, ih']
        · rw [ciP_yes hl, List.length_append, List.length_singleton]
          unfold oneP at ih' ⊢
          rw [cntP_no (by simp [cyc_len, hper])]
          have e2 : cntP (fun j => decide (((ciP xs k ++ [cyc xs (k : Int)]).getD j []).length = 1)) (ciP xs k).length = cntP (fun j => decide (((ciP xs k).getD j []).length = 1)) (ciP xs k).length := by
            rw [cntP_S, cntP_S]
            exact S_congr _ (fun j hj => by simp [ind, List.getElem?_append_left hj])
          rw [e2, ih']
  exact e _ (Nat.le_refl _)
theorem fixed_inv {xs : List Int} (h : Valid xs) : fixed (inv xs) = fixed xs := by
  have e : ∀ k, k ≤ xs.length → plP fixF (inv xs) k = plP fixF xs k := by
    intro k
    induction k with
    | zero => intro _; rfl
    | succ k ih =>
      intro hk
      have e1 : fixF k (el (inv xs) k) = fixF k (el xs k) := by
        unfold fixF
        rw [decide_eq_decide]
        obtain ⟨j, hj, h1, h2⟩ := inv_at h (v := k) (by omega)
        constructor
        · intro a
          have : j = k := by omega
          rw [this] at h1; exact h1
        · intro a
          have := inv_el h (k := k) (by omega)
          rw [a, Int.toNat_natCast] at this
          exact this
      rw [plP, plP, e1, ih (by omega)]
  rw [fixed, fixed, inv_length]
  exact e _ (Nat.le_refl _)

end Go.Proofs.Ytlhphgldmefefab
