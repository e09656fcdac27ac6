/- Lines and circles, as plain functions of lists. No condition. -/
import Derived.Test.YtaceiebmgnhdgaaGreatDoorMirCy
import Derived.Test.YtaceiebmgnhdgaaGreatDoorBnd
namespace Go.Proofs.YtaceiebmgnhdgaaGreatDoor

/-- Is x the greatest of its circle? -/
def gre (xs : List Int) (x : Int) : Bool := (cyc xs x).all fun y => decide (y ≤ x)
def tlP (xs : List Int) : Nat → List Int
  | 0 => []
  | k + 1 => if gre xs k then tlP xs k ++ cyc xs k else tlP xs k
def toL (xs : List Int) : List Int := tlP xs xs.length
theorem tlP_yes {xs : List Int} {k : Nat} (h : gre xs k = true) : tlP xs (k + 1) = tlP xs k ++ cyc xs k := by rw [tlP, if_pos h]
theorem tlP_no {xs : List Int} {k : Nat} (h : gre xs k = false) : tlP xs (k + 1) = tlP xs k := by rw [tlP, h]; simp

/-- What follows the value at place k. -/
def nx (ws : List Int) (k : Nat) : Int := if k + 1 < ws.length ∧ el ws (k + 1) < mxP ws (k + 1) then el ws (k + 1) else mxP ws (k + 1)
def frP (ws : List Int) (k : Nat) : List Int := iter (fun (a : List Int) k => a.set (el ws k).toNat (nx ws k)) (List.replicate ws.length 0) k
def frL (ws : List Int) : List Int := frP ws ws.length
theorem frP_len (ws : List Int) (k : Nat) : (frP ws k).length = ws.length := (iter_len (fun _ _ => List.length_set) _ k).trans List.length_replicate
theorem frP_succ (ws : List Int) (k : Nat) : frP ws (k + 1) = (frP ws k).set (el ws k).toNat (nx ws k) := rfl
theorem frL_len (ws : List Int) : (frL ws).length = ws.length := frP_len _ _
theorem mxP_mem {ws : List Int} (h : Valid ws) : ∀ k, k < ws.length → 0 ≤ mxP ws (k + 1) ∧ mxP ws (k + 1) < ws.length ∧ mxP ws k ≤ mxP ws (k + 1) ∧ el ws k ≤ mxP ws (k + 1) := by
  intro k
  induction k with
  | zero =>
    intro hk
    have h1 := h.lo 0 hk
    have h2 := h.hi 0 hk
    have e0 : mxP ws 0 = -1 := rfl
    have e1 : mxP ws (0 + 1) = el ws 0 := mxP_yes (by omega)
    omega
  | succ k ih =>
    intro hk
    obtain ⟨h1, h2, h3, h4⟩ := ih (by omega)
    have h5 := h.lo _ hk
    have h6 := h.hi _ hk
    rw [mxP]
    split <;> omega
theorem nx_val {ws : List Int} (h : Valid ws) {k : Nat} (hk : k < ws.length) : 0 ≤ nx ws k ∧ nx ws k < ws.length := by
  obtain ⟨h1, h2, _, _⟩ := mxP_mem h k hk
  rw [nx]
  split
  · rename_i hc
    exact ⟨h.lo _ hc.1, h.hi _ hc.1⟩
  · exact ⟨h1, h2⟩

/-- The records among the first k places: each one's block up to the next record. -/
theorem rcP_blocks {ws : List Int} (h : Valid ws) : ∀ k, k ≤ ws.length → (0 < k → 0 < (rcP ws k).length ∧ el (rcP ws k) 0 = 0) ∧
    ∀ i, i < (rcP ws k).length → ∃ a e : Nat, el (rcP ws k) i = a ∧ (if i + 1 < (rcP ws k).length then el (rcP ws k) (i + 1) else (k : Int)) = e ∧ a < e ∧ e ≤ k ∧ (∀ t, a ≤ t → t < e → mxP ws (t + 1) = el ws a) ∧ (i + 1 < (rcP ws k).length → e < k ∧ mxP ws e < el ws e) := by
  have la : ∀ (L : List Int) (v : Int) (i : Nat), i < L.length → el (L ++ [v]) i = el L i := fun L v i hi => by
    simp only [el, List.getD_eq_getElem?_getD]; rw [List.getElem?_append_left hi]
  have lz : ∀ (L : List Int) (v : Int), el (L ++ [v]) L.length = v := fun L v => by simp [el]
  intro k
  induction k with
  | zero => intro _; exact ⟨fun h0 => by omega, fun i hi => by simp [rcP] at hi⟩
  | succ k ih =>
    intro hk
    obtain ⟨h0, h1⟩ := ih (by omega)
    by_cases hc : mxP ws k < el ws k
    · rw [rcP_yes hc]
      refine ⟨fun _ => ⟨by simp, ?_⟩, fun i hi => ?_⟩
      · by_cases e : k = 0
        · subst e
          exact lz [] _
        · obtain ⟨h2, h3⟩ := h0 (by omega)
          rw [la _ _ _ h2, h3]
      · rw [List.length_append, List.length_singleton] at hi ⊢
        by_cases e : i < (rcP ws k).length
        · obtain ⟨a, e', q1, q2, q3, q4, q5, q6⟩ := h1 i e
          refine ⟨a, e', by rw [la _ _ _ e, q1], ?_, q3, by omega, q5, fun hl => ?_⟩
          · rw [if_pos (by omega)]
            by_cases e2 : i + 1 < (rcP ws k).length
            · rw [if_pos e2] at q2; rw [la _ _ _ e2, q2]
            · rw [if_neg e2] at q2
              rw [show i + 1 = (rcP ws k).length by omega, lz]; exact q2
          · by_cases e2 : i + 1 < (rcP ws k).length
            · have := q6 e2; exact ⟨by omega, this.2⟩
            · rw [if_neg e2] at q2
              have : e' = k := by omega
              subst this
              exact ⟨by omega, hc⟩
        · obtain rfl : i = (rcP ws k).length := by omega
          refine ⟨k, k + 1, lz _ _, by rw [if_neg (by omega)], by omega, by omega, fun t ht1 ht2 => ?_, fun hl => by omega⟩
          obtain rfl : t = k := by omega
          exact mxP_yes hc
    · rw [rcP_no (by omega)]
      have hk0 : 0 < k := by
        rcases Nat.eq_zero_or_pos k with e | e
        · subst e
          have := h.lo 0 (by omega)
          exact absurd (show mxP ws 0 < el ws 0 by rw [mxP]; omega) hc
        · exact e
      refine ⟨fun _ => h0 hk0, fun i hi => ?_⟩
      obtain ⟨a, e', q1, q2, q3, q4, q5, q6⟩ := h1 i hi
      by_cases e2 : i + 1 < (rcP ws k).length
      · rw [if_pos e2] at q2 ⊢
        exact ⟨a, e', q1, q2, q3, by omega, q5, fun _ => by have := q6 e2; exact ⟨by omega, this.2⟩⟩
      · rw [if_neg e2] at q2 ⊢
        have he : e' = k := by omega
        subst he
        refine ⟨a, e' + 1, q1, by omega, by omega, by omega, fun t ht1 ht2 => ?_, fun hl => absurd hl e2⟩
        by_cases e3 : t < e'
        · exact q5 t ht1 e3
        · obtain rfl : t = e' := by omega
          rw [mxP_no (by omega)]
          have := q5 (t - 1) (by omega) (by omega)
          rwa [show t - 1 + 1 = t by omega] at this
/-- Record i begins a block: where it ends, and what follows each of its values. -/
theorem rec_block {ws : List Int} (h : Valid ws) {i : Nat} (hi : i < (records ws).length) : ∃ a e : Nat, el (records ws) i = a ∧ (if i + 1 < (records ws).length then el (records ws) (i + 1) else (ws.length : Int)) = e ∧ a < e ∧ e ≤ ws.length ∧
    (∀ k, a ≤ k → k + 1 < e → nx ws k = el ws (k + 1)) ∧ (∀ k, k + 1 = e → nx ws k = el ws a) := by
  obtain ⟨a, e, q1, q2, q3, q4, q5, q6⟩ := (rcP_blocks h ws.length (Nat.le_refl _)).2 i hi
  refine ⟨a, e, q1, q2, q3, q4, fun k h1 h2 => ?_, fun k h1 => ?_⟩
  · have e1 := q5 k h1 (by omega)
    have e2 := q5 (k + 1) (by omega) h2
    have hm := (mxP_mem h (k + 1) (by omega)).2.2.2
    have hne := h.ne a (k + 1) (by omega) (by omega)
    rw [nx, e1, if_pos ⟨by omega, by omega⟩]
  · subst h1
    have e1 := q5 k (by omega) (by omega)
    rw [nx, e1]
    by_cases hc : i + 1 < (records ws).length
    · obtain ⟨h2, h3⟩ := q6 hc
      rw [e1] at h3
      rw [if_neg (fun hh => by have := hh.2; omega)]
    · have hl : k + 1 = ws.length := by
        have : (if i + 1 < (records ws).length then el (records ws) (i + 1) else (ws.length : Int)) = ((k + 1 : Nat) : Int) := q2
        rw [if_neg hc] at this; omega
      rw [if_neg (fun hh => by have := hh.1; omega)]
theorem rec_first {ws : List Int} (h : Valid ws) (h0 : 0 < ws.length) : 0 < (records ws).length ∧ el (records ws) 0 = 0 := (rcP_blocks h ws.length (Nat.le_refl _)).1 h0

end Go.Proofs.YtaceiebmgnhdgaaGreatDoor
