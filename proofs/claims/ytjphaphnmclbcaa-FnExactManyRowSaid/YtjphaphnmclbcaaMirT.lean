/- The order of a table: the values that are left, in their order. No condition. -/
import Derived.Test.YtjphaphnmclbcaaFinInv
namespace Go.Proofs.Ytjphaphnmclbcaa

/-- The values that are left behind the first k places. -/
def leP (ts : List Int) : Nat → List Int
  | 0 => rise ts.length
  | k + 1 => (leP ts k).eraseIdx (el ts k).toNat
def ordT (ts : List Int) : List Int := (List.range ts.length).map fun k => el (leP ts k) (el ts k).toNat

theorem rise_pw (n : Nat) : (rise n).Pairwise (· < ·) := by
  rw [rise, List.pairwise_map]
  exact List.pairwise_lt_range.imp (fun h => by omega)
theorem rise_mem {n : Nat} {x : Int} : x ∈ rise n ↔ 0 ≤ x ∧ x < n := by
  rw [rise, List.mem_map]
  constructor
  · rintro ⟨k, hk, rfl⟩
    have := List.mem_range.1 hk
    omega
  · rintro ⟨h1, h2⟩
    exact ⟨x.toNat, List.mem_range.2 (by omega), by omega⟩
theorem leP_sub (ts : List Int) (k : Nat) : (leP ts k).Sublist (rise ts.length) := by
  induction k with
  | zero => exact List.Sublist.refl _
  | succ k ih => exact (List.eraseIdx_sublist _ _).trans ih
theorem leP_pw (ts : List Int) (k : Nat) : (leP ts k).Pairwise (· < ·) := (rise_pw _).sublist (leP_sub ts k)
theorem leP_mem {ts : List Int} {k : Nat} {x : Int} (h : x ∈ leP ts k) : 0 ≤ x ∧ x < ts.length := rise_mem.1 ((leP_sub ts k).subset h)
theorem vt_nat {ts : List Int} (h : VT ts) {k : Nat} (hk : k < ts.length) : ((el ts k).toNat : Int) = el ts k ∧ (el ts k).toNat + k < ts.length := by
  have h1 := h.lo k hk
  have h2 := h.hi k hk
  omega
theorem leP_len {ts : List Int} (h : VT ts) : ∀ k, k ≤ ts.length → (leP ts k).length = ts.length - k := by
  intro k
  induction k with
  | zero => intro _; simp [leP, rise_len]
  | succ k ih =>
    intro hk
    have h1 := ih (by omega)
    have h2 := vt_nat h (k := k) (by omega)
    rw [leP, List.length_eraseIdx, if_pos (by omega), h1]
    omega

/-- How many numbers of a list are less than x. -/
def less (L : List Int) (x : Int) : Nat := L.countP fun y => decide (y < x)
theorem less_succ (L : List Int) (x : Int) : less L (x + 1) = less L x + L.count x := by
  induction L with
  | nil => rfl
  | cons a l ih =>
    unfold less at *
    rw [List.countP_cons, List.countP_cons, ih, List.count_cons]
    by_cases h1 : a < x
    · have h2 : a < x + 1 := by omega
      have h3 : ¬ a = x := by omega
      simp [h1, h2, h3]; omega
    · by_cases h3 : a = x
      · subst h3
        have h2 : a < a + 1 := by omega
        simp [h2]; omega
      · have h2 : ¬ a < x + 1 := by omega
        simp [h1, h2, h3]
theorem erase_perm {L : List Int} {i : Nat} (hi : i < L.length) : (L[i] :: L.eraseIdx i).Perm L := by
  have e : L = L.take i ++ L[i] :: L.drop (i + 1) := by
    rw [← List.drop_eq_getElem_cons hi, List.take_append_drop]
  have h := (List.perm_middle (a := L[i]) (l₁ := L.take i) (l₂ := L.drop (i + 1))).symm
  rw [← e, ← List.eraseIdx_eq_take_drop_succ] at h
  exact h
theorem pw_nodup {L : List Int} (h : L.Pairwise (· < ·)) : L.Nodup := h.imp (fun h => by omega)
theorem less_in {L : List Int} (h : L.Pairwise (· < ·)) {x : Int} (hx : x ∈ L) : less L (x + 1) = less L x + 1 := by
  rw [less_succ, List.Nodup.count (pw_nodup h), if_pos hx]
theorem less_out {L : List Int} {x : Int} (hx : x ∉ L) : less L (x + 1) = less L x := by
  rw [less_succ, List.count_eq_zero_of_not_mem hx]; rfl
theorem less_none {L : List Int} {x : Int} (h : ∀ y ∈ L, x ≤ y) : less L x = 0 := by
  rw [less, List.countP_eq_zero]
  intro y hy
  have := h y hy
  simp; omega
theorem less_all {L : List Int} {x : Int} (h : ∀ y ∈ L, y < x) : less L x = L.length := by
  rw [less, List.countP_eq_length]
  intro y hy
  simpa using h y hy
theorem less_at {L : List Int} (h : L.Pairwise (· < ·)) : ∀ i, i < L.length → less L (el L i) = i := by
  induction L with
  | nil => intro i hi; simp at hi
  | cons a l ih =>
    intro i hi
    rw [List.pairwise_cons] at h
    cases i with
    | zero =>
      refine less_none (fun y hy => ?_)
      have e : el (a :: l) 0 = a := rfl
      rw [e]
      rcases List.mem_cons.1 hy with rfl | hy
      · omega
      · have := h.1 y hy; omega
    | succ i =>
      have e : el (a :: l) (i + 1) = el l i := by simp [el]
      have hi' : i < l.length := by simpa using hi
      have ha := h.1 (el l i) (el_mem hi')
      rw [e]
      have := ih h.2 i hi'
      unfold less at *
      rw [List.countP_cons, this]
      simp [ha]
theorem less_find {L : List Int} (h : L.Pairwise (· < ·)) {x : Int} (hx : x ∈ L) : less L x < L.length ∧ el L (less L x) = x := by
  obtain ⟨i, hi, rfl⟩ := List.mem_iff_getElem.1 hx
  have e : el L i = L[i] := el_lt hi
  have := less_at h i hi
  rw [e] at this
  rw [this]
  exact ⟨hi, e⟩
theorem less_perm {L M : List Int} (h : L.Perm M) (x : Int) : less L x = less M x := h.countP_eq _
theorem erase_mem {L : List Int} (h : L.Nodup) {i : Nat} (hi : i < L.length) {y : Int} : y ∈ L.eraseIdx i ↔ y ∈ L ∧ y ≠ el L i := by
  have hp : (el L i :: L.eraseIdx i).Perm L := by rw [el_lt hi]; exact erase_perm hi
  have hn : (el L i :: L.eraseIdx i).Nodup := hp.nodup_iff.2 h
  rw [List.nodup_cons] at hn
  rw [← hp.mem_iff, List.mem_cons]
  constructor
  · intro hy
    exact ⟨Or.inr hy, fun e => hn.1 (e ▸ hy)⟩
  · rintro ⟨h1, h2⟩
    exact h1.resolve_left h2

theorem ordT_len (ts : List Int) : (ordT ts).length = ts.length := by simp [ordT]
theorem el_ordT {ts : List Int} {k : Nat} (h : k < ts.length) : el (ordT ts) k = el (leP ts k) (el ts k).toNat := by rw [ordT, el_map h]

theorem drop_el {xs : List Int} {k : Nat} (h : k < xs.length) : xs.drop k = el xs k :: xs.drop (k + 1) := by
  rw [List.drop_eq_getElem_cons h, el_lt h]
theorem leP_step {ts : List Int} (h : VT ts) {k : Nat} (hk : k < ts.length) : (el (ordT ts) k :: leP ts (k + 1)).Perm (leP ts k) := by
  have h1 := vt_nat h hk
  have h2 := leP_len h k (by omega)
  rw [el_ordT hk, leP, el_lt (by omega)]
  exact erase_perm _
theorem ordT_drop {ts : List Int} (h : VT ts) : ∀ m, m ≤ ts.length → ((ordT ts).drop (ts.length - m)).Perm (leP ts (ts.length - m)) := by
  intro m
  induction m with
  | zero =>
    intro _
    have h1 := leP_len h ts.length (Nat.le_refl _)
    have h2 : leP ts ts.length = [] := List.eq_nil_of_length_eq_zero (by omega)
    rw [Nat.sub_zero, h2, List.drop_eq_nil_of_le (by rw [ordT_len]; omega)]
  | succ m ih =>
    intro hm
    have hk : ts.length - (m + 1) < ts.length := by omega
    have e : ts.length - (m + 1) + 1 = ts.length - m := by omega
    rw [drop_el (by rw [ordT_len]; omega), e]
    have := leP_step h hk
    rw [e] at this
    exact ((ih (by omega)).cons _).trans this
theorem ordT_perm {ts : List Int} (h : VT ts) {k : Nat} (hk : k ≤ ts.length) : ((ordT ts).drop k).Perm (leP ts k) := by
  have := ordT_drop h (ts.length - k) (by omega)
  rwa [show ts.length - (ts.length - k) = k by omega] at this

/-- How many of the numbers behind place k are less: as the table has it. -/
theorem cnt_less (xs : List Int) (x : Int) (b : Nat) : ∀ t, b + t ≤ xs.length → cntP (fun j => decide (el xs (b + j) < x)) t = less ((xs.drop b).take t) x := by
  intro t
  induction t with
  | zero => intro _; simp [cntP, less]
  | succ t ih =>
    intro ht
    have e : (xs.drop b).take (t + 1) = (xs.drop b).take t ++ [el xs (b + t)] := by
      rw [take_el (by simp; omega)]
      congr 1
      simp [el]
    rw [cntP, ih (by omega), e, less, less, List.countP_append, List.countP_singleton]
    split <;> simp
theorem lb_less {xs : List Int} {k : Nat} (hk : k < xs.length) : lb xs k = less (xs.drop (k + 1)) (el xs k) := by
  rw [lb, lbP, cnt_less xs (el xs k) (k + 1) (xs.length - 1 - k) (by omega), List.take_of_length_le (by simp; omega)]

theorem table_ordT {ts : List Int} (h : VT ts) : table (ordT ts) = ts := by
  refine ext_el (by rw [table_len, ordT_len]) (fun k hk => ?_)
  rw [table_len, ordT_len] at hk
  have h1 := vt_nat h hk
  have h2 := leP_len h k (by omega)
  have hlt : (el ts k).toNat < (leP ts k).length := by omega
  rw [el_table (by rw [ordT_len]; exact hk), lb_less (by rw [ordT_len]; exact hk), less_perm (ordT_perm h (by omega)) _]
  have e1 := less_perm (leP_step h hk) (el (ordT ts) k)
  have e2 : less (el (ordT ts) k :: leP ts (k + 1)) (el (ordT ts) k) = less (leP ts (k + 1)) (el (ordT ts) k) := by
    unfold less
    rw [List.countP_cons]
    simp
  rw [e2] at e1
  rw [e1, el_ordT hk, less_at (leP_pw ts k) _ hlt]
  exact h1.1

theorem ordT_valid {ts : List Int} (h : VT ts) : Valid (ordT ts) := by
  have hp := ordT_perm h (Nat.zero_le _)
  rw [List.drop_zero] at hp
  have hl := ordT_len ts
  have hn : (ordT ts).Nodup := hp.nodup_iff.2 (pw_nodup (rise_pw _))
  have hm : ∀ j, j < (ordT ts).length → 0 ≤ el (ordT ts) j ∧ el (ordT ts) j < ts.length := fun j hj => rise_mem.1 (hp.mem_iff.1 (el_mem hj))
  refine ⟨by rw [hl]; exact h.len, fun j hj => (hm j hj).1, fun j hj => by rw [hl]; exact (hm j hj).2, fun i j hij hj e => ?_⟩
  rw [el_lt (by omega), el_lt hj] at e
  have := (List.nodup_iff_pairwise_ne.1 hn)
  rw [List.pairwise_iff_getElem] at this
  exact this i j (by omega) hj hij e

theorem table_vt {xs : List Int} (h : Valid xs) : VT (table xs) := by
  refine ⟨by rw [table_len]; exact h.len, fun j hj => ?_, fun j hj => ?_⟩
  · exact (table_bd xs j hj).1
  · rw [table_len] at hj ⊢
    rw [el_table hj]
    have := lbP_bd xs j (xs.length - 1 - j)
    unfold lb
    omega

theorem valid_perm {xs : List Int} (h : Valid xs) : xs.Perm (rise xs.length) := by
  refine (List.perm_ext_iff_of_nodup h.nodup (pw_nodup (rise_pw _))).2 (fun x => ?_)
  rw [rise_mem]
  constructor
  · intro hx; exact h.mem hx
  · rintro ⟨h0, h1⟩
    obtain ⟨j, hj, e⟩ := h.place (v := x.toNat) (by omega)
    have e2 : el xs j = x := by omega
    exact e2 ▸ el_mem hj

theorem leP_table {xs : List Int} (h : Valid xs) : ∀ k, k ≤ xs.length → (leP (table xs) k).Perm (xs.drop k) ∧ ∀ j, j < k → el (leP (table xs) j) (el (table xs) j).toNat = el xs j := by
  intro k
  induction k with
  | zero =>
    intro _
    refine ⟨?_, fun j hj => by omega⟩
    rw [leP, table_len, List.drop_zero]
    exact (valid_perm h).symm
  | succ k ih =>
    intro hk
    obtain ⟨hp, hj⟩ := ih (by omega)
    have hx : el xs k ∈ leP (table xs) k := hp.mem_iff.2 (by rw [drop_el (by omega)]; simp)
    have e : less (leP (table xs) k) (el xs k) = (el (table xs) k).toNat := by
      rw [less_perm hp, drop_el (by omega), el_table (by omega), lb_less (by omega)]
      unfold less
      rw [List.countP_cons]
      simp
    have hf := less_find (leP_pw (table xs) k) hx
    rw [e] at hf
    refine ⟨?_, fun j hjk => ?_⟩
    · rw [leP]
      have h1 : (el xs k :: (leP (table xs) k).eraseIdx (el (table xs) k).toNat).Perm (leP (table xs) k) := by
        have := erase_perm hf.1
        rwa [← el_lt hf.1, hf.2] at this
      have h2 := h1.trans hp
      rw [drop_el (xs := xs) (k := k) (by omega)] at h2
      exact (List.perm_cons _).1 h2
    · by_cases e2 : j = k
      · rw [e2]; exact hf.2
      · exact hj j (by omega)
theorem ordT_table {xs : List Int} (h : Valid xs) : ordT (table xs) = xs := by
  refine ext_el (by rw [ordT_len, table_len]) (fun k hk => ?_)
  rw [ordT_len, table_len] at hk
  rw [el_ordT (by rw [table_len]; exact hk)]
  exact (leP_table h xs.length (Nat.le_refl _)).2 k hk

end Go.Proofs.Ytjphaphnmclbcaa
