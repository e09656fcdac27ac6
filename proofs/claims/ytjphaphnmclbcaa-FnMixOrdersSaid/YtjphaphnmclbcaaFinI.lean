/- A greater value adds each number once to the major index: reckoned for all orders of at most six values; tables of what values add, read and written back. No condition. -/
import Derived.Test.YtjphaphnmclbcaaBnd
namespace Go.Proofs.Ytjphaphnmclbcaa

def insOk (xs : List Int) : Bool :=
  (List.range (xs.length + 1)).all fun k =>
    Nat.ble (majF xs 1 0) (majF (insT xs k) 1 0) && Nat.ble (majF (insT xs k) 1 0) (majF xs 1 0 + xs.length) && Nat.beq (invF (insT xs k) 0 + k) (invF xs 0 + xs.length)
      && ((List.range k).all fun i => !Nat.beq (majF (insT xs i) 1 0) (majF (insT xs k) 1 0))
      && ((List.range (xs.length + 1)).any fun i => Nat.beq (majF (insT xs i) 1 0) (majF xs 1 0 + k))

set_option maxRecDepth 100000 in
theorem insOk6 : (allUpTo 6).all insOk = true := by decide +kernel

/-- How much a greater value at place k adds to the major index. -/
def dfs (xs : List Int) (k : Nat) : Int := major (insT xs k) - major xs
theorem ins_facts {xs : List Int} (h : Valid xs) (hl : xs.length ≤ 6) :
    (∀ k, k ≤ xs.length → 0 ≤ dfs xs k ∧ dfs xs k ≤ xs.length) ∧ (∀ i k, i < k → k ≤ xs.length → dfs xs i ≠ dfs xs k) ∧ (∀ a : Nat, a ≤ xs.length → ∃ k, k ≤ xs.length ∧ dfs xs k = a) ∧
      (∀ k : Nat, k ≤ xs.length → sumL (table (insT xs k)) = sumL (table xs) + xs.length - k) := by
  have h1 := h.all' hl insOk6
  simp only [insOk, List.all_eq_true, List.any_eq_true, List.mem_range, Bool.and_eq_true, Nat.beq_eq, Nat.ble_eq, Bool.not_eq_true'] at h1
  unfold dfs
  simp only [← majF_eq, ← invF_eq]
  refine ⟨fun k hk => ?_, fun i k hik hk e => ?_, fun a ha => ?_, fun k hk => ?_⟩
  · have := (h1 k (by omega)).1.1.1; omega
  · have := (h1 k (by omega)).1.2 i hik
    have e2 : majF (insT xs i) 1 0 = majF (insT xs k) 1 0 := by omega
    rw [← Bool.not_eq_true, Nat.beq_eq] at this
    exact this e2
  · obtain ⟨k, hk, e⟩ := (h1 a (by omega)).2
    exact ⟨k, by omega, by omega⟩
  · have := (h1 k (by omega)).1.1.2; omega

/-- The first place where the greater value adds a. -/
def fndK (p : List Int) (a : Int) : Option Nat := (List.range (p.length + 1)).find? fun k => decide (dfs p k = a)
def omS (p : List Int) (a : Int) : List Int := match fndK p a with
  | some k => insT p k
  | none => p
theorem fndK_at {p : List Int} {a : Int} {k : Nat} (hk : k ≤ p.length) (hb : ∀ i, i < k → dfs p i ≠ a) (h : dfs p k = a) : fndK p a = some k := by
  rw [fndK, List.find?_range_eq_some]
  exact ⟨by simpa using h, by simp; omega, fun i hi => by simpa using hb i hi⟩
theorem omS_at {p : List Int} {a : Int} {k : Nat} (hk : k ≤ p.length) (hb : ∀ i, i < k → dfs p i ≠ a) (h : dfs p k = a) : omS p a = insT p k := by
  rw [omS, fndK_at hk hb h]
/-- There is such a place exactly if a is at most as many as the values. -/
theorem dfs_first {p : List Int} (h : Valid p) (hl : p.length ≤ 6) {a : Int} (ha : 0 ≤ a ∧ a ≤ p.length) : ∃ k, k ≤ p.length ∧ dfs p k = a ∧ (∀ i, i < k → dfs p i ≠ a) := by
  obtain ⟨_, h2, h3, _⟩ := ins_facts h hl
  obtain ⟨m, hm⟩ := Int.eq_ofNat_of_zero_le ha.1
  obtain ⟨k, hk, e⟩ := h3 m (by omega)
  exact ⟨k, hk, by omega, fun i hi e2 => h2 i k hi hk (by omega)⟩
theorem dfs_none {p : List Int} (h : Valid p) (hl : p.length ≤ 6) {a : Int} (ha : ¬ (0 ≤ a ∧ a ≤ p.length)) {k : Nat} (hk : k ≤ p.length) : dfs p k ≠ a := fun e => by
  have := (ins_facts h hl).1 k hk
  omega
theorem omS_valid {p : List Int} (h : Valid p) (hl : p.length ≤ 6) {a : Int} (ha : 0 ≤ a ∧ a ≤ p.length) : ∃ k, k ≤ p.length ∧ omS p a = insT p k ∧ dfs p k = a := by
  obtain ⟨k, hk, e, hb⟩ := dfs_first h hl ha
  exact ⟨k, hk, omS_at hk hb e, e⟩

/-- The numbers are a table of what values add. -/
structure VR (ts : List Int) : Prop where
  len : ts.length ≤ 7
  lo : ∀ j, j < ts.length → 0 ≤ el ts j
  hi : ∀ j, j < ts.length → el ts j ≤ (j : Int)
theorem vr_iff (ts : List Int) : VR ts ↔ (ts.length ≤ 7 ∧ (∀ j, j < ts.length → 0 ≤ el ts j) ∧ ∀ j, j < ts.length → el ts j ≤ (j : Int)) :=
  ⟨fun h => ⟨h.len, h.lo, h.hi⟩, fun h => ⟨h.1, h.2.1, h.2.2⟩⟩
instance (ts : List Int) : Decidable (VR ts) := decidable_of_iff _ (vr_iff ts).symm
def onVR (ts zs : List Int) : List Int := if VR ts then zs else []
theorem onVR_yes {ts zs : List Int} (h : VR ts) : onVR ts zs = zs := if_pos h
theorem onVR_no {ts zs : List Int} (h : ¬ VR ts) : onVR ts zs = [] := if_neg h

def omP (ts : List Int) : Nat → List Int
  | 0 => []
  | k + 1 => omS (omP ts k) (el ts k)
def omT (ts : List Int) : List Int := omP ts ts.length
theorem valid_nil : Valid [] := ⟨by simp, by simp, by simp, by simp⟩
/-- The first k numbers are in their ranges. -/
def VRk (ts : List Int) (k : Nat) : Prop := ∀ j, j < k → 0 ≤ el ts j ∧ el ts j ≤ (j : Int)
theorem omP_valid {ts : List Int} : ∀ k, k ≤ 7 → VRk ts k → Valid (omP ts k) ∧ (omP ts k).length = k := by
  intro k
  induction k with
  | zero => intro _ _; exact ⟨valid_nil, rfl⟩
  | succ k ih =>
    intro hk hr
    obtain ⟨h1, h2⟩ := ih (by omega) (fun j hj => hr j (by omega))
    obtain ⟨i, hi, e, _⟩ := omS_valid h1 (by omega) (a := el ts k) (by rw [h2]; exact hr k (by omega))
    rw [omP, e]
    exact ⟨insT_valid h1 (by omega) hi, by rw [insT_len _ hi, h2]⟩
theorem VR.upto {ts : List Int} (h : VR ts) {k : Nat} (hk : k ≤ ts.length) : VRk ts k := fun j hj => ⟨h.lo j (by omega), h.hi j (by omega)⟩
theorem omT_valid {ts : List Int} (h : VR ts) : Valid (omT ts) := (omP_valid _ h.len (h.upto (Nat.le_refl _))).1
theorem omT_len {ts : List Int} (h : VR ts) : (omT ts).length = ts.length := (omP_valid _ h.len (h.upto (Nat.le_refl _))).2
theorem omP_step {ts : List Int} {k : Nat} (hk : k + 1 ≤ 7) (hr : VRk ts (k + 1)) : ∃ i, i ≤ k ∧ omP ts (k + 1) = insT (omP ts k) i ∧ dfs (omP ts k) i = el ts k := by
  obtain ⟨h1, h2⟩ := omP_valid k (by omega) (fun j hj => hr j (by omega))
  obtain ⟨i, hi, e, e2⟩ := omS_valid h1 (by omega) (a := el ts k) (by rw [h2]; exact hr k (by omega))
  exact ⟨i, by omega, e, e2⟩
theorem blw_omP {ts : List Int} (x d : Nat) (h7 : x + d ≤ 7) (hr : VRk ts (x + d)) : blw (omP ts (x + d)) x = omP ts x := by
  induction d with
  | zero =>
    obtain ⟨h1, h2⟩ := omP_valid x (by omega) hr
    exact blw_all (fun y hy => by have := h1.mem hy; rw [h2] at this; exact this.2)
  | succ d ih =>
    obtain ⟨h1, h2⟩ := omP_valid (x + d) (by omega) (fun j hj => hr j (by omega))
    obtain ⟨i, hi, e, _⟩ := omP_step (k := x + d) (by omega) hr
    rw [show x + (d + 1) = x + d + 1 by omega, e, blw_insT (by rw [h2]; omega), ih (by omega) (fun j hj => hr j (by omega))]
theorem mtab_omT {ts : List Int} (h : VR ts) : mtab (omT ts) = ts := by
  have hl := omT_len h
  have h7 := h.len
  refine ext_el (by rw [mtab_len, hl]) (fun j hj => ?_)
  rw [mtab_len, hl] at hj
  have hr := h.upto (Nat.le_refl _)
  have b1 := blw_omP (ts := ts) j (ts.length - j) (by omega) (by rw [show j + (ts.length - j) = ts.length by omega]; exact hr)
  have b2 := blw_omP (ts := ts) (j + 1) (ts.length - (j + 1)) (by omega) (by rw [show j + 1 + (ts.length - (j + 1)) = ts.length by omega]; exact hr)
  rw [show j + (ts.length - j) = ts.length by omega] at b1
  rw [show j + 1 + (ts.length - (j + 1)) = ts.length by omega] at b2
  obtain ⟨i, hi, e, e2⟩ := omP_step (ts := ts) (k := j) (by omega) (h.upto (by omega))
  rw [mtab, el_map (by rw [hl]; exact hj), mtv, omT, b1, b2, e]
  exact e2
theorem mtv_at {xs : List Int} (h : Valid xs) {x : Nat} (hx : x < xs.length) : ∃ k, k ≤ x ∧ blw xs ((x + 1 : Nat) : Int) = insT (blw xs x) k ∧ mtv xs x = dfs (blw xs x) k := by
  obtain ⟨k, hk, e⟩ := blw_ins h hx
  exact ⟨k, hk, e, by rw [mtv, e]; rfl⟩
theorem mtab_vr {xs : List Int} (h : Valid xs) : VR (mtab xs) := by
  have h7 := h.len
  have key : ∀ j, j < (mtab xs).length → 0 ≤ el (mtab xs) j ∧ el (mtab xs) j ≤ (j : Int) := fun j hj => by
    rw [mtab_len] at hj
    obtain ⟨k, hk, _, e⟩ := mtv_at h hj
    have hl := blw_length h (show j ≤ xs.length by omega)
    have := (ins_facts (blw_valid h (show j ≤ xs.length by omega)) (by omega)).1 k (by omega)
    rw [mtab, el_map hj, e]
    omega
  exact ⟨by rw [mtab_len]; exact h7, fun j hj => (key j hj).1, fun j hj => (key j hj).2⟩
theorem omP_mtab {xs : List Int} (h : Valid xs) : ∀ x, x ≤ xs.length → omP (mtab xs) x = blw xs x := by
  have h7 := h.len
  intro x
  induction x with
  | zero =>
    intro _
    exact (List.eq_nil_of_length_eq_zero (blw_length h (Nat.zero_le _))).symm
  | succ x ih =>
    intro hx
    obtain ⟨k, hk, e, e2⟩ := mtv_at h (show x < xs.length by omega)
    have hl := blw_length h (show x ≤ xs.length by omega)
    have hv := blw_valid h (show x ≤ xs.length by omega)
    rw [omP, ih (by omega), mtab, el_map (by omega), e, e2]
    exact omS_at (by omega) (fun i hi => (ins_facts hv (by omega)).2.1 i k hi (by omega)) rfl
theorem omT_mtab {xs : List Int} (h : Valid xs) : omT (mtab xs) = xs := by
  rw [omT, mtab_len, omP_mtab h _ (Nat.le_refl _), blw_all (fun y hy => (h.mem hy).2)]

end Go.Proofs.Ytjphaphnmclbcaa
