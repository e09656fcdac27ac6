/- Circles of orders: each value comes back, circles share no value or are the same. No condition. -/
import Derived.Test.YtaceiebmgnhdgaaGreatDoorBnd
namespace Go.Proofs.YtaceiebmgnhdgaaGreatDoor

/-- The value after t steps from x. -/
def itr (xs : List Int) (x : Int) : Nat → Int
  | 0 => x
  | t + 1 => el xs (itr xs x t).toNat
/-- The first return among the next f steps. -/
def perF (xs : List Int) (x : Int) : Nat → Nat → Nat
  | 0, t => t
  | f + 1, t => if itr xs x t = x then t else perF xs x f (t + 1)
def per (xs : List Int) (x : Int) : Nat := perF xs x xs.length 1
def cyc (xs : List Int) (x : Int) : List Int := (List.range (per xs x)).map (itr xs x)

theorem itr_in {xs : List Int} (h : Valid xs) {x : Int} (hx : 0 ≤ x ∧ x < xs.length) : ∀ t, 0 ≤ itr xs x t ∧ itr xs x t < xs.length := by
  intro t
  induction t with
  | zero => exact hx
  | succ t ih => rw [itr]; exact ⟨h.lo _ (by omega), h.hi _ (by omega)⟩
theorem itr_add (xs : List Int) (x : Int) (a : Nat) : ∀ b, itr xs x (a + b) = itr xs (itr xs x a) b := by
  intro b
  induction b with
  | zero => rfl
  | succ b ih => rw [← Nat.add_assoc, itr, ih, itr]
theorem el_inj {xs : List Int} (h : Valid xs) {a b : Int} (ha : 0 ≤ a ∧ a < xs.length) (hb : 0 ≤ b ∧ b < xs.length) (e : el xs a.toNat = el xs b.toNat) : a = b := by
  rcases Nat.lt_trichotomy a.toNat b.toNat with h1 | h1 | h1
  · exact absurd e (h.ne _ _ h1 (by omega))
  · omega
  · exact absurd e.symm (h.ne _ _ h1 (by omega))
theorem itr_back {xs : List Int} (h : Valid xs) {x : Int} (hx : 0 ≤ x ∧ x < xs.length) : ∀ i d, itr xs x i = itr xs x (i + d) → itr xs x d = x := by
  intro i
  induction i with
  | zero => intro d e; rw [Nat.zero_add] at e; exact e.symm
  | succ i ih =>
    intro d e
    rw [show i + 1 + d = i + d + 1 by omega, itr, itr] at e
    exact ih d (el_inj h (itr_in h hx _) (itr_in h hx _) e)

theorem nodup_len : ∀ (n : Nat) (L : List Int), L.Nodup → (∀ y ∈ L, 0 ≤ y ∧ y < n) → L.length ≤ n := by
  intro n
  induction n with
  | zero =>
    intro L _ h
    cases L with
    | nil => simp
    | cons a l => have := h a (by simp); omega
  | succ n ih =>
    intro L hn h
    by_cases hm : (n : Int) ∈ L
    · have h1 := ih (L.erase n) (hn.erase _) (fun y hy => by
        have h2 := h y (List.mem_of_mem_erase hy)
        have h3 : y ≠ n := fun e => by rw [e] at hy; exact (List.Nodup.not_mem_erase hn) hy
        omega)
      have h4 := List.length_erase_of_mem hm
      omega
    · have := ih L hn (fun y hy => by
        have h2 := h y hy
        have h3 : y ≠ n := fun e => hm (e ▸ hy)
        omega)
      omega

theorem comes_back {xs : List Int} (h : Valid xs) {x : Int} (hx : 0 ≤ x ∧ x < xs.length) : ∃ t, 1 ≤ t ∧ t ≤ xs.length ∧ itr xs x t = x := by
  apply Classical.byContradiction
  intro hno
  have hn : ((List.range (xs.length + 1)).map (itr xs x)).Nodup := by
    rw [List.nodup_iff_pairwise_ne, List.pairwise_map]
    refine List.Pairwise.imp_of_mem ?_ List.pairwise_lt_range
    intro i j hi hj hij e
    have hj' := List.mem_range.1 hj
    refine hno ⟨j - i, by omega, by omega, itr_back h hx i (j - i) ?_⟩
    rw [show i + (j - i) = j by omega]
    exact e
  have := nodup_len xs.length _ hn (fun y hy => by
    obtain ⟨t, _, rfl⟩ := List.mem_map.1 hy
    exact itr_in h hx t)
  rw [List.length_map, List.length_range] at this
  omega

theorem perF_spec (xs : List Int) (x : Int) : ∀ f t, (∃ s, t ≤ s ∧ s < t + f ∧ itr xs x s = x) → t ≤ perF xs x f t ∧ perF xs x f t < t + f ∧ itr xs x (perF xs x f t) = x ∧ ∀ s, t ≤ s → s < perF xs x f t → itr xs x s ≠ x := by
  intro f
  induction f with
  | zero => rintro t ⟨s, h1, h2, _⟩; omega
  | succ f ih =>
    rintro t ⟨s, h1, h2, h3⟩
    rw [perF]
    by_cases e : itr xs x t = x
    · rw [if_pos e]; exact ⟨Nat.le_refl _, by omega, e, fun s h1 h2 => by omega⟩
    · rw [if_neg e]
      have hs : s ≠ t := fun e2 => e (e2 ▸ h3)
      obtain ⟨a, b, c, d⟩ := ih (t + 1) ⟨s, by omega, by omega, h3⟩
      refine ⟨by omega, by omega, c, fun s h1 h2 => ?_⟩
      by_cases e2 : s = t
      · rw [e2]; exact e
      · exact d s (by omega) h2
theorem per_spec {xs : List Int} (h : Valid xs) {x : Int} (hx : 0 ≤ x ∧ x < xs.length) : 1 ≤ per xs x ∧ per xs x ≤ xs.length ∧ itr xs x (per xs x) = x ∧ ∀ s, 1 ≤ s → s < per xs x → itr xs x s ≠ x := by
  obtain ⟨t, h1, h2, h3⟩ := comes_back h hx
  obtain ⟨a, b, c, d⟩ := perF_spec xs x xs.length 1 ⟨t, h1, by omega, h3⟩
  exact ⟨a, by unfold per; omega, c, d⟩

theorem cyc_len (xs : List Int) (x : Int) : (cyc xs x).length = per xs x := map_range_len _
theorem el_cyc {xs : List Int} {x : Int} {j : Nat} (h : j < per xs x) : el (cyc xs x) j = itr xs x j := el_map h
theorem itr_per {xs : List Int} (h : Valid xs) {x : Int} (hx : 0 ≤ x ∧ x < xs.length) : ∀ q t, itr xs x (q * per xs x + t) = itr xs x t := by
  intro q
  induction q with
  | zero => intro t; rw [Nat.zero_mul, Nat.zero_add]
  | succ q ih =>
    intro t
    rw [Nat.succ_mul, Nat.add_assoc, ih, itr_add, (per_spec h hx).2.2.1]
theorem mem_cyc {xs : List Int} (h : Valid xs) {x : Int} (hx : 0 ≤ x ∧ x < xs.length) {y : Int} : y ∈ cyc xs x ↔ ∃ t, itr xs x t = y := by
  have hp := per_spec h hx
  rw [cyc, List.mem_map]
  constructor
  · rintro ⟨t, _, e⟩; exact ⟨t, e⟩
  · rintro ⟨t, e⟩
    refine ⟨t % per xs x, List.mem_range.2 (Nat.mod_lt _ (by omega)), ?_⟩
    rw [← e]
    conv => rhs; rw [← Nat.div_add_mod t (per xs x), Nat.mul_comm]
    exact (itr_per h hx _ _).symm
theorem cyc_in {xs : List Int} (h : Valid xs) {x : Int} (hx : 0 ≤ x ∧ x < xs.length) {y : Int} (hy : y ∈ cyc xs x) : 0 ≤ y ∧ y < xs.length := by
  obtain ⟨t, rfl⟩ := (mem_cyc h hx).1 hy
  exact itr_in h hx t
theorem cyc_self {xs : List Int} (h : Valid xs) {x : Int} (hx : 0 ≤ x ∧ x < xs.length) : x ∈ cyc xs x := (mem_cyc h hx).2 ⟨0, rfl⟩
theorem cyc_symm {xs : List Int} (h : Valid xs) {x y : Int} (hx : 0 ≤ x ∧ x < xs.length) (hy : y ∈ cyc xs x) : x ∈ cyc xs y := by
  have hp := per_spec h hx
  have hyi := cyc_in h hx hy
  rw [cyc, List.mem_map] at hy
  obtain ⟨t, ht, rfl⟩ := hy
  have ht' := List.mem_range.1 ht
  refine (mem_cyc h hyi).2 ⟨per xs x - t, ?_⟩
  rw [← itr_add, show t + (per xs x - t) = per xs x by omega]
  exact hp.2.2.1
theorem cyc_trans {xs : List Int} (h : Valid xs) {x y z : Int} (hx : 0 ≤ x ∧ x < xs.length) (hy : y ∈ cyc xs x) (hz : z ∈ cyc xs y) : z ∈ cyc xs x := by
  have hyi := cyc_in h hx hy
  obtain ⟨t, rfl⟩ := (mem_cyc h hx).1 hy
  obtain ⟨s, rfl⟩ := (mem_cyc h hyi).1 hz
  exact (mem_cyc h hx).2 ⟨t + s, itr_add _ _ _ _⟩

/-- Is x the least value of its circle? -/
def lea (xs : List Int) (x : Int) : Bool := (cyc xs x).all fun z => decide (x ≤ z)
/-- The circles of the first k values that are the least ones of theirs. -/
def ciP (xs : List Int) : Nat → List (List Int)
  | 0 => []
  | k + 1 => if lea xs k then ciP xs k ++ [cyc xs k] else ciP xs k
def circles (xs : List Int) : List (List Int) := ciP xs xs.length
theorem ciP_yes {xs : List Int} {k : Nat} (h : lea xs k = true) : ciP xs (k + 1) = ciP xs k ++ [cyc xs k] := by rw [ciP, if_pos h]
theorem ciP_no {xs : List Int} {k : Nat} (h : lea xs k = false) : ciP xs (k + 1) = ciP xs k := by rw [ciP, h]; simp
theorem ciP_len (xs : List Int) (k : Nat) : (ciP xs k).length ≤ k := by
  induction k with
  | zero => simp [ciP]
  | succ k ih =>
    rw [ciP]
    split
    · rw [List.length_append, List.length_singleton]; omega
    · omega
/-- Is v in the circle of one of the first k values? -/
def sn (xs : List Int) (k v : Nat) : Bool := (List.range k).any fun (y : Nat) => decide ((v : Int) ∈ cyc xs (y : Int))
theorem sn_zero (xs : List Int) (v : Nat) : sn xs 0 v = false := rfl
theorem sn_succ (xs : List Int) (k v : Nat) : sn xs (k + 1) v = (sn xs k v || decide ((v : Int) ∈ cyc xs (k : Int))) := by
  rw [sn, List.range_succ, List.any_append]; simp [sn]
theorem sn_iff (xs : List Int) (k v : Nat) : sn xs k v = true ↔ ∃ y : Nat, y < k ∧ (v : Int) ∈ cyc xs (y : Int) := by
  simp [sn]
theorem sn_lea {xs : List Int} (h : Valid xs) {k : Nat} (hk : k < xs.length) : sn xs k k = !lea xs (k : Int) := by
  have hki : 0 ≤ (k : Int) ∧ (k : Int) < xs.length := ⟨by omega, by omega⟩
  rw [Bool.eq_iff_iff, sn_iff, Bool.not_eq_true', lea, List.all_eq_false]
  constructor
  · rintro ⟨y, hy, hm⟩
    have hyi : 0 ≤ (y : Int) ∧ (y : Int) < xs.length := ⟨by omega, by omega⟩
    exact ⟨(y : Int), cyc_symm h hyi hm, by simp; omega⟩
  · rintro ⟨z, hz, hlt⟩
    have hzi := cyc_in h hki hz
    simp only [decide_eq_true_eq] at hlt
    refine ⟨z.toNat, by omega, ?_⟩
    rw [show ((z.toNat : Nat) : Int) = z by omega]
    exact cyc_symm h hki hz
theorem sn_same {xs : List Int} (h : Valid xs) {k : Nat} (hk : k < xs.length) (hs : lea xs (k : Int) = false) (v : Nat) : sn xs (k + 1) v = sn xs k v := by
  have h1 : sn xs k k = true := by rw [sn_lea h hk, hs]; rfl
  rw [sn_succ]
  by_cases hv : (v : Int) ∈ cyc xs (k : Int)
  · obtain ⟨y, hy, hm⟩ := (sn_iff xs k k).1 h1
    have hyi : 0 ≤ (y : Int) ∧ (y : Int) < xs.length := ⟨by omega, by omega⟩
    rw [(sn_iff xs k v).2 ⟨y, hy, cyc_trans h hyi hm hv⟩]; rfl
  · simp [hv]

end Go.Proofs.YtaceiebmgnhdgaaGreatDoor
