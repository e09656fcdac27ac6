/- Contents of words as plain lists, and how many words they have, as the program and as the model reckon it. No condition. -/
import Derived.Test.YtjphaphnmclbcaaMirW
namespace Go.Proofs.Ytjphaphnmclbcaa

/-- The numbers are the content of a word. -/
structure VC (c : List Int) : Prop where
  len : c.length = 4
  lo : ∀ j, j < c.length → 0 ≤ el c j
  sum : sumL c ≤ 7
theorem vc_iff (c : List Int) : VC c ↔ (c.length = 4 ∧ (∀ j, j < c.length → 0 ≤ el c j) ∧ sumL c ≤ 7) :=
  ⟨fun h => ⟨h.len, h.lo, h.sum⟩, fun h => ⟨h.1, h.2.1, h.2.2⟩⟩
instance (c : List Int) : Decidable (VC c) := decidable_of_iff _ (vc_iff c).symm
def onC (c ys : List Int) : List Int := if VC c then ys else []
theorem onC_yes {c ys : List Int} (h : VC c) : onC c ys = ys := if_pos h
theorem onC_no {c ys : List Int} (h : ¬ VC c) : onC c ys = [] := if_neg h
def onCi (c : List Int) (v d : Int) : Int := if VC c then v else d
theorem onCi_yes {c : List Int} {v d : Int} (h : VC c) : onCi c v d = v := if_pos h
theorem onCi_no {c : List Int} {v d : Int} (h : ¬ VC c) : onCi c v d = d := if_neg h

theorem sumTo_le {c : List Int} (h : ∀ j, j < c.length → 0 ≤ el c j) {k m : Nat} (hkm : k ≤ m) (hm : m ≤ c.length) : 0 ≤ sumTo c k ∧ sumTo c k ≤ sumTo c m := by
  induction m with
  | zero => rw [show k = 0 by omega]; exact ⟨Int.le_refl _, Int.le_refl _⟩
  | succ m ih =>
    by_cases e : k = m + 1
    · subst e
      have : ∀ k, k ≤ c.length → 0 ≤ sumTo c k := by
        intro k
        induction k with
        | zero => intro _; exact Int.le_refl _
        | succ k ih2 =>
          intro hk
          have := ih2 (by omega)
          have := h k (by omega)
          rw [sumTo]; omega
      exact ⟨this _ hm, Int.le_refl _⟩
    · have h1 := ih (by omega) (by omega)
      have h2 := h m (by omega)
      rw [show sumTo c (m + 1) = sumTo c m + el c m from rfl]
      omega
theorem VC.part {c : List Int} (h : VC c) {k : Nat} (hk : k ≤ 4) : 0 ≤ sumTo c k ∧ sumTo c k ≤ 7 := by
  have h1 := sumTo_le h.lo (show k ≤ c.length by rw [h.len]; exact hk) (Nat.le_refl _)
  have h2 := h.sum
  rw [sumL] at h2
  omega
theorem VC.one {c : List Int} (h : VC c) {k : Nat} (hk : k < 4) : 0 ≤ el c k ∧ el c k ≤ 7 := by
  have h1 := h.part (k := k) (by omega)
  have h2 := h.part (k := k + 1) (by omega)
  have h3 := h.lo k (by rw [h.len]; exact hk)
  rw [sumTo] at h2
  omega
/-- The first numbers are too many already. -/
theorem not_vc_sum {c : List Int} {k : Nat} (hk : k < c.length) (h : 7 < sumTo c (k + 1)) : ¬ VC c := fun v => by
  have := v.part (k := k + 1) (by have := v.len; omega)
  omega
theorem not_vc_lo {c : List Int} {k : Nat} (hk : k < c.length) (h : el c k < 0) : ¬ VC c := fun v => by
  have := v.lo k hk
  omega
theorem not_vc_one {c : List Int} {k : Nat} (hk : k < c.length) (h : ¬ (0 ≤ el c k ∧ el c k ≤ 7)) : ¬ VC c := fun v => h (v.one (by have := v.len; omega))

/-- The program's way: for each letter, one after the other, times the letters so far, by those of this one. -/
def cwR (a L : Int) : Nat → Int
  | 0 => a
  | t + 1 => cwR a L t * (L + t + 1) / ((t : Int) + 1)
def cwP (c : List Int) : Nat → Int
  | 0 => 1
  | k + 1 => cwR (cwP c k) (sumTo c k) (el c k).toNat
/-- The model's way: times how many sets there are. -/
def chR (n : Int) : Nat → Int
  | 0 => 1
  | i + 1 => chR n i * (n - i) / ((i : Int) + 1)
def cwS (c : List Int) : Nat → Int
  | 0 => 1
  | k + 1 => cwS c k * chR (sumTo c (k + 1)) (el c k).toNat
def pw7 : Nat → Int
  | 0 => 1
  | n + 1 => pw7 n * 7
theorem pw7_pos (n : Nat) : 1 ≤ pw7 n := by
  induction n with
  | zero => exact Int.le_refl _
  | succ n ih => rw [pw7]; omega
theorem pw7_le {n : Nat} (h : n ≤ 7) : pw7 n ≤ 823543 := by
  have : ∀ n : Nat, n ≤ 7 → pw7 n ≤ 823543 := by decide
  exact this n h
theorem pw7_add (a b : Nat) : pw7 (a + b) = pw7 a * pw7 b := by
  induction b with
  | zero => simp [pw7]
  | succ b ih => rw [← Nat.add_assoc, pw7, pw7, ih, Int.mul_assoc]
theorem step7 {x y : Int} {t : Nat} {B : Int} (hx : 0 ≤ x ∧ x ≤ B) (hy : 0 ≤ y ∧ y ≤ 7) : 0 ≤ x * y / ((t : Int) + 1) ∧ x * y / ((t : Int) + 1) ≤ B * 7 := by
  have h0 : 0 ≤ x * y := Int.mul_nonneg hx.1 hy.1
  have h1 : x * y ≤ B * 7 := Int.mul_le_mul hx.2 hy.2 hy.1 (by omega)
  exact ⟨Int.ediv_nonneg h0 (by omega), Int.le_trans (Int.ediv_le_self _ h0) h1⟩
theorem cwR_bd {a L : Int} {B : Int} (ha : 0 ≤ a ∧ a ≤ B) (hL : 0 ≤ L) : ∀ t : Nat, L + t ≤ 7 → 0 ≤ cwR a L t ∧ cwR a L t ≤ B * pw7 t := by
  intro t
  induction t with
  | zero => intro _; simpa [cwR, pw7] using ha
  | succ t ih =>
    intro ht
    have := step7 (t := t) (ih (by omega)) (y := L + t + 1) ⟨by omega, by omega⟩
    rw [cwR, pw7, ← Int.mul_assoc]
    exact this
theorem cwP_bd {c : List Int} (h : VC c) : ∀ k, k ≤ 4 → 0 ≤ cwP c k ∧ cwP c k ≤ pw7 (sumTo c k).toNat := by
  intro k
  induction k with
  | zero => intro _; exact ⟨by simp [cwP], Int.le_refl _⟩
  | succ k ih =>
    intro hk
    have h1 := ih (by omega)
    have h2 := h.part (k := k) (by omega)
    have h3 := h.part (k := k + 1) (by omega)
    have h4 := h.one (k := k) (by omega)
    rw [show sumTo c (k + 1) = sumTo c k + el c k from rfl] at h3 ⊢
    have := cwR_bd h1 h2.1 (el c k).toNat (by omega)
    rw [cwP, show (sumTo c k + el c k).toNat = (sumTo c k).toNat + (el c k).toNat by omega, pw7_add]
    exact this
/-- The number as it stands within a letter's rounds. -/
theorem cwP_in {c : List Int} (h : VC c) {k t : Nat} (hk : k < 4) (ht : (t : Int) ≤ el c k) : 0 ≤ cwR (cwP c k) (sumTo c k) t ∧ cwR (cwP c k) (sumTo c k) t ≤ 823543 := by
  have h1 := cwP_bd h k (by omega)
  have h2 := h.part (k := k) (by omega)
  have h3 := h.part (k := k + 1) (by omega)
  rw [show sumTo c (k + 1) = sumTo c k + el c k from rfl] at h3
  have h5 := cwR_bd h1 h2.1 t (by omega)
  rw [← pw7_add] at h5
  have h6 := pw7_le (n := (sumTo c k).toNat + t) (by omega)
  omega
theorem chR_bd {n : Int} (hn : n ≤ 7) : ∀ i : Nat, (i : Int) ≤ n → 0 ≤ chR n i ∧ chR n i ≤ pw7 i := by
  intro i
  induction i with
  | zero => intro _; exact ⟨by simp [chR], Int.le_refl _⟩
  | succ i ih =>
    intro hi
    have := step7 (t := i) (ih (by omega)) (y := n - i) ⟨by omega, by omega⟩
    rw [chR, pw7]
    exact this
theorem cwS_bd {c : List Int} (h : VC c) : ∀ k, k ≤ 4 → 0 ≤ cwS c k ∧ cwS c k ≤ pw7 (sumTo c k).toNat := by
  intro k
  induction k with
  | zero => intro _; exact ⟨by simp [cwS], Int.le_refl _⟩
  | succ k ih =>
    intro hk
    have h1 := ih (by omega)
    have h2 := h.part (k := k) (by omega)
    have h3 := h.part (k := k + 1) (by omega)
    have h4 := h.one (k := k) (by omega)
    rw [show sumTo c (k + 1) = sumTo c k + el c k from rfl] at h3
    have h5 := chR_bd (n := sumTo c (k + 1)) (by rw [show sumTo c (k + 1) = sumTo c k + el c k from rfl]; omega) (el c k).toNat (by rw [show sumTo c (k + 1) = sumTo c k + el c k from rfl]; omega)
    rw [cwS, show (sumTo c (k + 1)).toNat = (sumTo c k).toNat + (el c k).toNat by rw [show sumTo c (k + 1) = sumTo c k + el c k from rfl]; omega, pw7_add]
    exact ⟨Int.mul_nonneg h1.1 h5.1, Int.mul_le_mul h1.2 h5.2 h5.1 (by have := pw7_pos (sumTo c k).toNat; omega)⟩
theorem cwS_in {c : List Int} (h : VC c) {k : Nat} (hk : k ≤ 4) : 0 ≤ cwS c k ∧ cwS c k ≤ 823543 := by
  have h1 := cwS_bd h k hk
  have h2 := h.part (k := k) hk
  have h6 := pw7_le (n := (sumTo c k).toNat) (by omega)
  omega
theorem chR_in {n : Int} (hn : n ≤ 7) {i : Nat} (hi : (i : Int) ≤ n) : 0 ≤ chR n i ∧ chR n i ≤ 823543 := by
  have h1 := chR_bd hn i hi
  have h2 := pw7_le (n := i) (by omega)
  omega

/-- All contents, so that what is to be shown of them may be reckoned. -/
def contents : List (List Int) := (rng 8).flatMap fun a => (rng 8).flatMap fun b => (rng 8).flatMap fun d => (rng 8).filterMap fun e => if a + b + d + e ≤ 7 then some [a, b, d, e] else none
theorem VC.four {c : List Int} (h : VC c) : c = [el c 0, el c 1, el c 2, el c 3] := by
  have h4 := h.len
  match c, h4 with
  | [a, b, d, e], _ => rfl
theorem VC.mem {c : List Int} (h : VC c) : c ∈ contents := by
  have h0 := h.one (k := 0) (by omega)
  have h1 := h.one (k := 1) (by omega)
  have h2 := h.one (k := 2) (by omega)
  have h3 := h.one (k := 3) (by omega)
  have hs := h.part (k := 4) (by omega)
  have hs' : sumTo c 4 = el c 0 + el c 1 + el c 2 + el c 3 := by simp [sumTo]
  rw [hs'] at hs
  rw [h.four]
  unfold contents
  simp only [List.mem_flatMap, List.mem_filterMap, mem_rng]
  exact ⟨_, ⟨h0.1, by omega⟩, _, ⟨h1.1, by omega⟩, _, ⟨h2.1, by omega⟩, _, ⟨h3.1, by omega⟩, by rw [if_pos (by omega)]⟩
theorem VC.all {c : List Int} (h : VC c) {p : List Int → Bool} (hp : contents.all p = true) : p c = true := List.all_eq_true.1 hp c h.mem
theorem cw_both_all : contents.all (fun c => decide (cwP c 4 = cwS c 4)) = true := by decide +kernel
/-- Both ways give one number. -/
theorem cw_both {c : List Int} (h : VC c) : cwP c 4 = cwS c 4 := of_decide_eq_true (h.all cw_both_all)

end Go.Proofs.Ytjphaphnmclbcaa
