/- Signed orders as plain lists: which numbers are one, their sizes, signs, lengths, flags, falls, products and inverses. No condition. -/
import Derived.Test.YtjgaglfinpeeoabDoorMirW
namespace Go.Proofs.YtjgaglfinpeeoabDoor

/-- A number without its sign. -/
def ab (x : Int) : Int := if x < 0 then -x else x
theorem ab_neg {x : Int} (h : x < 0) : ab x = -x := if_pos h
theorem ab_pos {x : Int} (h : 0 ≤ x) : ab x = x := if_neg (by omega)
theorem ab_bd {x n : Int} (h : -n ≤ x ∧ x ≤ n) : ab x ≤ n := by unfold ab; split <;> omega
theorem ab_nn (x : Int) : 0 ≤ ab x := by unfold ab; split <;> omega
theorem ab_nz {x : Int} (h : x ≠ 0) : 1 ≤ ab x := by unfold ab; split <;> omega
theorem ab_le {x n : Int} (h : ab x ≤ n) : -n ≤ x ∧ x ≤ n := by unfold ab at h; split at h <;> omega
theorem ab_flip (x : Int) : ab (-x) = ab x := by unfold ab; split <;> split <;> omega
def szL (xs : List Int) : List Int := (List.range xs.length).map fun k => ab (el xs k) - 1
theorem szL_len (xs : List Int) : (szL xs).length = xs.length := map_range_len _
theorem el_szL {xs : List Int} {j : Nat} (h : j < xs.length) : el (szL xs) j = ab (el xs j) - 1 := el_map h

/-- The numbers are a signed order. -/
structure SV (xs : List Int) : Prop where
  len : xs.length ≤ 5
  ord : Valid (szL xs)
theorem sv_iff (xs : List Int) : SV xs ↔ (xs.length ≤ 5 ∧ Valid (szL xs)) := ⟨fun h => ⟨h.len, h.ord⟩, fun h => ⟨h.1, h.2⟩⟩
instance (xs : List Int) : Decidable (SV xs) := decidable_of_iff _ (sv_iff xs).symm
theorem SV.bd {xs : List Int} (h : SV xs) {j : Nat} (hj : j < xs.length) : 1 ≤ ab (el xs j) ∧ ab (el xs j) ≤ xs.length := by
  have h1 := h.ord.lo j (by rw [szL_len]; exact hj)
  have h2 := h.ord.hi j (by rw [szL_len]; exact hj)
  rw [szL_len] at h2
  rw [el_szL hj] at h1 h2
  omega
theorem SV.lo {xs : List Int} (h : SV xs) {j : Nat} (hj : j < xs.length) : -(xs.length : Int) ≤ el xs j ∧ el xs j ≤ xs.length ∧ el xs j ≠ 0 := by
  have h1 := h.bd hj
  have h2 := ab_le h1.2
  refine ⟨h2.1, h2.2, fun e => ?_⟩
  rw [e, ab_pos (Int.le_refl _)] at h1
  omega
theorem SV.ne {xs : List Int} (h : SV xs) {i j : Nat} (hij : i < j) (hj : j < xs.length) : ab (el xs i) ≠ ab (el xs j) := fun e => by
  have := h.ord.ne i j hij (by rw [szL_len]; exact hj)
  rw [el_szL hj, el_szL (by omega), e] at this
  exact this rfl
theorem SV.of {xs : List Int} (h5 : xs.length ≤ 5) (h : ∀ j, j < xs.length → -(xs.length : Int) ≤ el xs j ∧ el xs j ≤ xs.length ∧ el xs j ≠ 0 ∧ ∀ t, t < j → ab (el xs t) ≠ ab (el xs j)) : SV xs := by
  refine ⟨h5, ⟨by rw [szL_len]; omega, fun j hj => ?_, fun j hj => ?_, fun i j hij hj => ?_⟩⟩
  · rw [szL_len] at hj
    have := ab_nz (h j hj).2.2.1
    rw [el_szL hj]; omega
  · rw [szL_len] at hj ⊢
    have := ab_bd ⟨(h j hj).1, (h j hj).2.1⟩
    rw [el_szL hj]; omega
  · rw [szL_len] at hj
    have := (h j hj).2.2.2 i hij
    rw [el_szL hj, el_szL (by omega)]; omega

def onS (xs ys : List Int) : List Int := if SV xs then ys else []
theorem onS_yes {xs ys : List Int} (h : SV xs) : onS xs ys = ys := if_pos h
theorem onS_no {xs ys : List Int} (h : ¬ SV xs) : onS xs ys = [] := if_neg h
def onSi (xs : List Int) (v d : Int) : Int := if SV xs then v else d
theorem onSi_yes {xs : List Int} {v d : Int} (h : SV xs) : onSi xs v d = v := if_pos h
theorem onSi_no {xs : List Int} {v d : Int} (h : ¬ SV xs) : onSi xs v d = d := if_neg h
theorem onS_len {xs ys : List Int} {m : Nat} (h : ys.length ≤ m) : (onS xs ys).length ≤ m := by
  unfold onS; split
  · exact h
  · simp

/-- At each place how many numbers are less: for different numbers the order of them as a word. -/
def ltF (xs : List Int) (i j : Nat) : Bool := decide (el xs j < el xs i)
def stL (xs : List Int) : List Int := (List.range xs.length).map fun k => cntP (ltF xs k) xs.length
theorem cntP_ext' {p q : Nat → Bool} (n : Nat) (h : ∀ j, j < n → p j = q j) : cntP p n = cntP q n := by
  induction n with
  | zero => rfl
  | succ n ih => rw [cntP, cntP, ih (fun j hj => h j (by omega)), h n (by omega)]
theorem st_rkA {xs : List Int} (h : SV xs) : stL xs = rkA xs := by
  refine ext_el (by rw [rkA_len, stL, map_range_len]) (fun j hj => ?_)
  rw [stL, map_range_len] at hj
  rw [stL, el_map hj, el_rkA hj]
  refine cntP_ext' _ (fun t ht => ?_)
  rw [ltF, rkF]
  have hne : t < j → el xs t ≠ el xs j := fun hlt e => h.ne hlt hj (by rw [e])
  by_cases e : el xs t < el xs j
  · simp [e]
  · by_cases e2 : t < j
    · have := hne e2
      simp [e, this]
    · simp [e, e2]

/-- The numbers below 0 among the first k, how many and without signs. -/
def ngF (xs : List Int) (j : Nat) : Bool := decide (el xs j < 0)
def ngN (xs : List Int) : Int := cntP (ngF xs) xs.length
def ngS (xs : List Int) : Nat → Int
  | 0 => 0
  | k + 1 => if el xs k < 0 then ngS xs k - el xs k else ngS xs k
def bwL (xs : List Int) : Nat → List Int
  | 0 => []
  | k + 1 => if el xs k < 0 then bwL xs k ++ [ab (el xs k)] else bwL xs k
theorem bwL_yes {xs : List Int} {k : Nat} (h : el xs k < 0) : bwL xs (k + 1) = bwL xs k ++ [ab (el xs k)] := if_pos h
theorem bwL_no {xs : List Int} {k : Nat} (h : ¬ el xs k < 0) : bwL xs (k + 1) = bwL xs k := if_neg h
theorem ngS_yes {xs : List Int} {k : Nat} (h : el xs k < 0) : ngS xs (k + 1) = ngS xs k - el xs k := if_pos h
theorem ngS_no {xs : List Int} {k : Nat} (h : ¬ el xs k < 0) : ngS xs (k + 1) = ngS xs k := if_neg h
theorem ngC_yes {xs : List Int} {k : Nat} (h : el xs k < 0) : cntP (ngF xs) (k + 1) = cntP (ngF xs) k + 1 := cntP_yes (by simp [ngF, h])
theorem ngC_no {xs : List Int} {k : Nat} (h : ¬ el xs k < 0) : cntP (ngF xs) (k + 1) = cntP (ngF xs) k := cntP_no (by simp [ngF]; omega)
theorem bwL_len (xs : List Int) (k : Nat) : ((bwL xs k).length : Int) = cntP (ngF xs) k := by
  induction k with
  | zero => rfl
  | succ k ih =>
    by_cases h : el xs k < 0
    · rw [bwL_yes h, ngC_yes h, List.length_append, List.length_singleton, ← ih]; omega
    · rw [bwL_no h, ngC_no h, ih]
theorem bwL_le (xs : List Int) (k : Nat) : (bwL xs k).length ≤ k := by
  have := bwL_len xs k
  have := (cntP_bd (ngF xs) k).2
  omega
theorem ngS_bd {xs : List Int} (h : SV xs) : ∀ k, k ≤ xs.length → 0 ≤ ngS xs k ∧ ngS xs k ≤ 5 * k := by
  intro k
  induction k with
  | zero => intro _; simp [ngS]
  | succ k ih =>
    intro hk
    have h1 := ih (by omega)
    have h2 := h.lo (j := k) (by omega)
    have h5 := h.len
    by_cases e : el xs k < 0
    · rw [ngS_yes e]; omega
    · rw [ngS_no e]; omega
theorem bwL_sum {xs : List Int} (k : Nat) : sumL (bwL xs k) = ngS xs k := by
  induction k with
  | zero => rfl
  | succ k ih =>
    by_cases h : el xs k < 0
    · rw [bwL_yes h, ngS_yes h, sumL_app, ih, ab_neg h]; omega
    · rw [bwL_no h, ngS_no h, ih]
theorem bwL_mem {xs : List Int} (h : SV xs) : ∀ k, k ≤ xs.length → ∀ x ∈ bwL xs k, 0 ≤ x ∧ x ≤ 5 := by
  intro k
  induction k with
  | zero => intro _ x hx; simp [bwL] at hx
  | succ k ih =>
    intro hk x hx
    by_cases e : el xs k < 0
    · rw [bwL_yes e, List.mem_append, List.mem_singleton] at hx
      rcases hx with hx | rfl
      · exact ih (by omega) x hx
      · have := h.bd (j := k) (by omega)
        have := h.len
        omega
    · rw [bwL_no e] at hx
      exact ih (by omega) x hx

def lenS (xs : List Int) : Int := sumL (table xs) + ngS xs xs.length
def flagS (xs : List Int) : Int := 2 * major xs + ngN xs
def fallS (xs : List Int) : Int := (desc xs).length + if 0 < xs.length ∧ el xs 0 < 0 then 1 else 0
/-- The number with the sign of x. -/
def sgl (x y : Int) : Int := if x < 0 then -y else y
theorem sgl_yes {x y : Int} (h : x < 0) : sgl x y = -y := if_pos h
theorem sgl_no {x y : Int} (h : ¬ x < 0) : sgl x y = y := if_neg h
def mulF (vs ws : List Int) (k : Nat) : Int := sgl (el ws k) (el vs (ab (el ws k) - 1).toNat)
def mulS (vs ws : List Int) : List Int := (List.range ws.length).map (mulF vs ws)
theorem mulS_len (vs ws : List Int) : (mulS vs ws).length = ws.length := map_range_len _
def invSF (xs : List Int) (a : List Int) (k : Nat) : List Int := a.set (ab (el xs k) - 1).toNat (sgl (el xs k) ((k : Int) + 1))
def invS (xs : List Int) : List Int := iter (invSF xs) (List.replicate xs.length 0) xs.length
theorem invS_lenK (xs : List Int) (k : Nat) : (iter (invSF xs) (List.replicate xs.length 0) k).length = xs.length :=
  (iter_len (fun _ _ => List.length_set) _ k).trans List.length_replicate
theorem invS_len (xs : List Int) : (invS xs).length = xs.length := invS_lenK xs _
/-- Two signed orders of one length. -/
def SM (vs ws : List Int) : Prop := SV vs ∧ SV ws ∧ vs.length = ws.length
instance (vs ws : List Int) : Decidable (SM vs ws) := inferInstanceAs (Decidable (_ ∧ _ ∧ _))
def onSM (vs ws zs : List Int) : List Int := if SM vs ws then zs else []
theorem onSM_yes {vs ws zs : List Int} (h : SM vs ws) : onSM vs ws zs = zs := if_pos h
theorem onSM_no {vs ws zs : List Int} (h : ¬ SM vs ws) : onSM vs ws zs = [] := if_neg h

/-- Numbers of 64 bits. -/
def R64 (xs : List Int) : Prop := ∀ j, j < xs.length → -9223372036854775808 ≤ el xs j ∧ el xs j ≤ 9223372036854775807
theorem SV.r64 {xs : List Int} (h : SV xs) : R64 xs := fun j hj => by
  have := h.lo hj
  have := h.len
  omega

end Go.Proofs.YtjgaglfinpeeoabDoor
