/- Sums of orders: they are orders, and their inversions, circles and major indices. No condition. -/
import Derived.Test.YtepikmkkbecdaaaFinSkew
import Derived.Test.YtepikmkkbecdaaaFinCy
import Derived.Test.YtepikmkkbecdaaaFinMajor
namespace Go.Proofs.Ytepikmkkbecdaaa

def sumO (xs ys : List Int) : List Int := join xs 0 ys xs.length
theorem sumO_len (xs ys : List Int) : (sumO xs ys).length = xs.length + ys.length := join_len _ _ _ _
theorem el_sumO_lt {xs ys : List Int} {j : Nat} (h : j < xs.length) : el (sumO xs ys) j = el xs j := by rw [sumO, el_join_lt h]; omega
theorem el_sumO_ge {xs ys : List Int} {k : Nat} (h : k < ys.length) : el (sumO xs ys) (xs.length + k) = el ys k + xs.length := el_join_ge h

theorem sumO_valid {xs ys : List Int} (h : Two xs ys) : Valid (sumO xs ys) := by
  obtain ⟨hx, hy, hl⟩ := h
  have key : ∀ j, j < xs.length + ys.length → (j < xs.length ∧ el (sumO xs ys) j = el xs j) ∨ (∃ k, j = xs.length + k ∧ k < ys.length ∧ el (sumO xs ys) j = el ys k + xs.length) := by
    intro j hj
    by_cases e : j < xs.length
    · exact Or.inl ⟨e, el_sumO_lt e⟩
    · refine Or.inr ⟨j - xs.length, by omega, by omega, ?_⟩
      have := el_sumO_ge (xs := xs) (ys := ys) (k := j - xs.length) (by omega)
      rwa [show xs.length + (j - xs.length) = j by omega] at this
  refine ⟨by rw [sumO_len]; exact hl, fun j hj => ?_, fun j hj => ?_, fun i j hij hj => ?_⟩
  · rw [sumO_len] at hj
    rcases key j hj with ⟨a, e⟩ | ⟨k, _, hk, e⟩
    · rw [e]; exact hx.lo j a
    · rw [e]; have := hy.lo k hk; omega
  · rw [sumO_len] at hj ⊢
    rcases key j hj with ⟨a, e⟩ | ⟨k, _, hk, e⟩
    · rw [e]; have := hx.hi j a; omega
    · rw [e]; have := hy.hi k hk; omega
  · rw [sumO_len] at hj
    rcases key j hj with ⟨a, e⟩ | ⟨k, ek, hk, e⟩
    · rw [e, el_sumO_lt (show i < xs.length by omega)]; exact hx.ne i j hij a
    · rcases key i (by omega) with ⟨a, e2⟩ | ⟨k2, ek2, hk2, e2⟩
      · rw [e, e2]; have := hx.hi i a; have := hy.lo k hk; omega
      · rw [e, e2]; have := hy.ne k2 k (by omega) hk; omega

theorem invs_sumO {xs ys : List Int} (h : Two xs ys) : sumL (table (sumO xs ys)) = sumL (table xs) + sumL (table ys) := by
  obtain ⟨hx, hy, hl⟩ := h
  rw [invs_ga, invs_ga, invs_ga, sumO_len, S_split]
  have e1 : S (ga (sumO xs ys)) xs.length = S (ga xs) xs.length := by
    refine S_congr _ (fun i hi => ?_)
    rw [ga, ga, cntP_S, cntP_S]
    refine S_congr _ (fun t ht => ?_)
    simp only [ind, decide_eq_true_eq]
    rw [el_sumO_lt hi, el_sumO_lt (by omega)]
  have e2 : S (fun k => ga (sumO xs ys) (xs.length + k)) ys.length = S (ga ys) ys.length := by
    refine S_congr _ (fun k hk => ?_)
    show ga (sumO xs ys) (xs.length + k) = ga ys k
    rw [ga, ga, cntP_S, cntP_S, S_split]
    have a1 : S (ind fun t => decide (el (sumO xs ys) (xs.length + k) < el (sumO xs ys) t)) xs.length = S (fun _ => 0) xs.length := by
      refine S_congr _ (fun t ht => ?_)
      simp only [ind, decide_eq_true_eq]
      rw [el_sumO_ge hk, el_sumO_lt ht]
      have := hx.hi t ht
      have := hy.lo k hk
      rw [if_neg (by omega)]
    have a2 : S (fun j => ind (fun t => decide (el (sumO xs ys) (xs.length + k) < el (sumO xs ys) t)) (xs.length + j)) k = S (ind fun t => decide (el ys k < el ys t)) k := by
      refine S_congr _ (fun t ht => ?_)
      simp only [ind, decide_eq_true_eq]
      rw [el_sumO_ge hk, el_sumO_ge (by omega)]
      by_cases c : el ys k < el ys t
      · rw [if_pos (by omega), if_pos (by omega)]
      · rw [if_neg (by omega), if_neg (by omega)]
    rw [a1, a2, S_const0]; omega
  rw [e1, e2]

theorem itr_sumO_lt {xs ys : List Int} (hx : Valid xs) {x : Int} (h : 0 ≤ x ∧ x < xs.length) : ∀ t, itr (sumO xs ys) x t = itr xs x t := by
  intro t
  induction t with
  | zero => rfl
  | succ t ih =>
    have := itr_in hx h t
    rw [itr, ih, el_sumO_lt (by omega), itr]
theorem itr_sumO_ge {xs ys : List Int} (hy : Valid ys) {y : Int} (h : 0 ≤ y ∧ y < ys.length) : ∀ t, itr (sumO xs ys) (xs.length + y) t = xs.length + itr ys y t := by
  intro t
  induction t with
  | zero => rfl
  | succ t ih =>
    have := itr_in hy h t
    have e : ((xs.length : Int) + itr ys y t).toNat = xs.length + (itr ys y t).toNat := by omega
    rw [itr, ih, e, el_sumO_ge (by omega), itr]; omega
theorem circles_sumO {xs ys : List Int} (h : Two xs ys) : ((circles (sumO xs ys)).length : Int) = (circles xs).length + (circles ys).length := by
  have hj := sumO_valid h
  obtain ⟨hx, hy, hl⟩ := h
  rw [circles, circles, circles, ciP_cnt, ciP_cnt, ciP_cnt, cntP_S, cntP_S, cntP_S, sumO_len, S_split]
  have e1 : S (ind fun j => lea (sumO xs ys) (j : Int)) xs.length = S (ind fun j => lea xs (j : Int)) xs.length := by
    refine S_congr _ (fun i hi => ?_)
    have hi1 : 0 ≤ (i : Int) ∧ (i : Int) < xs.length := ⟨by omega, by omega⟩
    have : lea (sumO xs ys) (i : Int) = lea xs (i : Int) := by
      rw [Bool.eq_iff_iff, lea_iff hj (by rw [sumO_len]; omega), lea_iff hx hi1]
      constructor
      · intro a t; have := a t; rwa [itr_sumO_lt hx hi1] at this
      · intro a t; rw [itr_sumO_lt hx hi1]; exact a t
    simp only [ind, this]
  have e2 : S (fun k => ind (fun j => lea (sumO xs ys) (j : Int)) (xs.length + k)) ys.length = S (ind fun j => lea ys (j : Int)) ys.length := by
    refine S_congr _ (fun k hk => ?_)
    have hk1 : 0 ≤ (k : Int) ∧ (k : Int) < ys.length := ⟨by omega, by omega⟩
    have ec : ((xs.length + k : Nat) : Int) = (xs.length : Int) + k := by omega
    have : lea (sumO xs ys) ((xs.length + k : Nat) : Int) = lea ys (k : Int) := by
      rw [Bool.eq_iff_iff, lea_iff hj (by rw [sumO_len]; omega), lea_iff hy hk1, ec]
      constructor
      · intro a t; have := a t; rw [itr_sumO_ge hy hk1] at this; omega
      · intro a t; rw [itr_sumO_ge hy hk1]; have := a t; omega
    simp only [ind, this]
  rw [e1, e2]

theorem majP_sumO_lt {xs ys : List Int} : ∀ k, k ≤ xs.length - 1 → dsP (sumO xs ys) k = dsP xs k := by
  intro k
  induction k with
  | zero => intro _; rfl
  | succ k ih =>
    intro hk
    rw [dsP, dsP, ih (by omega), el_sumO_lt (by omega), el_sumO_lt (by omega)]
theorem major_sumO {xs ys : List Int} (h : Two xs ys) : major (sumO xs ys) = major xs + major ys + (xs.length : Int) * (desc ys).length := by
  obtain ⟨hx, hy, hl⟩ := h
  by_cases hx0 : xs.length = 0
  · obtain rfl : xs = [] := List.eq_nil_of_length_eq_zero hx0
    have e : sumO [] ys = ys := by
      have := up_zero ys
      simpa [sumO, join, up] using this
    rw [e]
    simp [major, desc, dsP, sumL, sumTo]
  · by_cases hy0 : ys.length = 0
    · obtain rfl : ys = [] := List.eq_nil_of_length_eq_zero hy0
      have e : sumO xs [] = xs := by
        have := up_zero xs
        simpa [sumO, join, up] using this
      rw [e]
      simp [major, desc, dsP, sumL, sumTo]
    · have key : ∀ t, t ≤ ys.length - 1 → majP (sumO xs ys) (xs.length + t) = major xs + majP ys t + (xs.length : Int) * (dsP ys t).length := by
        intro t
        induction t with
        | zero =>
          intro _
          obtain ⟨n, hn⟩ : ∃ n, xs.length = n + 1 := ⟨xs.length - 1, by omega⟩
          have a1 : el (sumO xs ys) (n + 1) = el ys 0 + xs.length := by
            have := el_sumO_ge (xs := xs) (ys := ys) (k := 0) (by omega)
            rw [Nat.add_zero] at this
            rw [← hn]; exact this
          have a2 : el (sumO xs ys) n = el xs n := el_sumO_lt (by omega)
          have a3 := hx.hi n (by omega)
          have a4 := hy.lo 0 (by omega)
          rw [Nat.add_zero, hn, majP_no (by rw [a1, a2]; omega)]
          have e : majP (sumO xs ys) n = major xs := by
            rw [majP, majP_sumO_lt n (by omega), major, desc, hn]; rfl
          rw [e]
          simp [majP, dsP, sumL, sumTo]
        | succ t ih =>
          intro ht
          have h1 := ih (by omega)
          have a1 : el (sumO xs ys) (xs.length + t) = el ys t + xs.length := el_sumO_ge (by omega)
          have a2 : el (sumO xs ys) (xs.length + t + 1) = el ys (t + 1) + xs.length := el_sumO_ge (k := t + 1) (by omega)
          rw [← Nat.add_assoc]
          by_cases c : el ys (t + 1) < el ys t
          · rw [majP_yes (by rw [a1, a2]; omega), majP_yes c, dsP_yes c, List.length_append, List.length_singleton, h1]
            have e : (xs.length : Int) * (((dsP ys t).length + 1 : Nat) : Int) = (xs.length : Int) * (dsP ys t).length + xs.length := by
              rw [show (((dsP ys t).length + 1 : Nat) : Int) = ((dsP ys t).length : Int) + 1 by omega, Int.mul_add, Int.mul_one]
            rw [e]; omega
          · rw [majP_no (by rw [a1, a2]; omega), majP_no (by omega), dsP_no (by omega), h1]
      have := key (ys.length - 1) (Nat.le_refl _)
      have e1 : majP (sumO xs ys) (xs.length + (ys.length - 1)) = major (sumO xs ys) := by
        rw [major, desc, sumO_len, show xs.length + ys.length - 1 = xs.length + (ys.length - 1) by omega]; rfl
      rw [e1] at this
      exact this

end Go.Proofs.Ytepikmkkbecdaaa
