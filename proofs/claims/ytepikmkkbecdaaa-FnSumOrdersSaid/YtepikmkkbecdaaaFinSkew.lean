/- Skew sums of orders: valid, opposite of the sum of the opposites, inversions of both and all pairs beside. No condition. -/
import Derived.Test.YtepikmkkbecdaaaFinSign
namespace Go.Proofs.Ytepikmkkbecdaaa

theorem join_len (xs : List Int) (a : Int) (ys : List Int) (b : Int) : (join xs a ys b).length = xs.length + ys.length := by
  rw [join, List.length_append, up_len, up_len]
theorem el_up {xs : List Int} {a : Int} {j : Nat} (h : j < xs.length) : el (up xs a) j = el xs j + a := el_map h
theorem el_join_lt {xs ys : List Int} {a b : Int} {j : Nat} (h : j < xs.length) : el (join xs a ys b) j = el xs j + a := by
  rw [← el_up h, join, el_lt (by rw [List.length_append, up_len, up_len]; omega), el_lt (by rw [up_len]; exact h), List.getElem_append_left (by rw [up_len]; exact h)]
theorem el_join_ge {xs ys : List Int} {a b : Int} {k : Nat} (h : k < ys.length) : el (join xs a ys b) (xs.length + k) = el ys k + b := by
  rw [← el_up h, join, el_lt (by rw [List.length_append, up_len, up_len]; omega), el_lt (by rw [up_len]; exact h), List.getElem_append_right (by rw [up_len]; omega)]
  congr 1
  rw [up_len]; omega

theorem skew_valid {xs ys : List Int} (h : Two xs ys) : Valid (join xs ys.length ys 0) := by
  obtain ⟨hx, hy, hl⟩ := h
  have key : ∀ j, j < xs.length + ys.length → (j < xs.length ∧ el (join xs ys.length ys 0) j = el xs j + ys.length) ∨ (∃ k, j = xs.length + k ∧ k < ys.length ∧ el (join xs ys.length ys 0) j = el ys k) := by
    intro j hj
    by_cases c : j < xs.length
    · exact Or.inl ⟨c, el_join_lt c⟩
    · refine Or.inr ⟨j - xs.length, by omega, by omega, ?_⟩
      have e := el_join_ge (xs := xs) (ys := ys) (a := ys.length) (b := 0) (k := j - xs.length) (by omega)
      rw [show xs.length + (j - xs.length) = j by omega] at e
      rw [e]; omega
  refine ⟨by rw [join_len]; exact hl, fun j hj => ?_, fun j hj => ?_, fun i j hij hj => ?_⟩
  · rw [join_len] at hj
    rcases key j hj with ⟨c, e⟩ | ⟨k, -, c, e⟩
    · have := hx.lo j c; omega
    · have := hy.lo k c; omega
  · rw [join_len] at hj ⊢
    rcases key j hj with ⟨c, e⟩ | ⟨k, -, c, e⟩
    · have := hx.hi j c; omega
    · have := hy.hi k c; omega
  · rw [join_len] at hj
    rcases key i (by omega) with ⟨c, e⟩ | ⟨k, q, c, e⟩ <;> rcases key j hj with ⟨c2, e2⟩ | ⟨k2, q2, c2, e2⟩
    · have := hx.ne i j hij c2; omega
    · have := hx.lo i c; have := hy.hi k2 c2; omega
    · omega
    · have := hy.ne k k2 (by omega) c2; omega

theorem skew_opp {xs ys : List Int} : opp (join xs ys.length ys 0) = join (opp xs) 0 (opp ys) (opp xs).length := by
  refine ext_el (by rw [opp_len, join_len, join_len, opp_len, opp_len]) (fun j hj => ?_)
  rw [opp_len] at hj
  rw [el_opp hj]
  rw [join_len] at hj ⊢
  by_cases c : j < xs.length
  · rw [el_join_lt c, el_join_lt (by rw [opp_len]; exact c), el_opp c]; omega
  · obtain ⟨k, rfl⟩ : ∃ k, j = xs.length + k := ⟨j - xs.length, by omega⟩
    have e := el_join_ge (xs := opp xs) (ys := opp ys) (a := 0) (b := (opp xs).length) (k := k) (by rw [opp_len]; omega)
    rw [opp_len] at e
    rw [el_join_ge (by omega), opp_len, e, el_opp (by omega)]; omega

theorem two_opp {xs ys : List Int} (h : Two xs ys) : Two (opp xs) (opp ys) := ⟨opp_valid h.1, opp_valid h.2.1, by rw [opp_len, opp_len]; exact h.2.2⟩

theorem S_split (g : Nat → Int) (n : Nat) : ∀ m, S g (n + m) = S g n + S (fun k => g (n + k)) m := by
  intro m
  induction m with
  | zero => rw [Nat.add_zero, S]; omega
  | succ m ih => rw [← Nat.add_assoc, S, ih, S]; omega
theorem S_const (c : Int) : ∀ m : Nat, S (fun _ => c) m = c * m := by
  intro m
  induction m with
  | zero => simp [S]
  | succ m ih => rw [S, ih, show ((m + 1 : Nat) : Int) = (m : Int) + 1 by omega, Int.mul_add]; omega

theorem invs_skew {xs ys : List Int} (h : Two xs ys) : sumL (table (join xs ys.length ys 0)) = sumL (table xs) + sumL (table ys) + (xs.length : Int) * ys.length := by
  obtain ⟨hx, hy, hl⟩ := h
  rw [invs_ga, invs_ga, invs_ga, join_len, S_split]
  have e1 : S (ga (join xs ys.length ys 0)) xs.length = S (ga xs) xs.length := by
    refine S_congr _ (fun i hi => ?_)
    rw [ga, ga, cntP_S, cntP_S]
    refine S_congr _ (fun t ht => ?_)
    simp only [ind, decide_eq_true_eq]
    rw [el_join_lt hi, el_join_lt (by omega)]
    by_cases c : el xs i < el xs t
    · rw [if_pos (by omega), if_pos (by omega)]
    · rw [if_neg (by omega), if_neg (by omega)]
  have e2 : S (fun k => ga (join xs ys.length ys 0) (xs.length + k)) ys.length = S (fun k => (xs.length : Int) + ga ys k) ys.length := by
    refine S_congr _ (fun k hk => ?_)
    show ga (join xs ys.length ys 0) (xs.length + k) = (xs.length : Int) + ga ys k
    rw [ga, ga, cntP_S, cntP_S, S_split]
    have a1 : S (ind fun t => decide (el (join xs ys.length ys 0) (xs.length + k) < el (join xs ys.length ys 0) t)) xs.length = S (fun _ => 1) xs.length := by
      refine S_congr _ (fun t ht => ?_)
      simp only [ind, decide_eq_true_eq]
      rw [el_join_ge hk, el_join_lt ht]
      have := hx.lo t ht
      have := hy.hi k hk
      rw [if_pos (by omega)]
    have a2 : S (fun j => ind (fun t => decide (el (join xs ys.length ys 0) (xs.length + k) < el (join xs ys.length ys 0) t)) (xs.length + j)) k = S (ind fun t => decide (el ys k < el ys t)) k := by
      refine S_congr _ (fun t ht => ?_)
      simp only [ind, decide_eq_true_eq]
      rw [el_join_ge hk, el_join_ge (by omega)]
      by_cases c : el ys k < el ys t
      · rw [if_pos (by omega), if_pos (by omega)]
      · rw [if_neg (by omega), if_neg (by omega)]
    rw [a1, a2, S_const]; omega
  rw [e1, e2, S_add, S_const]; omega

end Go.Proofs.Ytepikmkkbecdaaa
