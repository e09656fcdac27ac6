/- Words of a content: a word stands among the words of its content. No condition. -/
import Derived.Test.YtjphaphnmclbcaaMirW
import Derived.Test.YtjphaphnmclbcaaMirQ
import Derived.KernelRfl
namespace Go.Proofs.Ytjphaphnmclbcaa

/-- The words that go on from a beginning, with what is left of each letter; t letters in all. -/
def wgo : Nat → List Int → List Nat → List (List Int)
  | 0, b, _ => [b]
  | t + 1, b, c => (List.range 4).flatMap fun k => if c.getD k 0 = 0 then [] else wgo t (b ++ [(k : Int)]) (c.set k (c.getD k 0 - 1))
/-- The words of a content, in order. -/
def wordsL (c : List Int) : List (List Int) := wgo ((c.map Int.toNat).sum) [] (c.map Int.toNat)

/-- How often each letter comes. -/
def cnt4 : List Int → List Nat
  | [] => [0, 0, 0, 0]
  | x :: xs => (cnt4 xs).set x.toNat ((cnt4 xs).getD x.toNat 0 + 1)
theorem cnt4_len : ∀ xs, (cnt4 xs).length = 4
  | [] => rfl
  | x :: xs => by simp [cnt4, cnt4_len xs]

theorem mem_wgo : ∀ (ys b : List Int), (∀ y ∈ ys, 0 ≤ y ∧ y ≤ 3) → b ++ ys ∈ wgo ys.length b (cnt4 ys)
  | [], b, _ => by simp [wgo]
  | y :: ys, b, h => by
    have hy := h y (by simp)
    have ih := mem_wgo ys (b ++ [y]) (fun z hz => h z (by simp [hz]))
    have hl := cnt4_len ys
    have hlt : y.toNat < (cnt4 ys).length := by omega
    have e1 : (cnt4 (y :: ys)).getD y.toNat 0 = (cnt4 ys).getD y.toNat 0 + 1 := by simp [cnt4, hlt]
    have e2 : (cnt4 (y :: ys)).set y.toNat ((cnt4 (y :: ys)).getD y.toNat 0 - 1) = cnt4 ys := by
      rw [e1]
      simp only [cnt4, List.set_set, Nat.add_sub_cancel]
      apply List.ext_getElem
      · simp
      · intro i h1 h2
        rw [List.getElem_set]
        split
        · rename_i e; subst e; simp [hlt]
        · rfl
    rw [List.length_cons, wgo, List.mem_flatMap]
    refine ⟨y.toNat, List.mem_range.2 (by omega), ?_⟩
    rw [if_neg (by rw [e1]; omega), e2, Int.toNat_of_nonneg hy.1]
    simpa using ih

theorem sum4 {c : List Nat} (h : c.length = 4) {k : Nat} (hk : k < 4) : (c.set k (c.getD k 0 + 1)).sum = c.sum + 1 := by
  match c, h with
  | [a, b, c, d], _ =>
    rcases (show k = 0 ∨ k = 1 ∨ k = 2 ∨ k = 3 by omega) with rfl | rfl | rfl | rfl <;> simp <;> omega
theorem cnt4_sum : ∀ ys : List Int, (∀ y ∈ ys, 0 ≤ y ∧ y ≤ 3) → (cnt4 ys).sum = ys.length
  | [], _ => rfl
  | y :: ys, h => by
    have hy := h y (by simp)
    rw [cnt4, sum4 (cnt4_len ys) (by omega), cnt4_sum ys (fun z hz => h z (by simp [hz]))]
    rfl

theorem cnt4_get : ∀ (ys : List Int) (j : Nat), (∀ y ∈ ys, 0 ≤ y ∧ y ≤ 3) → j < 4 → (cnt4 ys).getD j 0 = ys.count (j : Int)
  | [], j, _, hj => by rcases (show j = 0 ∨ j = 1 ∨ j = 2 ∨ j = 3 by omega) with rfl | rfl | rfl | rfl <;> rfl
  | y :: ys, j, h, hj => by
    have hy := h y (by simp)
    have ih := cnt4_get ys j (fun z hz => h z (by simp [hz])) hj
    have hl := cnt4_len ys
    rw [cnt4, List.count_cons]
    by_cases e : y.toNat = j
    · subst e
      have e2 : (y == ((y.toNat : Nat) : Int)) = true := by simp; omega
      rw [e2, if_pos rfl, ← ih]
      have : y.toNat < (cnt4 ys).length := by omega
      simp [this]
    · have e2 : (y == (j : Int)) = false := by simp; omega
      rw [e2, if_neg (by simp), ← ih]
      simp [List.getD, e]

theorem el_addAt_same {zs : List Int} {j : Nat} {v : Int} (h : j < zs.length) : el (addAt zs j v) j = el zs j + v := by unfold addAt; exact el_set_same h
theorem el_addAt_ne {zs : List Int} {j k : Nat} {v : Int} (h : k ≠ j) : el (addAt zs j v) k = el zs k := by unfold addAt; exact el_set_ne (Ne.symm h)

theorem ctP_get (xs : List Int) (h : ∀ y ∈ xs, 0 ≤ y ∧ y ≤ 3) (j : Nat) (hj : j < 4) : ∀ k, k ≤ xs.length → el (ctP xs k) j = ((xs.take k).count (j : Int) : Int)
  | 0, _ => by rcases (show j = 0 ∨ j = 1 ∨ j = 2 ∨ j = 3 by omega) with rfl | rfl | rfl | rfl <;> rfl
  | k + 1, hk => by
    have ih := ctP_get xs h j hj k (by omega)
    have hx : el xs k = xs[k] := el_lt (by omega)
    have hm := h xs[k] (List.getElem_mem _)
    have hl := ctP_len xs k
    rw [ctP, List.take_succ_eq_append_getElem (by omega), List.count_append, hx]
    by_cases e : (xs[k]).toNat = j
    · subst e
      rw [el_addAt_same (by omega), ih]
      have : (xs[k] == (((xs[k]).toNat : Nat) : Int)) = true := by simp; omega
      rw [List.count_singleton, this]; simp
    · rw [el_addAt_ne (Ne.symm e), ih]
      have : (xs[k] == (j : Int)) = false := by simp; omega
      rw [List.count_singleton, this]; simp

theorem cont_cnt4 (ys : List Int) (h : ∀ y ∈ ys, 0 ≤ y ∧ y ≤ 3) : (cont ys).map Int.toNat = cnt4 ys := by
  have hl := ctP_len ys ys.length
  have hl4 := cnt4_len ys
  apply List.ext_getElem
  · simp [cont, hl, hl4]
  · intro j h1 h2
    have hj : j < 4 := by rw [hl4] at h2; exact h2
    have e1 := ctP_get ys h j hj ys.length (Nat.le_refl _)
    have e2 := cnt4_get ys j h hj
    rw [List.take_length] at e1
    have e3 : el (ctP ys ys.length) j = (cont ys)[j]'(by simp [cont, hl]; exact hj) := el_lt (by omega)
    rw [List.getElem_map, ← e3, e1]
    simp only [Int.toNat_natCast]
    rw [← e2, List.getD_eq_getElem?_getD, List.getElem?_eq_getElem h2]
    rfl

theorem vw_mem {ys : List Int} (h : VW ys) : ∀ y ∈ ys, 0 ≤ y ∧ y ≤ 3 := by
  intro y hy
  obtain ⟨j, hj, rfl⟩ := List.mem_iff_getElem.1 hy
  have e : el ys j = ys[j] := el_lt hj
  exact ⟨by rw [← e]; exact h.lo j hj, by rw [← e]; exact h.hi j hj⟩
theorem words_cont {ys : List Int} (h : VW ys) : ys ∈ wordsL (cont ys) := by
  have hm := vw_mem h
  unfold wordsL
  rw [cont_cnt4 ys hm, cnt4_sum ys hm]
  simpa using mem_wgo ys [] hm
theorem sum_cont {ys : List Int} (h : VW ys) : sumL (cont ys) = ys.length := by
  have hm := vw_mem h
  have hs := cnt4_sum ys hm
  rw [← cont_cnt4 ys hm] at hs
  have hl := ctP_len ys ys.length
  have hb := ctP_bd ys ys.length
  have key : ∀ c : List Int, c.length = 4 → (∀ j, j < 4 → 0 ≤ el c j) → sumL c = ((c.map Int.toNat).sum : Int) := by
    intro c hc h0
    match c, hc with
    | [a, b, c, d], _ =>
      have p0 : 0 ≤ a := h0 0 (by omega)
      have p1 : 0 ≤ b := h0 1 (by omega)
      have p2 : 0 ≤ c := h0 2 (by omega)
      have p3 : 0 ≤ d := h0 3 (by omega)
      simp [sumL, sumTo, el]
      omega
  rw [key (cont ys) hl (fun j hj => by
    have := ctP_get ys hm j hj ys.length (Nat.le_refl _)
    show 0 ≤ el (ctP ys ys.length) j
    rw [this]; omega), hs]
theorem vc_cont {ys : List Int} (h : VW ys) : VC (cont ys) := by
  have hl := ctP_len ys ys.length
  refine ⟨hl, fun j hj => ?_, by rw [sum_cont h]; have := h.len; omega⟩
  have := ctP_get ys (vw_mem h) j (by have : (cont ys).length = 4 := hl; omega) ys.length (Nat.le_refl _)
  show 0 ≤ el (ctP ys ys.length) j
  rw [this]; omega

theorem VC.nat {c : List Int} (h : VC c) : ∃ l0 l1 l2 l3 : Nat, c = [(l0 : Int), l1, l2, l3] ∧ l0 + l1 + l2 + l3 ≤ 7 ∧ sumL c = ((l0 + l1 + l2 + l3 : Nat) : Int) := by
  obtain ⟨h1, h2, h3⟩ := h
  match c, h1, h2, h3 with
  | [x0, x1, x2, x3], _, h2, h3 =>
    have p0 : 0 ≤ x0 := h2 0 (by simp)
    have p1 : 0 ≤ x1 := h2 1 (by simp)
    have p2 : 0 ≤ x2 := h2 2 (by simp)
    have p3 : 0 ≤ x3 := h2 3 (by simp)
    have hsum : sumL [x0, x1, x2, x3] = x0 + x1 + x2 + x3 := by simp [sumL, sumTo, el]
    rw [hsum] at h3 ⊢
    refine ⟨x0.toNat, x1.toNat, x2.toNat, x3.toNat, ?_, ?_, ?_⟩
    · rw [Int.toNat_of_nonneg p0, Int.toNat_of_nonneg p1, Int.toNat_of_nonneg p2, Int.toNat_of_nonneg p3]
    · omega
    · omega

/-- Whatever is checked of all contents in turn holds of all. -/
theorem vc_all (p : List Int → Bool) (h : ((List.range 8).all fun a => (List.range (8 - a)).all fun b => (List.range (8 - a - b)).all fun c => (List.range (8 - a - b - c)).all fun d => p [(a : Int), b, c, d]) = true) : ∀ c, VC c → p c = true := by
  intro c hc
  obtain ⟨l0, l1, l2, l3, rfl, hs, _⟩ := hc.nat
  have h1 := List.all_eq_true.1 h l0 (List.mem_range.2 (by omega))
  have h2 := List.all_eq_true.1 h1 l1 (List.mem_range.2 (by omega))
  have h3 := List.all_eq_true.1 h2 l2 (List.mem_range.2 (by omega))
  exact List.all_eq_true.1 h3 l3 (List.mem_range.2 (by omega))

theorem cwP_pos {c : List Int} (h : VC c) : 0 < cwP c 4 := by
  have := vc_all (fun c => decide (0 < cwP c 4)) (by kernel_rfl) c h
  simpa using this

end Go.Proofs.Ytjphaphnmclbcaa
