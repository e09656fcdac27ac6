/- MixOrders and MixRow of the program, beside leavers. Condition: the lists' cells can be read. -/
import Derived.Test.YtjphaphnmclbcaaMxT
import Derived.Test.YtjphaphnmclbcaaMxQ
import Derived.Test.YtjphaphnmclbcaaBnT
import Derived.Test.YtjphaphnmclbcaaBnd
namespace Go.Proofs.Ytjphaphnmclbcaa
open Go Go.Conc Go.RowKit

set_option linter.unusedSimpArgs false in
set_option maxHeartbeats 4000000 in
theorem mxT {Stop : Goroutine → World → Prop} (ao : Option Addr) (a cap : Nat) (xs : List Int) (bo : Option Addr) (b cap2 : Nat) (ys : List Int) (w : World) (h : Sl w ao a cap xs) (g : Sl w bo b cap2 ys) (hna : a ≤ 2000000) (hnb : b ≤ 2000000) :
    CallsC Try.prog (TF Try.prog Stop) 57 #[.slice ao a cap, .slice bo b cap2] w M00 (fun v w' M' => M' = M00 ∧ OwnL w' w.heap.size w'.heap.size v (mxL xs ys) ∧ Only w w') := by
  have hS : Fam Try.prog true (fun _ => True) (TF Try.prog Stop) := fam_T
  have hla := h.len
  have hlb := g.len
  by_cases h5 : Two xs ys ∧ xs.length + ys.length ≤ 5
  · have e : mxL xs ys = (mxW a b).map (mxF xs ys) := by rw [mxL, if_pos h5, hla, hlb]
    rw [e]
    exact callsC_T (R := fun v w' => OwnL w' w.heap.size w'.heap.size v ((mxW a b).map (mxF xs ys)) ∧ Only w w') fun cf cs hR => mixWords_T ao a cap xs bo b cap2 ys w h g h5.1 (by omega) cf cs Stop fun v w' h1 h2 => hR v w' ⟨h1, h2⟩
  · have e : mxL xs ys = [] := if_neg h5
    rw [e]
    refine callsC_of_wpC hS Try.func57 rfl ?_
    simp only [Try.ntmps57, List.size_toArray, List.length_cons, List.length_nil, Nat.reduceAdd, Nat.reduceSub, Array.replicate_succ,
       Array.replicate_zero, List.push_toArray, List.append_toArray, List.nil_append, List.cons_append]
    repeat refine wpC_seq hS ?_
    refine wpC_region hS ?_
    simp only [List.size_toArray, List.length_cons, List.length_nil, Nat.reduceAdd, Nat.zero_add, List.range, List.range.loop]
    repeat first
      | refine opsC_moveA hS rfl rfl (.inl rfl) ?_
      | refine opsC_moveA hS rfl rfl (.inr rfl) ?_
      | refine opsC_binA hS rfl rfl rfl rfl rfl rfl ?_
      | refine opsC_lenA hS rfl rfl rfl (by kernel_rfl) rfl ?_
      | (refine opsC_plain hS rfl rfl fun _ K hK => ?_; go_simp; refine hK _ (by simp [go_sem, events_cap_slice, events_slice_hi, *]) ?_; clear hK K; try walk_nrm)
    refine opsC_nil hS ?_
    show WpC _ _ _ _ _ _ _
    repeat refine wpC_seq hS ?_
    refine wpC_region hS ?_
    simp only [List.size_toArray, List.length_cons, List.length_nil, Nat.reduceAdd, Nat.zero_add, List.range, List.range.loop]
    first
      | refine opsC_moveA hS rfl rfl (.inl rfl) ?_
      | refine opsC_moveA hS rfl rfl (.inr rfl) ?_
      | refine opsC_binA hS rfl rfl rfl rfl rfl rfl ?_
      | refine opsC_lenA hS rfl rfl rfl (by kernel_rfl) rfl ?_
      | (refine opsC_plain hS rfl rfl fun _ K hK => ?_; go_simp; refine hK _ (by simp [go_sem, events_cap_slice, events_slice_hi, *]) ?_; clear hK K; try walk_nrm)
    first
      | refine opsC_moveA hS rfl rfl (.inl rfl) ?_
      | refine opsC_moveA hS rfl rfl (.inr rfl) ?_
      | refine opsC_binA hS rfl rfl rfl rfl rfl rfl ?_
      | refine opsC_lenA hS rfl rfl rfl (by kernel_rfl) rfl ?_
      | (refine opsC_plain hS rfl rfl fun _ K hK => ?_; go_simp; refine hK _ (by simp [go_sem, events_cap_slice, events_slice_hi, *]) ?_; clear hK K; try walk_nrm)
    refine opsC_callF hS rfl rfl rfl Try.func92 (by kernel_rfl) rfl (by simp only [List.map_toArray, List.map_cons, List.map_nil]; rfl) (made2C (ys := onT xs ys (join xs 0 ys xs.length)) (b := decide (Two xs ys)) (by kernel_rfl) fun w₁ o => sumI_any _ _ _ xs _ _ _ ys w₁ (h.only o) (g.only o) (by omega) (by omega)) ?_
    rintro _ wv M' ⟨rfl, u, rfl, own1, o1⟩
    obtain ⟨av, cv, hu, -⟩ := own1.sl
    subst hu
    by_cases h2 : Two xs ys
    · rw [decide_eq_true h2, onT_yes h2]
      have hjl : (join xs 0 ys xs.length).length = a + b := by rw [jn_len, hla, hlb]
      rw [hjl]
      have h6 : 5 < a + b := by
        have h7 : ¬ (xs.length + ys.length ≤ 5) := fun h8 => h5 ⟨h2, h8⟩
        omega
      first
        | refine opsC_moveA hS rfl rfl (.inl rfl) ?_
        | refine opsC_moveA hS rfl rfl (.inr rfl) ?_
        | refine opsC_binA hS rfl rfl rfl rfl rfl rfl ?_
        | refine opsC_lenA hS rfl rfl rfl (by kernel_rfl) rfl ?_
        | (refine opsC_plain hS rfl rfl fun _ K hK => ?_; go_simp; refine hK _ (by simp [go_sem, events_cap_slice, events_slice_hi, *]) ?_; clear hK K; try walk_nrm)
      (refine opsC_plain hS rfl rfl fun _ K hK => ?_; go_simp; refine hK _ (by simp [go_sem, events_cap_slice, events_slice_hi, *]) ?_; clear hK K; try walk_nrm)
      (refine opsC_plain hS rfl rfl fun _ K hK => ?_; go_simp; refine hK _ (by simp [go_sem, events_cap_slice, events_slice_hi, *]) ?_; clear hK K; try walk_nrm)
      repeat first
        | refine opsC_moveA hS rfl rfl (.inl rfl) ?_
        | refine opsC_moveA hS rfl rfl (.inr rfl) ?_
        | refine opsC_binA hS rfl rfl rfl rfl rfl rfl ?_
        | refine opsC_lenA hS rfl rfl rfl (by kernel_rfl) rfl ?_
        | (refine opsC_plain hS rfl rfl fun _ K hK => ?_; go_simp; refine hK _ (by simp [go_sem, events_cap_slice, events_slice_hi, *]) ?_; clear hK K; try walk_nrm)
      refine opsC_nil hS ?_
      show WpC _ _ _ _ _ _ _
      repeat refine wpC_seq hS ?_
      refine wpC_region hS ?_
      simp only [List.size_toArray, List.length_cons, List.length_nil, Nat.reduceAdd, Nat.zero_add, List.range, List.range.loop]
      first
        | refine opsC_moveA hS rfl rfl (.inl rfl) ?_
        | refine opsC_moveA hS rfl rfl (.inr rfl) ?_
        | refine opsC_binA hS rfl rfl rfl rfl rfl rfl ?_
        | refine opsC_lenA hS rfl rfl rfl (by kernel_rfl) rfl ?_
        | (refine opsC_plain hS rfl rfl fun _ K hK => ?_; go_simp; refine hK _ (by simp [go_sem, events_cap_slice, events_slice_hi, *]) ?_; clear hK K; try walk_nrm)
      (refine opsC_plain hS rfl rfl fun _ K hK => ?_; go_simp; refine hK _ (by simp [go_sem, events_cap_slice, events_slice_hi, *]) ?_; clear hK K; try walk_nrm)
      first
        | refine opsC_moveA hS rfl rfl (.inl rfl) ?_
        | refine opsC_moveA hS rfl rfl (.inr rfl) ?_
        | refine opsC_binA hS rfl rfl rfl rfl rfl rfl ?_
        | refine opsC_lenA hS rfl rfl rfl (by kernel_rfl) rfl ?_
        | (refine opsC_plain hS rfl rfl fun _ K hK => ?_; go_simp; refine hK _ (by simp [go_sem, events_cap_slice, events_slice_hi, *]) ?_; clear hK K; try walk_nrm)
      first
        | refine opsC_moveA hS rfl rfl (.inl rfl) ?_
        | refine opsC_moveA hS rfl rfl (.inr rfl) ?_
        | refine opsC_binA hS rfl rfl rfl rfl rfl rfl ?_
        | refine opsC_lenA hS rfl rfl rfl (by kernel_rfl) rfl ?_
        | (refine opsC_plain hS rfl rfl fun _ K hK => ?_; go_simp; refine hK _ (by simp [go_sem, events_cap_slice, events_slice_hi, *]) ?_; clear hK K; try walk_nrm)
      first
        | refine opsC_moveA hS rfl rfl (.inl rfl) ?_
        | refine opsC_moveA hS rfl rfl (.inr rfl) ?_
        | refine opsC_binA hS rfl rfl rfl rfl rfl rfl ?_
        | refine opsC_lenA hS rfl rfl rfl (by kernel_rfl) rfl ?_
        | (refine opsC_plain hS rfl rfl fun _ K hK => ?_; go_simp; refine hK _ (by simp [go_sem, events_cap_slice, events_slice_hi, *]) ?_; clear hK K; try walk_nrm)
      refine opsC_binA (v := .bool true) hS rfl rfl rfl rfl rfl (by simp [int2]; omega) ?_
      (refine opsC_plain hS rfl rfl fun _ K hK => ?_; go_simp; refine hK _ (by simp [go_sem, events_cap_slice, events_slice_hi, *]) ?_; clear hK K; try walk_nrm)
      refine opsC_nil hS ?_
      show WpC _ _ _ _ _ _ _
      repeat refine wpC_seq hS ?_
      refine wpC_cond (t := true) hS rfl ?_
      simp only [if_true, if_false, Bool.false_eq_true]
      repeat refine wpC_seq hS ?_
      refine wpC_region hS ?_
      simp only [List.size_toArray, List.length_cons, List.length_nil, Nat.reduceAdd, Nat.zero_add, List.range, List.range.loop]
      repeat first
        | refine opsC_moveA hS rfl rfl (.inl rfl) ?_
        | refine opsC_moveA hS rfl rfl (.inr rfl) ?_
        | refine opsC_binA hS rfl rfl rfl rfl rfl rfl ?_
        | refine opsC_lenA hS rfl rfl rfl (by kernel_rfl) rfl ?_
        | (refine opsC_plain hS rfl rfl fun _ K hK => ?_; go_simp; refine hK _ (by simp [go_sem, events_cap_slice, events_slice_hi, *]) ?_; clear hK K; try walk_nrm)
      refine opsC_nil hS ?_
      show WpC _ _ _ _ _ _ _
      refine wpC_ret hS ⟨rfl, _, resultsC_tmp rfl _, ?_⟩
      exact ⟨rfl, (OwnL.nil (B := w.heap.size) o1.size).now, o1⟩
    · rw [decide_eq_false h2]
      first
        | refine opsC_moveA hS rfl rfl (.inl rfl) ?_
        | refine opsC_moveA hS rfl rfl (.inr rfl) ?_
        | refine opsC_binA hS rfl rfl rfl rfl rfl rfl ?_
        | refine opsC_lenA hS rfl rfl rfl (by kernel_rfl) rfl ?_
        | (refine opsC_plain hS rfl rfl fun _ K hK => ?_; go_simp; refine hK _ (by simp [go_sem, events_cap_slice, events_slice_hi, *]) ?_; clear hK K; try walk_nrm)
      (refine opsC_plain hS rfl rfl fun _ K hK => ?_; go_simp; refine hK _ (by simp [go_sem, events_cap_slice, events_slice_hi, *]) ?_; clear hK K; try walk_nrm)
      (refine opsC_plain hS rfl rfl fun _ K hK => ?_; go_simp; refine hK _ (by simp [go_sem, events_cap_slice, events_slice_hi, *]) ?_; clear hK K; try walk_nrm)
      repeat first
        | refine opsC_moveA hS rfl rfl (.inl rfl) ?_
        | refine opsC_moveA hS rfl rfl (.inr rfl) ?_
        | refine opsC_binA hS rfl rfl rfl rfl rfl rfl ?_
        | refine opsC_lenA hS rfl rfl rfl (by kernel_rfl) rfl ?_
        | (refine opsC_plain hS rfl rfl fun _ K hK => ?_; go_simp; refine hK _ (by simp [go_sem, events_cap_slice, events_slice_hi, *]) ?_; clear hK K; try walk_nrm)
      refine opsC_nil hS ?_
      show WpC _ _ _ _ _ _ _
      repeat refine wpC_seq hS ?_
      refine wpC_region hS ?_
      simp only [List.size_toArray, List.length_cons, List.length_nil, Nat.reduceAdd, Nat.zero_add, List.range, List.range.loop]
      first
        | refine opsC_moveA hS rfl rfl (.inl rfl) ?_
        | refine opsC_moveA hS rfl rfl (.inr rfl) ?_
        | refine opsC_binA hS rfl rfl rfl rfl rfl rfl ?_
        | refine opsC_lenA hS rfl rfl rfl (by kernel_rfl) rfl ?_
        | (refine opsC_plain hS rfl rfl fun _ K hK => ?_; go_simp; refine hK _ (by simp [go_sem, events_cap_slice, events_slice_hi, *]) ?_; clear hK K; try walk_nrm)
      (refine opsC_plain hS rfl rfl fun _ K hK => ?_; go_simp; refine hK _ (by simp [go_sem, events_cap_slice, events_slice_hi, *]) ?_; clear hK K; try walk_nrm)
      first
        | refine opsC_moveA hS rfl rfl (.inl rfl) ?_
        | refine opsC_moveA hS rfl rfl (.inr rfl) ?_
        | refine opsC_binA hS rfl rfl rfl rfl rfl rfl ?_
        | refine opsC_lenA hS rfl rfl rfl (by kernel_rfl) rfl ?_
        | (refine opsC_plain hS rfl rfl fun _ K hK => ?_; go_simp; refine hK _ (by simp [go_sem, events_cap_slice, events_slice_hi, *]) ?_; clear hK K; try walk_nrm)
      refine opsC_unwantedA hS rfl rfl ?_
      refine opsC_unwantedA hS rfl rfl ?_
      refine opsC_unwantedA hS rfl rfl ?_
      (refine opsC_plain hS rfl rfl fun _ K hK => ?_; go_simp; refine hK _ (by simp [go_sem, events_cap_slice, events_slice_hi, *]) ?_; clear hK K; try walk_nrm)
      refine opsC_nil hS ?_
      show WpC _ _ _ _ _ _ _
      repeat refine wpC_seq hS ?_
      refine wpC_cond (t := true) hS rfl ?_
      simp only [if_true, if_false, Bool.false_eq_true]
      repeat refine wpC_seq hS ?_
      refine wpC_region hS ?_
      simp only [List.size_toArray, List.length_cons, List.length_nil, Nat.reduceAdd, Nat.zero_add, List.range, List.range.loop]
      repeat first
        | refine opsC_moveA hS rfl rfl (.inl rfl) ?_
        | refine opsC_moveA hS rfl rfl (.inr rfl) ?_
        | refine opsC_binA hS rfl rfl rfl rfl rfl rfl ?_
        | refine opsC_lenA hS rfl rfl rfl (by kernel_rfl) rfl ?_
        | (refine opsC_plain hS rfl rfl fun _ K hK => ?_; go_simp; refine hK _ (by simp [go_sem, events_cap_slice, events_slice_hi, *]) ?_; clear hK K; try walk_nrm)
      refine opsC_nil hS ?_
      show WpC _ _ _ _ _ _ _
      refine wpC_ret hS ⟨rfl, _, resultsC_tmp rfl _, ?_⟩
      exact ⟨rfl, (OwnL.nil (B := w.heap.size) o1.size).now, o1⟩

set_option linter.unusedSimpArgs false in
set_option maxHeartbeats 4000000 in
theorem tallyOI {Stop : Goroutine → World → Prop} (ao : Option Addr) (cap : Nat) (yss : List (List Int)) (w : World) (h : SlL w ao yss.length cap yss) (hn : yss.length ≤ 100000) (hb : ∀ x ∈ yss, 0 ≤ vnI x ∧ vnI x ≤ 100) :
    CallsC Try.prog (TF Try.prog Stop) 63 #[.slice ao yss.length cap, .func (.func 21) #[] #[]] w M00 (fun r w' M' => M' = M00 ∧ ∃ u, r = .tuple #[u, .bool (decide (0 < yss.length))] ∧ Own w' w.heap.size u (tal (yss.map vnI)) ∧ Only w w') :=
  tallyT _ _ Try.func21 (by kernel_rfl) rfl ao yss.length cap yss (yss.map vnI) w h hn (hid (List.length_map _)) (hid (el_bd vnI yss hb)) fun j ai m ci w₁ hj hs => by
    rw [el_mapl vnI yss hj]
    exact saysC (by kernel_rfl) fun w₂ o => invsI_any _ _ _ _ w₂ (hs.only o)

set_option linter.unusedSimpArgs false in
set_option maxHeartbeats 4000000 in
theorem tallyOM {Stop : Goroutine → World → Prop} (ao : Option Addr) (cap : Nat) (yss : List (List Int)) (w : World) (h : SlL w ao yss.length cap yss) (hn : yss.length ≤ 100000) (hb : ∀ x ∈ yss, 0 ≤ vnM x ∧ vnM x ≤ 100) :
    CallsC Try.prog (TF Try.prog Stop) 63 #[.slice ao yss.length cap, .func (.func 22) #[] #[]] w M00 (fun r w' M' => M' = M00 ∧ ∃ u, r = .tuple #[u, .bool (decide (0 < yss.length))] ∧ Own w' w.heap.size u (tal (yss.map vnM)) ∧ Only w w') :=
  tallyT _ _ Try.func22 (by kernel_rfl) rfl ao yss.length cap yss (yss.map vnM) w h hn (hid (List.length_map _)) (hid (el_bd vnM yss hb)) fun j ai m ci w₁ hj hs => by
    rw [el_mapl vnM yss hj]
    exact saysC (by kernel_rfl) fun w₂ o => majorI_any _ _ _ _ w₂ (hs.only o)

/-- The row of the mixed orders by inversions or by major number. -/
def mxrL (p q : List Int) (m : Bool) : List Int := if m then tal ((mxL p q).map vnM) else tal ((mxL p q).map vnI)
theorem mxL_bd (p q : List Int) : (∀ x ∈ mxL p q, 0 ≤ vnI x ∧ vnI x ≤ 100) ∧ (∀ x ∈ mxL p q, 0 ≤ vnM x ∧ vnM x ≤ 100) ∧ (mxL p q).length ≤ 100000 := by
  by_cases h : Two p q ∧ p.length + q.length ≤ 5
  · have o := mxF_ok h.1.1 h.1.2.1 h.2
    exact ⟨o.bI, o.bM, by have := o.len; omega⟩
  · rw [mxL, if_neg h]
    simp

set_option linter.unusedSimpArgs false in
set_option maxHeartbeats 4000000 in
theorem mxrT {Stop : Goroutine → World → Prop} (ao : Option Addr) (a cap : Nat) (xs : List Int) (bo : Option Addr) (b cap2 : Nat) (ys : List Int) (m : Bool) (w : World) (h : Sl w ao a cap xs) (g : Sl w bo b cap2 ys) (hna : a ≤ 2000000) (hnb : b ≤ 2000000) :
    CallsC Try.prog (TF Try.prog Stop) 18 #[.slice ao a cap, .slice bo b cap2, .bool m] w M00 (fun v w' M' => M' = M00 ∧ ∃ u, v = .tuple #[u, .bool (decide (0 < (mxL xs ys).length))] ∧ Own w' w.heap.size u (mxrL xs ys m) ∧ Only w w') := by
  have hS : Fam Try.prog true (fun _ => True) (TF Try.prog Stop) := fam_T
  obtain ⟨hbI, hbM, hl⟩ := mxL_bd xs ys
  cases m with
  | false =>
    simp only [mxrL, if_true, if_false, Bool.false_eq_true]
    refine callsC_of_wpC hS Try.func18 rfl ?_
    simp only [Try.ntmps18, List.size_toArray, List.length_cons, List.length_nil, Nat.reduceAdd, Nat.reduceSub, Array.replicate_succ,
       Array.replicate_zero, List.push_toArray, List.append_toArray, List.nil_append, List.cons_append]
    repeat refine wpC_seq hS ?_
    refine wpC_region hS ?_
    simp only [List.size_toArray, List.length_cons, List.length_nil, Nat.reduceAdd, Nat.zero_add, List.range, List.range.loop]
    repeat first
      | refine opsC_moveA hS rfl rfl (.inl rfl) ?_
      | refine opsC_moveA hS rfl rfl (.inr rfl) ?_
      | refine opsC_binA hS rfl rfl rfl rfl rfl rfl ?_
      | refine opsC_lenA hS rfl rfl rfl (by kernel_rfl) rfl ?_
      | (refine opsC_plain hS rfl rfl fun _ K hK => ?_; go_simp; refine hK _ (by simp [go_sem, events_cap_slice, events_slice_hi, *]) ?_; clear hK K; try walk_nrm)
    refine opsC_nil hS ?_
    show WpC _ _ _ _ _ _ _
    repeat refine wpC_seq hS ?_
    refine wpC_region hS ?_
    simp only [List.size_toArray, List.length_cons, List.length_nil, Nat.reduceAdd, Nat.zero_add, List.range, List.range.loop]
    repeat first
      | refine opsC_moveA hS rfl rfl (.inl rfl) ?_
      | refine opsC_moveA hS rfl rfl (.inr rfl) ?_
      | refine opsC_binA hS rfl rfl rfl rfl rfl rfl ?_
      | refine opsC_lenA hS rfl rfl rfl (by kernel_rfl) rfl ?_
      | (refine opsC_plain hS rfl rfl fun _ K hK => ?_; go_simp; refine hK _ (by simp [go_sem, events_cap_slice, events_slice_hi, *]) ?_; clear hK K; try walk_nrm)
    refine opsC_nil hS ?_
    show WpC _ _ _ _ _ _ _
    repeat refine wpC_seq hS ?_
    refine wpC_cond (t := false) hS rfl ?_
    simp only [if_true, if_false, Bool.false_eq_true]
    refine wpC_skip hS ?_
    show WpC _ _ _ _ _ _ _
    repeat refine wpC_seq hS ?_
    refine wpC_region hS ?_
    simp only [List.size_toArray, List.length_cons, List.length_nil, Nat.reduceAdd, Nat.zero_add, List.range, List.range.loop]
    first
      | refine opsC_moveA hS rfl rfl (.inl rfl) ?_
      | refine opsC_moveA hS rfl rfl (.inr rfl) ?_
      | refine opsC_binA hS rfl rfl rfl rfl rfl rfl ?_
      | refine opsC_lenA hS rfl rfl rfl (by kernel_rfl) rfl ?_
      | (refine opsC_plain hS rfl rfl fun _ K hK => ?_; go_simp; refine hK _ (by simp [go_sem, events_cap_slice, events_slice_hi, *]) ?_; clear hK K; try walk_nrm)
    first
      | refine opsC_moveA hS rfl rfl (.inl rfl) ?_
      | refine opsC_moveA hS rfl rfl (.inr rfl) ?_
      | refine opsC_binA hS rfl rfl rfl rfl rfl rfl ?_
      | refine opsC_lenA hS rfl rfl rfl (by kernel_rfl) rfl ?_
      | (refine opsC_plain hS rfl rfl fun _ K hK => ?_; go_simp; refine hK _ (by simp [go_sem, events_cap_slice, events_slice_hi, *]) ?_; clear hK K; try walk_nrm)
    refine opsC_callF hS rfl rfl rfl Try.func57 (by kernel_rfl) rfl (by simp only [List.map_toArray, List.map_cons, List.map_nil]; rfl) (mxT _ _ _ xs _ _ _ ys w h g hna hnb) ?_
    rintro v w2 M' ⟨rfl, own, o2⟩
    obtain ⟨al, cl, rfl, sl⟩ := own.sl
    refine opsC_callF hS rfl rfl rfl Try.func63 (by kernel_rfl) rfl (by simp only [List.map_toArray, List.map_cons, List.map_nil]; rfl) (tallyOI _ _ (mxL xs ys) w2 sl hl hbI) ?_
    rintro _ w3 M' ⟨rfl, u, rfl, own3, o3⟩
    (refine opsC_plain hS rfl rfl fun _ K hK => ?_; go_simp; refine hK _ (by simp [go_sem, events_cap_slice, events_slice_hi, *]) ?_; clear hK K; try walk_nrm)
    (refine opsC_plain hS rfl rfl fun _ K hK => ?_; go_simp; refine hK _ (by simp [go_sem, events_cap_slice, events_slice_hi, *]) ?_; clear hK K; try walk_nrm)
    repeat first
      | refine opsC_moveA hS rfl rfl (.inl rfl) ?_
      | refine opsC_moveA hS rfl rfl (.inr rfl) ?_
      | refine opsC_binA hS rfl rfl rfl rfl rfl rfl ?_
      | refine opsC_lenA hS rfl rfl rfl (by kernel_rfl) rfl ?_
      | (refine opsC_plain hS rfl rfl fun _ K hK => ?_; go_simp; refine hK _ (by simp [go_sem, events_cap_slice, events_slice_hi, *]) ?_; clear hK K; try walk_nrm)
    refine opsC_nil hS ?_
    show WpC _ _ _ _ _ _ _
    refine wpC_ret hS ⟨rfl, _, resultsC_tmp2 rfl _, ?_⟩
    exact ⟨rfl, u, rfl, own3.mono o2.size, o2.trans o3⟩
  | true =>
    simp only [mxrL, if_true, if_false, Bool.false_eq_true]
    refine callsC_of_wpC hS Try.func18 rfl ?_
    simp only [Try.ntmps18, List.size_toArray, List.length_cons, List.length_nil, Nat.reduceAdd, Nat.reduceSub, Array.replicate_succ,
       Array.replicate_zero, List.push_toArray, List.append_toArray, List.nil_append, List.cons_append]
    repeat refine wpC_seq hS ?_
    refine wpC_region hS ?_
    simp only [List.size_toArray, List.length_cons, List.length_nil, Nat.reduceAdd, Nat.zero_add, List.range, List.range.loop]
    repeat first
      | refine opsC_moveA hS rfl rfl (.inl rfl) ?_
      | refine opsC_moveA hS rfl rfl (.inr rfl) ?_
      | refine opsC_binA hS rfl rfl rfl rfl rfl rfl ?_
      | refine opsC_lenA hS rfl rfl rfl (by kernel_rfl) rfl ?_
      | (refine opsC_plain hS rfl rfl fun _ K hK => ?_; go_simp; refine hK _ (by simp [go_sem, events_cap_slice, events_slice_hi, *]) ?_; clear hK K; try walk_nrm)
    refine opsC_nil hS ?_
    show WpC _ _ _ _ _ _ _
    repeat refine wpC_seq hS ?_
    refine wpC_region hS ?_
    simp only [List.size_toArray, List.length_cons, List.length_nil, Nat.reduceAdd, Nat.zero_add, List.range, List.range.loop]
    repeat first
      | refine opsC_moveA hS rfl rfl (.inl rfl) ?_
      | refine opsC_moveA hS rfl rfl (.inr rfl) ?_
      | refine opsC_binA hS rfl rfl rfl rfl rfl rfl ?_
      | refine opsC_lenA hS rfl rfl rfl (by kernel_rfl) rfl ?_
      | (refine opsC_plain hS rfl rfl fun _ K hK => ?_; go_simp; refine hK _ (by simp [go_sem, events_cap_slice, events_slice_hi, *]) ?_; clear hK K; try walk_nrm)
    refine opsC_nil hS ?_
    show WpC _ _ _ _ _ _ _
    repeat refine wpC_seq hS ?_
    refine wpC_cond (t := true) hS rfl ?_
    simp only [if_true, if_false, Bool.false_eq_true]
    repeat refine wpC_seq hS ?_
    refine wpC_region hS ?_
    simp only [List.size_toArray, List.length_cons, List.length_nil, Nat.reduceAdd, Nat.zero_add, List.range, List.range.loop]
    first
      | refine opsC_moveA hS rfl rfl (.inl rfl) ?_
      | refine opsC_moveA hS rfl rfl (.inr rfl) ?_
      | refine opsC_binA hS rfl rfl rfl rfl rfl rfl ?_
      | refine opsC_lenA hS rfl rfl rfl (by kernel_rfl) rfl ?_
      | (refine opsC_plain hS rfl rfl fun _ K hK => ?_; go_simp; refine hK _ (by simp [go_sem, events_cap_slice, events_slice_hi, *]) ?_; clear hK K; try walk_nrm)
    first
      | refine opsC_moveA hS rfl rfl (.inl rfl) ?_
      | refine opsC_moveA hS rfl rfl (.inr rfl) ?_
      | refine opsC_binA hS rfl rfl rfl rfl rfl rfl ?_
      | refine opsC_lenA hS rfl rfl rfl (by kernel_rfl) rfl ?_
      | (refine opsC_plain hS rfl rfl fun _ K hK => ?_; go_simp; refine hK _ (by simp [go_sem, events_cap_slice, events_slice_hi, *]) ?_; clear hK K; try walk_nrm)
    refine opsC_callF hS rfl rfl rfl Try.func57 (by kernel_rfl) rfl (by simp only [List.map_toArray, List.map_cons, List.map_nil]; rfl) (mxT _ _ _ xs _ _ _ ys w h g hna hnb) ?_
    rintro v w2 M' ⟨rfl, own, o2⟩
    obtain ⟨al, cl, rfl, sl⟩ := own.sl
    refine opsC_callF hS rfl rfl rfl Try.func63 (by kernel_rfl) rfl (by simp only [List.map_toArray, List.map_cons, List.map_nil]; rfl) (tallyOM _ _ (mxL xs ys) w2 sl hl hbM) ?_
    rintro _ w3 M' ⟨rfl, u, rfl, own3, o3⟩
    (refine opsC_plain hS rfl rfl fun _ K hK => ?_; go_simp; refine hK _ (by simp [go_sem, events_cap_slice, events_slice_hi, *]) ?_; clear hK K; try walk_nrm)
    (refine opsC_plain hS rfl rfl fun _ K hK => ?_; go_simp; refine hK _ (by simp [go_sem, events_cap_slice, events_slice_hi, *]) ?_; clear hK K; try walk_nrm)
    repeat first
      | refine opsC_moveA hS rfl rfl (.inl rfl) ?_
      | refine opsC_moveA hS rfl rfl (.inr rfl) ?_
      | refine opsC_binA hS rfl rfl rfl rfl rfl rfl ?_
      | refine opsC_lenA hS rfl rfl rfl (by kernel_rfl) rfl ?_
      | (refine opsC_plain hS rfl rfl fun _ K hK => ?_; go_simp; refine hK _ (by simp [go_sem, events_cap_slice, events_slice_hi, *]) ?_; clear hK K; try walk_nrm)
    refine opsC_nil hS ?_
    show WpC _ _ _ _ _ _ _
    refine wpC_ret hS ⟨rfl, _, resultsC_tmp2 rfl _, ?_⟩
    exact ⟨rfl, u, rfl, own3.mono o2.size, o2.trans o3⟩

end Go.Proofs.Ytjphaphnmclbcaa
