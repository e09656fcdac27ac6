/- WordRow of the program, beside leavers. Condition: the list's cells can be read. -/
import Derived.Test.YtjphaphnmclbcaaBnT
import Derived.Test.YtjphaphnmclbcaaAwT
namespace Go.Proofs.Ytjphaphnmclbcaa
open Go Go.Conc Go.RowKit

/-- The row of the words of a content by inversions or by major number. -/
def wrL (c : List Int) (m : Bool) : List Int := if m then tal ((awL c).map wnM) else tal ((awL c).map wnI)
theorem awL_bd (c : List Int) : (∀ x ∈ awL c, 0 ≤ wnI x ∧ wnI x ≤ 100) ∧ (∀ x ∈ awL c, 0 ≤ wnM x ∧ wnM x ≤ 100) ∧ (awL c).length ≤ 100000 := by
  by_cases h : VC c ∧ sumL c ≤ 5
  · have := vc_all (fun c => (awL c).all (fun x => decide ((0 ≤ wnI x ∧ wnI x ≤ 100) ∧ (0 ≤ wnM x ∧ wnM x ≤ 100))) && decide ((awL c).length ≤ 100000)) (by decide +kernel) c h.1
    rw [Bool.and_eq_true] at this
    have h2 := fun x hx => of_decide_eq_true (List.all_eq_true.1 this.1 x hx)
    exact ⟨fun x hx => (h2 x hx).1, fun x hx => (h2 x hx).2, of_decide_eq_true this.2⟩
  · rw [awL, if_neg h]
    simp

set_option linter.unusedSimpArgs false in
set_option maxHeartbeats 4000000 in
theorem wrT {Stop : Goroutine → World → Prop} (ao : Option Addr) (n cap : Nat) (xs : List Int) (m : Bool) (w : World) (h : Sl w ao n cap xs) :
    CallsC Try.prog (TF Try.prog Stop) 54 #[.slice ao n cap, .bool m] w M00 (fun v w' M' => M' = M00 ∧ ∃ u, v = .tuple #[u, .bool (decide (0 < (awL xs).length))] ∧ Own w' w.heap.size u (wrL xs m) ∧ Only w w') := by
  have hS : Fam Try.prog true (fun _ => True) (TF Try.prog Stop) := fam_T
  obtain ⟨hbI, hbM, hl⟩ := awL_bd xs
  cases m with
  | false =>
    simp only [wrL, if_true, if_false, Bool.false_eq_true]
    refine callsC_of_wpC hS Try.func54 rfl ?_
    simp only [Try.ntmps54, List.size_toArray, List.length_cons, List.length_nil, Nat.reduceAdd, Nat.reduceSub, Array.replicate_succ,
       Array.replicate_zero, List.push_toArray, List.append_toArray, List.nil_append, List.cons_append]
    repeat refine wpC_seq hS ?_
    refine wpC_region hS ?_
    simp only [List.size_toArray, List.length_cons, List.length_nil, Nat.reduceAdd, Nat.zero_add, List.range, List.range.loop]
    repeat first
      | refine opsC_moveA hS rfl rfl (.inl rfl) ?_
      | refine opsC_moveA hS rfl rfl (.inr rfl) ?_
      | refine opsC_binA hS rfl rfl rfl rfl rfl rfl ?_
      | refine opsC_lenA hS rfl rfl rfl (by kernel_rfl) rfl ?_
      | (refine opsC_plain hS rfl rfl fun _ K hK => ?_; go_simp; refine hK _ (by simp [go_sem, events_cap_slice, events_slice_hi, *]) ?_; clear hK K; try walk_nrm)
    refine opsC_nil hS ?_
    show WpC _ _ _ _ _ _ _
    repeat refine wpC_seq hS ?_
    refine wpC_region hS ?_
    simp only [List.size_toArray, List.length_cons, List.length_nil, Nat.reduceAdd, Nat.zero_add, List.range, List.range.loop]
    repeat first
      | refine opsC_moveA hS rfl rfl (.inl rfl) ?_
      | refine opsC_moveA hS rfl rfl (.inr rfl) ?_
      | refine opsC_binA hS rfl rfl rfl rfl rfl rfl ?_
      | refine opsC_lenA hS rfl rfl rfl (by kernel_rfl) rfl ?_
      | (refine opsC_plain hS rfl rfl fun _ K hK => ?_; go_simp; refine hK _ (by simp [go_sem, events_cap_slice, events_slice_hi, *]) ?_; clear hK K; try walk_nrm)
    refine opsC_nil hS ?_
    show WpC _ _ _ _ _ _ _
    repeat refine wpC_seq hS ?_
    refine wpC_cond (t := false) hS rfl ?_
    simp only [if_true, if_false, Bool.false_eq_true]
    refine wpC_skip hS ?_
    show WpC _ _ _ _ _ _ _
    repeat refine wpC_seq hS ?_
    refine wpC_region hS ?_
    simp only [List.size_toArray, List.length_cons, List.length_nil, Nat.reduceAdd, Nat.zero_add, List.range, List.range.loop]
    first
      | refine opsC_moveA hS rfl rfl (.inl rfl) ?_
      | refine opsC_moveA hS rfl rfl (.inr rfl) ?_
      | refine opsC_binA hS rfl rfl rfl rfl rfl rfl ?_
      | refine opsC_lenA hS rfl rfl rfl (by kernel_rfl) rfl ?_
      | (refine opsC_plain hS rfl rfl fun _ K hK => ?_; go_simp; refine hK _ (by simp [go_sem, events_cap_slice, events_slice_hi, *]) ?_; clear hK K; try walk_nrm)
    refine opsC_callF hS rfl rfl rfl Try.func35 (by kernel_rfl) rfl (by simp only [List.map_toArray, List.map_cons, List.map_nil]; rfl) (awT _ _ _ xs w h) ?_
    rintro v w2 M' ⟨rfl, own, o2⟩
    obtain ⟨al, cl, rfl, sl⟩ := own.sl
    refine opsC_callF hS rfl rfl rfl Try.func63 (by kernel_rfl) rfl (by simp only [List.map_toArray, List.map_cons, List.map_nil]; rfl) (tallyI _ _ (awL xs) w2 sl hl hbI) ?_
    rintro _ w3 M' ⟨rfl, u, rfl, own3, o3⟩
    (refine opsC_plain hS rfl rfl fun _ K hK => ?_; go_simp; refine hK _ (by simp [go_sem, events_cap_slice, events_slice_hi, *]) ?_; clear hK K; try walk_nrm)
    (refine opsC_plain hS rfl rfl fun _ K hK => ?_; go_simp; refine hK _ (by simp [go_sem, events_cap_slice, events_slice_hi, *]) ?_; clear hK K; try walk_nrm)
    repeat first
      | refine opsC_moveA hS rfl rfl (.inl rfl) ?_
      | refine opsC_moveA hS rfl rfl (.inr rfl) ?_
      | refine opsC_binA hS rfl rfl rfl rfl rfl rfl ?_
      | refine opsC_lenA hS rfl rfl rfl (by kernel_rfl) rfl ?_
      | (refine opsC_plain hS rfl rfl fun _ K hK => ?_; go_simp; refine hK _ (by simp [go_sem, events_cap_slice, events_slice_hi, *]) ?_; clear hK K; try walk_nrm)
    refine opsC_nil hS ?_
    show WpC _ _ _ _ _ _ _
    refine wpC_ret hS ⟨rfl, _, resultsC_tmp2 rfl _, ?_⟩
    exact ⟨rfl, u, rfl, own3.mono o2.size, o2.trans o3⟩
  | true =>
    simp only [wrL, if_true, if_false, Bool.false_eq_true]
    refine callsC_of_wpC hS Try.func54 rfl ?_
    simp only [Try.ntmps54, List.size_toArray, List.length_cons, List.length_nil, Nat.reduceAdd, Nat.reduceSub, Array.replicate_succ,
       Array.replicate_zero, List.push_toArray, List.append_toArray, List.nil_append, List.cons_append]
    repeat refine wpC_seq hS ?_
    refine wpC_region hS ?_
    simp only [List.size_toArray, List.length_cons, List.length_nil, Nat.reduceAdd, Nat.zero_add, List.range, List.range.loop]
    repeat first
      | refine opsC_moveA hS rfl rfl (.inl rfl) ?_
      | refine opsC_moveA hS rfl rfl (.inr rfl) ?_
      | refine opsC_binA hS rfl rfl rfl rfl rfl rfl ?_
      | refine opsC_lenA hS rfl rfl rfl (by kernel_rfl) rfl ?_
      | (refine opsC_plain hS rfl rfl fun _ K hK => ?_; go_simp; refine hK _ (by simp [go_sem, events_cap_slice, events_slice_hi, *]) ?_; clear hK K; try walk_nrm)
    refine opsC_nil hS ?_
    show WpC _ _ _ _ _ _ _
    repeat refine wpC_seq hS ?_
    refine wpC_region hS ?_
    simp only [List.size_toArray, List.length_cons, List.length_nil, Nat.reduceAdd, Nat.zero_add, List.range, List.range.loop]
    repeat first
      | refine opsC_moveA hS rfl rfl (.inl rfl) ?_
      | refine opsC_moveA hS rfl rfl (.inr rfl) ?_
      | refine opsC_binA hS rfl rfl rfl rfl rfl rfl ?_
      | refine opsC_lenA hS rfl rfl rfl (by kernel_rfl) rfl ?_
      | (refine opsC_plain hS rfl rfl fun _ K hK => ?_; go_simp; refine hK _ (by simp [go_sem, events_cap_slice, events_slice_hi, *]) ?_; clear hK K; try walk_nrm)
    refine opsC_nil hS ?_
    show WpC _ _ _ _ _ _ _
    repeat refine wpC_seq hS ?_
    refine wpC_cond (t := true) hS rfl ?_
    simp only [if_true, if_false, Bool.false_eq_true]
    repeat refine wpC_seq hS ?_
    refine wpC_region hS ?_
    simp only [List.size_toArray, List.length_cons, List.length_nil, Nat.reduceAdd, Nat.zero_add, List.range, List.range.loop]
    first
      | refine opsC_moveA hS rfl rfl (.inl rfl) ?_
      | refine opsC_moveA hS rfl rfl (.inr rfl) ?_
      | refine opsC_binA hS rfl rfl rfl rfl rfl rfl ?_
      | refine opsC_lenA hS rfl rfl rfl (by kernel_rfl) rfl ?_
      | (refine opsC_plain hS rfl rfl fun _ K hK => ?_; go_simp; refine hK _ (by simp [go_sem, events_cap_slice, events_slice_hi, *]) ?_; clear hK K; try walk_nrm)
    refine opsC_callF hS rfl rfl rfl Try.func35 (by kernel_rfl) rfl (by simp only [List.map_toArray, List.map_cons, List.map_nil]; rfl) (awT _ _ _ xs w h) ?_
    rintro v w2 M' ⟨rfl, own, o2⟩
    obtain ⟨al, cl, rfl, sl⟩ := own.sl
    refine opsC_callF hS rfl rfl rfl Try.func63 (by kernel_rfl) rfl (by simp only [List.map_toArray, List.map_cons, List.map_nil]; rfl) (tallyM _ _ (awL xs) w2 sl hl hbM) ?_
    rintro _ w3 M' ⟨rfl, u, rfl, own3, o3⟩
    (refine opsC_plain hS rfl rfl fun _ K hK => ?_; go_simp; refine hK _ (by simp [go_sem, events_cap_slice, events_slice_hi, *]) ?_; clear hK K; try walk_nrm)
    (refine opsC_plain hS rfl rfl fun _ K hK => ?_; go_simp; refine hK _ (by simp [go_sem, events_cap_slice, events_slice_hi, *]) ?_; clear hK K; try walk_nrm)
    repeat first
      | refine opsC_moveA hS rfl rfl (.inl rfl) ?_
      | refine opsC_moveA hS rfl rfl (.inr rfl) ?_
      | refine opsC_binA hS rfl rfl rfl rfl rfl rfl ?_
      | refine opsC_lenA hS rfl rfl rfl (by kernel_rfl) rfl ?_
      | (refine opsC_plain hS rfl rfl fun _ K hK => ?_; go_simp; refine hK _ (by simp [go_sem, events_cap_slice, events_slice_hi, *]) ?_; clear hK K; try walk_nrm)
    refine opsC_nil hS ?_
    show WpC _ _ _ _ _ _ _
    refine wpC_ret hS ⟨rfl, _, resultsC_tmp2 rfl _, ?_⟩
    exact ⟨rfl, u, rfl, own3.mono o2.size, o2.trans o3⟩

end Go.Proofs.Ytjphaphnmclbcaa
