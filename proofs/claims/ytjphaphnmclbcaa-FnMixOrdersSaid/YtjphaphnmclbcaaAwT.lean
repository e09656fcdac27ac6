/- AllWords of the program: beside leavers. Condition: the list's cells can be read. -/
import Derived.Test.YtjphaphnmclbcaaBng
import Derived.Test.YtjphaphnmclbcaaTk
import Derived.Test.YtjphaphnmclbcaaCwd
namespace Go.Proofs.Ytjphaphnmclbcaa
open Go Go.Conc Go.RowKit

/-- A slice of four as an array. -/
theorem opsC_arr4 {main : Bool} {Sh : Nat → Prop} {ι : Type} {C : Gh ι → Goroutine → World → Prop} {fn : FuncId} {Q : Exit → Act → World → Gh ι → Prop} {a a' : Act} {w : World} {M : Gh ι} {ops : Array Oper} {i : Nat} {rest : List Nat} {o : Oper}
    (hS : Fam Try.prog main Sh C) (ho : ops[i]? = some o) (hw : Region.wanted o (yielded ops a.tmps) = true) {x : Operand} {ad : Addr} {c : Nat} (hop : o.op = .sliceToArrayPointer 63 x) (hx : a.eval x = .slice (some ad) 4 c)
    (ha : a.put o.dst (.pointer (some ad)) = a') (h : OpsC C fn ops rest Q a' w M) : OpsC C fn ops (i :: rest) Q a w M := by
  have hu := Try.underlying63
  refine opsC_val hS ho hw (v := .pointer (some ad)) (fun w => ?_) (fun w => ?_) ha h
  · unfold execOp
    simp only [hop, hx]
    simp [Instr.arrayAt, run_underlying hu]
  · unfold execOp
    simp only [hop, hx]
    simp [Instr.arrayAt, run_underlying hu]

def awL (c : List Int) : List (List Int) := if VC c ∧ sumL c ≤ 5 then wordsL c else []

theorem wgo_len : ∀ (t : Nat) (b : List Int) (c : List Nat), (wgo t b c).length ≤ 4 ^ t
  | 0, _, _ => by simp [wgo]
  | t + 1, b, c => by
    simp only [wgo, List.range, List.range.loop, List.flatMap_cons, List.flatMap_nil, List.append_nil, List.length_append]
    have key : ∀ k : Nat, (if c.getD k 0 = 0 then ([] : List (List Int)) else wgo t (b ++ [(k : Int)]) (c.set k (c.getD k 0 - 1))).length ≤ 4 ^ t := by
      intro k
      split
      · simp
      · exact wgo_len t _ _
    have h0 := key 0
    have h1 := key 1
    have h2 := key 2
    have h3 := key 3
    rw [Nat.pow_succ]
    omega

set_option linter.unusedSimpArgs false in
set_option maxHeartbeats 4000000 in
theorem awT {Stop : Goroutine → World → Prop} (ao : Option Addr) (n cap : Nat) (xs : List Int) (w : World) (h : Sl w ao n cap xs) :
    CallsC Try.prog (TF Try.prog Stop) 35 #[.slice ao n cap] w M00 (fun v w' M' => M' = M00 ∧ OwnL w' w.heap.size w'.heap.size v (awL xs) ∧ Only w w') := by
  have hS : Fam Try.prog true (fun _ => True) (TF Try.prog Stop) := fam_T
  refine callsC_of_wpC hS Try.func35 rfl ?_
  simp only [Try.ntmps35, List.size_toArray, List.length_cons, List.length_nil, Nat.reduceAdd, Nat.reduceSub, Array.replicate_succ,
     Array.replicate_zero, List.push_toArray, List.append_toArray, List.nil_append, List.cons_append]
  repeat refine wpC_seq hS ?_
  refine wpC_region hS ?_
  simp only [List.size_toArray, List.length_cons, List.length_nil, Nat.reduceAdd, Nat.zero_add, List.range, List.range.loop]
  repeat first
    | refine opsC_moveA hS rfl rfl (.inl rfl) ?_
    | refine opsC_moveA hS rfl rfl (.inr rfl) ?_
    | refine opsC_binA hS rfl rfl rfl rfl rfl rfl ?_
    | refine opsC_lenA hS rfl rfl rfl (by kernel_rfl) rfl ?_
    | (refine opsC_plain hS rfl rfl fun _ K hK => ?_; go_simp; refine hK _ (by simp [go_sem, events_cap_slice, events_slice_hi, *]) ?_; clear hK K; try walk_nrm)
  refine opsC_nil hS ?_
  show WpC _ _ _ _ _ _ _
  repeat refine wpC_seq hS ?_
  refine wpC_region hS ?_
  simp only [List.size_toArray, List.length_cons, List.length_nil, Nat.reduceAdd, Nat.zero_add, List.range, List.range.loop]
  first
    | refine opsC_moveA hS rfl rfl (.inl rfl) ?_
    | refine opsC_moveA hS rfl rfl (.inr rfl) ?_
    | refine opsC_binA hS rfl rfl rfl rfl rfl rfl ?_
    | refine opsC_lenA hS rfl rfl rfl (by kernel_rfl) rfl ?_
    | (refine opsC_plain hS rfl rfl fun _ K hK => ?_; go_simp; refine hK _ (by simp [go_sem, events_cap_slice, events_slice_hi, *]) ?_; clear hK K; try walk_nrm)
  refine opsC_callF hS rfl rfl rfl Try.func77 (by kernel_rfl) rfl (by simp only [List.map_toArray, List.map_cons, List.map_nil]; rfl) (saysC (by kernel_rfl) fun w₁ o => letI_any ao n cap xs w₁ (h.only o)) ?_
  rintro v w1 M' ⟨rfl, rfl, o1⟩
  repeat first
    | refine opsC_moveA hS rfl rfl (.inl rfl) ?_
    | refine opsC_moveA hS rfl rfl (.inr rfl) ?_
    | refine opsC_binA hS rfl rfl rfl rfl rfl rfl ?_
    | refine opsC_lenA hS rfl rfl rfl (by kernel_rfl) rfl ?_
    | (refine opsC_plain hS rfl rfl fun _ K hK => ?_; go_simp; refine hK _ (by simp [go_sem, events_cap_slice, events_slice_hi, *]) ?_; clear hK K; try walk_nrm)
  refine opsC_nil hS ?_
  show WpC _ _ _ _ _ _ _
  by_cases hv : VC xs
  · obtain ⟨l0, l1, l2, l3, rfl, hs7, hsum⟩ := hv.nat
    rw [onCi_yes hv, hsum]
    repeat refine wpC_seq hS ?_
    refine wpC_region hS ?_
    simp only [List.size_toArray, List.length_cons, List.length_nil, Nat.reduceAdd, Nat.zero_add, List.range, List.range.loop]
    first
      | refine opsC_moveA hS rfl rfl (.inl rfl) ?_
      | refine opsC_moveA hS rfl rfl (.inr rfl) ?_
      | refine opsC_binA hS rfl rfl rfl rfl rfl rfl ?_
      | refine opsC_lenA hS rfl rfl rfl (by kernel_rfl) rfl ?_
      | (refine opsC_plain hS rfl rfl fun _ K hK => ?_; go_simp; refine hK _ (by simp [go_sem, events_cap_slice, events_slice_hi, *]) ?_; clear hK K; try walk_nrm)
    refine opsC_binA (v := .bool false) hS rfl rfl rfl rfl rfl (by simp [int2]; omega) ?_
    first
      | refine opsC_moveA hS rfl rfl (.inl rfl) ?_
      | refine opsC_moveA hS rfl rfl (.inr rfl) ?_
      | refine opsC_binA hS rfl rfl rfl rfl rfl rfl ?_
      | refine opsC_lenA hS rfl rfl rfl (by kernel_rfl) rfl ?_
      | (refine opsC_plain hS rfl rfl fun _ K hK => ?_; go_simp; refine hK _ (by simp [go_sem, events_cap_slice, events_slice_hi, *]) ?_; clear hK K; try walk_nrm)
    first
      | refine opsC_moveA hS rfl rfl (.inl rfl) ?_
      | refine opsC_moveA hS rfl rfl (.inr rfl) ?_
      | refine opsC_binA hS rfl rfl rfl rfl rfl rfl ?_
      | refine opsC_lenA hS rfl rfl rfl (by kernel_rfl) rfl ?_
      | (refine opsC_plain hS rfl rfl fun _ K hK => ?_; go_simp; refine hK _ (by simp [go_sem, events_cap_slice, events_slice_hi, *]) ?_; clear hK K; try walk_nrm)
    by_cases h5 : l0 + l1 + l2 + l3 ≤ 5
    · have aw : awL [(l0 : Int), l1, l2, l3] = wgo ([l0, l1, l2, l3].sum) [] [l0, l1, l2, l3] := by
        unfold awL wordsL
        rw [if_pos ⟨hv, by rw [hsum]; omega⟩]
        simp
      rw [aw]
      refine opsC_binA (v := .bool false) hS rfl rfl rfl rfl rfl (by simp [int2]; omega) ?_
      (refine opsC_plain hS rfl rfl fun _ K hK => ?_; go_simp; refine hK _ (by simp [go_sem, events_cap_slice, events_slice_hi, *]) ?_; clear hK K; try walk_nrm)
      refine opsC_nil hS ?_
      show WpC _ _ _ _ _ _ _
      repeat refine wpC_seq hS ?_
      refine wpC_cond (t := false) hS rfl ?_
      simp only [if_true, if_false, Bool.false_eq_true]
      refine wpC_skip hS ?_
      show WpC _ _ _ _ _ _ _
      repeat refine wpC_seq hS ?_
      refine wpC_region hS ?_
      simp only [List.size_toArray, List.length_cons, List.length_nil, Nat.reduceAdd, Nat.zero_add, List.range, List.range.loop]
      obtain ⟨b, off, rfl, hlt, hcells⟩ := h.row (by have := h.len; simp at this; omega)
      have hn4 : n = 4 := by have := h.len; simp at this; omega
      subst hn4
      first
        | refine opsC_moveA hS rfl rfl (.inl rfl) ?_
        | refine opsC_moveA hS rfl rfl (.inr rfl) ?_
        | refine opsC_binA hS rfl rfl rfl rfl rfl rfl ?_
        | refine opsC_lenA hS rfl rfl rfl (by kernel_rfl) rfl ?_
        | (refine opsC_plain hS rfl rfl fun _ K hK => ?_; go_simp; refine hK _ (by simp [go_sem, events_cap_slice, events_slice_hi, *]) ?_; clear hK K; try walk_nrm)
      refine opsC_arr4 (ad := ⟨b, off, none⟩) hS rfl rfl rfl rfl (by (with_reducible simp only [Act.put, Act.eval, Array.getD_eq_getD_getElem?, List.getElem?_toArray, List.getElem_toArray, List.getElem_cons_zero, List.getElem_cons_succ, List.getElem?_cons_zero, List.getElem?_cons_succ, Option.getD_some, List.setIfInBounds_toArray, List.set_cons_zero, List.set_cons_succ]); exact rfl) ?_
      refine opsC_cells (ad := ⟨b, off, none⟩) (vs := [.int .i64 (l0 : Int), .int .i64 (l1 : Int), .int .i64 (l2 : Int), .int .i64 (l3 : Int)]) hS rfl rfl rfl (by kernel_rfl) (by kernel_rfl) rfl ?_ (by (with_reducible simp only [Act.put, Act.eval, Array.getD_eq_getD_getElem?, List.getElem?_toArray, List.getElem_toArray, List.getElem_cons_zero, List.getElem_cons_succ, List.getElem?_cons_zero, List.getElem?_cons_succ, Option.getD_some, List.setIfInBounds_toArray, List.set_cons_zero, List.set_cons_succ]); exact rfl) ?_
      · intro j v hj
        rw [Addr.add_lit]
        have hj4 : j < 4 := (List.getElem?_eq_some_iff.1 hj).1
        have hcj := (cell_eq (o1.keep _ hlt)).trans (hcells j hj4)
        rw [hcj]
        match j, hj with
        | 0, hj => exact hj
        | 1, hj => exact hj
        | 2, hj => exact hj
        | 3, hj => exact hj
      refine opsC_callF hS rfl rfl rfl Try.func72 (by kernel_rfl) rfl (by simp only [List.map_toArray, List.map_cons, List.map_nil]; rfl) (callsC_T (R := fun v w' => OwnL w' w1.heap.size w'.heap.size v (wgo ([l0, l1, l2, l3].sum) [] [l0, l1, l2, l3]) ∧ Only w1 w') fun cf cs hR => listWords_T [l0, l1, l2, l3] w1 rfl (by simp; omega) (Nat.le_trans (wgo_len _ _ _) (Nat.le_trans (Nat.pow_le_pow_right (by omega) (show [l0, l1, l2, l3].sum ≤ 7 by simp; omega)) (by decide))) cf cs Stop fun v w' h1 h2 => hR v w' ⟨h1, h2⟩) ?_
      rintro v w2 M' ⟨rfl, own, o2⟩
      repeat first
        | refine opsC_moveA hS rfl rfl (.inl rfl) ?_
        | refine opsC_moveA hS rfl rfl (.inr rfl) ?_
        | refine opsC_binA hS rfl rfl rfl rfl rfl rfl ?_
        | refine opsC_lenA hS rfl rfl rfl (by kernel_rfl) rfl ?_
        | (refine opsC_plain hS rfl rfl fun _ K hK => ?_; go_simp; refine hK _ (by simp [go_sem, events_cap_slice, events_slice_hi, *]) ?_; clear hK K; try walk_nrm)
      refine opsC_nil hS ?_
      show WpC _ _ _ _ _ _ _
      refine wpC_ret hS ⟨rfl, _, resultsC_tmp rfl _, ?_⟩
      exact ⟨rfl, own.mono o1.size, o1.trans o2⟩
    · have aw : awL [(l0 : Int), l1, l2, l3] = [] := if_neg fun h => by rw [hsum] at h; omega
      rw [aw]
      refine opsC_binA (v := .bool true) hS rfl rfl rfl rfl rfl (by simp [int2]; omega) ?_
      (refine opsC_plain hS rfl rfl fun _ K hK => ?_; go_simp; refine hK _ (by simp [go_sem, events_cap_slice, events_slice_hi, *]) ?_; clear hK K; try walk_nrm)
      refine opsC_nil hS ?_
      show WpC _ _ _ _ _ _ _
      repeat refine wpC_seq hS ?_
      refine wpC_cond (t := true) hS rfl ?_
      simp only [if_true, if_false, Bool.false_eq_true]
      repeat refine wpC_seq hS ?_
      refine wpC_region hS ?_
      simp only [List.size_toArray, List.length_cons, List.length_nil, Nat.reduceAdd, Nat.zero_add, List.range, List.range.loop]
      repeat first
        | refine opsC_moveA hS rfl rfl (.inl rfl) ?_
        | refine opsC_moveA hS rfl rfl (.inr rfl) ?_
        | refine opsC_binA hS rfl rfl rfl rfl rfl rfl ?_
        | refine opsC_lenA hS rfl rfl rfl (by kernel_rfl) rfl ?_
        | (refine opsC_plain hS rfl rfl fun _ K hK => ?_; go_simp; refine hK _ (by simp [go_sem, events_cap_slice, events_slice_hi, *]) ?_; clear hK K; try walk_nrm)
      refine opsC_nil hS ?_
      show WpC _ _ _ _ _ _ _
      refine wpC_ret hS ⟨rfl, _, resultsC_tmp rfl _, ?_⟩
      exact ⟨rfl, (OwnL.nil (B := w.heap.size) o1.size).now, o1⟩
  · have aw : awL xs = [] := if_neg fun h => hv h.1
    rw [onCi_no hv, aw]
    repeat refine wpC_seq hS ?_
    refine wpC_region hS ?_
    simp only [List.size_toArray, List.length_cons, List.length_nil, Nat.reduceAdd, Nat.zero_add, List.range, List.range.loop]
    first
      | refine opsC_moveA hS rfl rfl (.inl rfl) ?_
      | refine opsC_moveA hS rfl rfl (.inr rfl) ?_
      | refine opsC_binA hS rfl rfl rfl rfl rfl rfl ?_
      | refine opsC_lenA hS rfl rfl rfl (by kernel_rfl) rfl ?_
      | (refine opsC_plain hS rfl rfl fun _ K hK => ?_; go_simp; refine hK _ (by simp [go_sem, events_cap_slice, events_slice_hi, *]) ?_; clear hK K; try walk_nrm)
    refine opsC_binA (v := .bool true) hS rfl rfl rfl rfl rfl (rfl) ?_
    first
      | refine opsC_moveA hS rfl rfl (.inl rfl) ?_
      | refine opsC_moveA hS rfl rfl (.inr rfl) ?_
      | refine opsC_binA hS rfl rfl rfl rfl rfl rfl ?_
      | refine opsC_lenA hS rfl rfl rfl (by kernel_rfl) rfl ?_
      | (refine opsC_plain hS rfl rfl fun _ K hK => ?_; go_simp; refine hK _ (by simp [go_sem, events_cap_slice, events_slice_hi, *]) ?_; clear hK K; try walk_nrm)
    refine opsC_unwanted hS rfl rfl ?_
    refine opsC_unwanted hS rfl rfl ?_
    (refine opsC_plain hS rfl rfl fun _ K hK => ?_; go_simp; refine hK _ (by simp [go_sem, events_cap_slice, events_slice_hi, *]) ?_; clear hK K; try walk_nrm)
    refine opsC_nil hS ?_
    show WpC _ _ _ _ _ _ _
    repeat refine wpC_seq hS ?_
    refine wpC_cond (t := true) hS rfl ?_
    simp only [if_true, if_false, Bool.false_eq_true]
    repeat refine wpC_seq hS ?_
    refine wpC_region hS ?_
    simp only [List.size_toArray, List.length_cons, List.length_nil, Nat.reduceAdd, Nat.zero_add, List.range, List.range.loop]
    repeat first
      | refine opsC_moveA hS rfl rfl (.inl rfl) ?_
      | refine opsC_moveA hS rfl rfl (.inr rfl) ?_
      | refine opsC_binA hS rfl rfl rfl rfl rfl rfl ?_
      | refine opsC_lenA hS rfl rfl rfl (by kernel_rfl) rfl ?_
      | (refine opsC_plain hS rfl rfl fun _ K hK => ?_; go_simp; refine hK _ (by simp [go_sem, events_cap_slice, events_slice_hi, *]) ?_; clear hK K; try walk_nrm)
    refine opsC_nil hS ?_
    show WpC _ _ _ _ _ _ _
    refine wpC_ret hS ⟨rfl, _, resultsC_tmp rfl _, ?_⟩
    exact ⟨rfl, (OwnL.nil (B := w.heap.size) o1.size).now, o1⟩

end Go.Proofs.Ytjphaphnmclbcaa
