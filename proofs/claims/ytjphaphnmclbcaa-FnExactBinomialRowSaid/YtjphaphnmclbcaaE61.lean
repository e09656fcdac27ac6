/- The walk of the exact law of BinomialRow, beside leavers. No condition. -/
import Derived.Test.YtjphaphnmclbcaaBnT
import Derived.Test.YtjphaphnmclbcaaBrS
import Derived.Test.YtjphaphnmclbcaaTm
namespace Go.Proofs.Ytjphaphnmclbcaa
open Go Go.Conc Go.RowKit

set_option linter.unusedSimpArgs false in
set_option maxHeartbeats 4000000 in
theorem fnExactBinomialRow_T (n k : Int) (W : World) (_ : -9223372036854775808 ≤ n ∧ n ≤ 9223372036854775807) (_ : -9223372036854775808 ≤ k ∧ k ≤ 9223372036854775807) :
    ∃ N last o w' t', runNT Try.prog (N + 1) (solo (G (Frame.enter Try.prog 10 #[.int .i64 n, .int .i64 k] .normal) []) W) #[] = (.ended o w', t') ∧ runN Try.prog N (solo (G (Frame.enter Try.prog 10 #[.int .i64 n, .int .i64 k] .normal) []) W) = .next last ∧
      step Try.prog last = .ended o w' ∧ Go.Conc.Good Try.prog (fun v W' => v = .bool true ∧ Only W W') last o w' t' := by
  refine good_of_wpC Try.func10 rfl (by kernel_rfl) fun Stop => ?_
  have hS : Fam Try.prog true (fun _ => True) (TF Try.prog Stop) := fam_T
  simp only [Try.ntmps10, List.size_toArray, List.length_cons, List.length_nil, Nat.reduceAdd, Nat.reduceSub, Array.replicate_succ,
     Array.replicate_zero, List.push_toArray, List.append_toArray, List.nil_append, List.cons_append]
  repeat refine wpC_seq hS ?_
  refine wpC_region hS ?_
  simp only [List.size_toArray, List.length_cons, List.length_nil, Nat.reduceAdd, Nat.zero_add, List.range, List.range.loop]
  repeat first
    | refine opsC_move hS rfl rfl (.inl rfl) (by (with_reducible simp only [Act.put, Act.eval, Array.getD_eq_getD_getElem?, List.getElem?_toArray, List.getElem_toArray, List.getElem_cons_zero, List.getElem_cons_succ, List.getElem?_cons_zero, List.getElem?_cons_succ, Option.getD_some, List.setIfInBounds_toArray, List.set_cons_zero, List.set_cons_succ]); exact rfl) ?_
    | refine opsC_move hS rfl rfl (.inr rfl) (by (with_reducible simp only [Act.put, Act.eval, Array.getD_eq_getD_getElem?, List.getElem?_toArray, List.getElem_toArray, List.getElem_cons_zero, List.getElem_cons_succ, List.getElem?_cons_zero, List.getElem?_cons_succ, Option.getD_some, List.setIfInBounds_toArray, List.set_cons_zero, List.set_cons_succ]); exact rfl) ?_
    | refine opsC_bin hS rfl rfl rfl rfl rfl rfl (by (with_reducible simp only [Act.put, Act.eval, Array.getD_eq_getD_getElem?, List.getElem?_toArray, List.getElem_toArray, List.getElem_cons_zero, List.getElem_cons_succ, List.getElem?_cons_zero, List.getElem?_cons_succ, Option.getD_some, List.setIfInBounds_toArray, List.set_cons_zero, List.set_cons_succ]); exact rfl) ?_
    | refine opsC_len hS rfl rfl rfl (by kernel_rfl) rfl (by (with_reducible simp only [Act.put, Act.eval, Array.getD_eq_getD_getElem?, List.getElem?_toArray, List.getElem_toArray, List.getElem_cons_zero, List.getElem_cons_succ, List.getElem?_cons_zero, List.getElem?_cons_succ, Option.getD_some, List.setIfInBounds_toArray, List.set_cons_zero, List.set_cons_succ]); exact rfl) ?_
    | (refine opsC_plain hS rfl rfl fun _ K hK => ?_; go_simp; refine hK _ (by simp [go_sem, events_cap_slice, events_slice_hi, *]) ?_; clear hK K; try walk_nrm)
  refine opsC_nil hS ?_
  show WpC _ _ _ _ _ _ _
  obtain ⟨R, hR⟩ : ∃ R, R = binL n k := ⟨_, rfl⟩
  have hlen : R.length ≤ 1000 := by
    rw [hR]
    unfold binL
    split
    · rename_i hv
      rw [(bR_at (n := n.toNat) (k := k.toNat) (by omega) (by omega)).1]
      have := Nat.mul_le_mul (show k.toNat ≤ 7 by omega) (show n.toNat - k.toNat ≤ 7 by omega)
      omega
    · simp
  have hspec := fun w₁ => BRS n k w₁
  have himpl := fun w₁ => binT (Stop := Stop) n k w₁
  rw [← hR] at hspec himpl
  clear hR
  repeat refine wpC_seq hS ?_
  refine wpC_region hS ?_
  simp only [List.size_toArray, List.length_cons, List.length_nil, Nat.reduceAdd, Nat.zero_add, List.range, List.range.loop]
  first
    | refine opsC_move hS rfl rfl (.inl rfl) (by (with_reducible simp only [Act.put, Act.eval, Array.getD_eq_getD_getElem?, List.getElem?_toArray, List.getElem_toArray, List.getElem_cons_zero, List.getElem_cons_succ, List.getElem?_cons_zero, List.getElem?_cons_succ, Option.getD_some, List.setIfInBounds_toArray, List.set_cons_zero, List.set_cons_succ]); exact rfl) ?_
    | refine opsC_move hS rfl rfl (.inr rfl) (by (with_reducible simp only [Act.put, Act.eval, Array.getD_eq_getD_getElem?, List.getElem?_toArray, List.getElem_toArray, List.getElem_cons_zero, List.getElem_cons_succ, List.getElem?_cons_zero, List.getElem?_cons_succ, Option.getD_some, List.setIfInBounds_toArray, List.set_cons_zero, List.set_cons_succ]); exact rfl) ?_
    | refine opsC_bin hS rfl rfl rfl rfl rfl rfl (by (with_reducible simp only [Act.put, Act.eval, Array.getD_eq_getD_getElem?, List.getElem?_toArray, List.getElem_toArray, List.getElem_cons_zero, List.getElem_cons_succ, List.getElem?_cons_zero, List.getElem?_cons_succ, Option.getD_some, List.setIfInBounds_toArray, List.set_cons_zero, List.set_cons_succ]); exact rfl) ?_
    | refine opsC_len hS rfl rfl rfl (by kernel_rfl) rfl (by (with_reducible simp only [Act.put, Act.eval, Array.getD_eq_getD_getElem?, List.getElem?_toArray, List.getElem_toArray, List.getElem_cons_zero, List.getElem_cons_succ, List.getElem?_cons_zero, List.getElem?_cons_succ, Option.getD_some, List.setIfInBounds_toArray, List.set_cons_zero, List.set_cons_succ]); exact rfl) ?_
    | (refine opsC_plain hS rfl rfl fun _ K hK => ?_; go_simp; refine hK _ (by simp [go_sem, events_cap_slice, events_slice_hi, *]) ?_; clear hK K; try walk_nrm)
  first
    | refine opsC_move hS rfl rfl (.inl rfl) (by (with_reducible simp only [Act.put, Act.eval, Array.getD_eq_getD_getElem?, List.getElem?_toArray, List.getElem_toArray, List.getElem_cons_zero, List.getElem_cons_succ, List.getElem?_cons_zero, List.getElem?_cons_succ, Option.getD_some, List.setIfInBounds_toArray, List.set_cons_zero, List.set_cons_succ]); exact rfl) ?_
    | refine opsC_move hS rfl rfl (.inr rfl) (by (with_reducible simp only [Act.put, Act.eval, Array.getD_eq_getD_getElem?, List.getElem?_toArray, List.getElem_toArray, List.getElem_cons_zero, List.getElem_cons_succ, List.getElem?_cons_zero, List.getElem?_cons_succ, Option.getD_some, List.setIfInBounds_toArray, List.set_cons_zero, List.set_cons_succ]); exact rfl) ?_
    | refine opsC_bin hS rfl rfl rfl rfl rfl rfl (by (with_reducible simp only [Act.put, Act.eval, Array.getD_eq_getD_getElem?, List.getElem?_toArray, List.getElem_toArray, List.getElem_cons_zero, List.getElem_cons_succ, List.getElem?_cons_zero, List.getElem?_cons_succ, Option.getD_some, List.setIfInBounds_toArray, List.set_cons_zero, List.set_cons_succ]); exact rfl) ?_
    | refine opsC_len hS rfl rfl rfl (by kernel_rfl) rfl (by (with_reducible simp only [Act.put, Act.eval, Array.getD_eq_getD_getElem?, List.getElem?_toArray, List.getElem_toArray, List.getElem_cons_zero, List.getElem_cons_succ, List.getElem?_cons_zero, List.getElem?_cons_succ, Option.getD_some, List.setIfInBounds_toArray, List.set_cons_zero, List.set_cons_succ]); exact rfl) ?_
    | (refine opsC_plain hS rfl rfl fun _ K hK => ?_; go_simp; refine hK _ (by simp [go_sem, events_cap_slice, events_slice_hi, *]) ?_; clear hK K; try walk_nrm)
  refine opsC_callF hS rfl rfl rfl Try.func47 (by kernel_rfl) rfl (by simp only [List.map_toArray, List.map_cons, List.map_nil]; rfl) (madeC (ys := R) (by kernel_rfl) fun w₁ _ => hspec w₁) ?_
  rintro vw w1 M' ⟨rfl, own1, o1⟩
  have hb1 := own1.blocks
  repeat first
    | refine opsC_move hS rfl rfl (.inl rfl) (by (with_reducible simp only [Act.put, Act.eval, Array.getD_eq_getD_getElem?, List.getElem?_toArray, List.getElem_toArray, List.getElem_cons_zero, List.getElem_cons_succ, List.getElem?_cons_zero, List.getElem?_cons_succ, Option.getD_some, List.setIfInBounds_toArray, List.set_cons_zero, List.set_cons_succ]); exact rfl) ?_
    | refine opsC_move hS rfl rfl (.inr rfl) (by (with_reducible simp only [Act.put, Act.eval, Array.getD_eq_getD_getElem?, List.getElem?_toArray, List.getElem_toArray, List.getElem_cons_zero, List.getElem_cons_succ, List.getElem?_cons_zero, List.getElem?_cons_succ, Option.getD_some, List.setIfInBounds_toArray, List.set_cons_zero, List.set_cons_succ]); exact rfl) ?_
    | refine opsC_bin hS rfl rfl rfl rfl rfl rfl (by (with_reducible simp only [Act.put, Act.eval, Array.getD_eq_getD_getElem?, List.getElem?_toArray, List.getElem_toArray, List.getElem_cons_zero, List.getElem_cons_succ, List.getElem?_cons_zero, List.getElem?_cons_succ, Option.getD_some, List.setIfInBounds_toArray, List.set_cons_zero, List.set_cons_succ]); exact rfl) ?_
    | refine opsC_len hS rfl rfl rfl (by kernel_rfl) rfl (by (with_reducible simp only [Act.put, Act.eval, Array.getD_eq_getD_getElem?, List.getElem?_toArray, List.getElem_toArray, List.getElem_cons_zero, List.getElem_cons_succ, List.getElem?_cons_zero, List.getElem?_cons_succ, Option.getD_some, List.setIfInBounds_toArray, List.set_cons_zero, List.set_cons_succ]); exact rfl) ?_
    | (refine opsC_plain hS rfl rfl fun _ K hK => ?_; go_simp; refine hK _ (by simp [go_sem, events_cap_slice, events_slice_hi, *]) ?_; clear hK K; try walk_nrm)
  refine opsC_nil hS ?_
  show WpC _ _ _ _ _ _ _
  repeat refine wpC_seq hS ?_
  refine wpC_region hS ?_
  simp only [List.size_toArray, List.length_cons, List.length_nil, Nat.reduceAdd, Nat.zero_add, List.range, List.range.loop]
  first
    | refine opsC_move hS rfl rfl (.inl rfl) (by (with_reducible simp only [Act.put, Act.eval, Array.getD_eq_getD_getElem?, List.getElem?_toArray, List.getElem_toArray, List.getElem_cons_zero, List.getElem_cons_succ, List.getElem?_cons_zero, List.getElem?_cons_succ, Option.getD_some, List.setIfInBounds_toArray, List.set_cons_zero, List.set_cons_succ]); exact rfl) ?_
    | refine opsC_move hS rfl rfl (.inr rfl) (by (with_reducible simp only [Act.put, Act.eval, Array.getD_eq_getD_getElem?, List.getElem?_toArray, List.getElem_toArray, List.getElem_cons_zero, List.getElem_cons_succ, List.getElem?_cons_zero, List.getElem?_cons_succ, Option.getD_some, List.setIfInBounds_toArray, List.set_cons_zero, List.set_cons_succ]); exact rfl) ?_
    | refine opsC_bin hS rfl rfl rfl rfl rfl rfl (by (with_reducible simp only [Act.put, Act.eval, Array.getD_eq_getD_getElem?, List.getElem?_toArray, List.getElem_toArray, List.getElem_cons_zero, List.getElem_cons_succ, List.getElem?_cons_zero, List.getElem?_cons_succ, Option.getD_some, List.setIfInBounds_toArray, List.set_cons_zero, List.set_cons_succ]); exact rfl) ?_
    | refine opsC_len hS rfl rfl rfl (by kernel_rfl) rfl (by (with_reducible simp only [Act.put, Act.eval, Array.getD_eq_getD_getElem?, List.getElem?_toArray, List.getElem_toArray, List.getElem_cons_zero, List.getElem_cons_succ, List.getElem?_cons_zero, List.getElem?_cons_succ, Option.getD_some, List.setIfInBounds_toArray, List.set_cons_zero, List.set_cons_succ]); exact rfl) ?_
    | (refine opsC_plain hS rfl rfl fun _ K hK => ?_; go_simp; refine hK _ (by simp [go_sem, events_cap_slice, events_slice_hi, *]) ?_; clear hK K; try walk_nrm)
  first
    | refine opsC_move hS rfl rfl (.inl rfl) (by (with_reducible simp only [Act.put, Act.eval, Array.getD_eq_getD_getElem?, List.getElem?_toArray, List.getElem_toArray, List.getElem_cons_zero, List.getElem_cons_succ, List.getElem?_cons_zero, List.getElem?_cons_succ, Option.getD_some, List.setIfInBounds_toArray, List.set_cons_zero, List.set_cons_succ]); exact rfl) ?_
    | refine opsC_move hS rfl rfl (.inr rfl) (by (with_reducible simp only [Act.put, Act.eval, Array.getD_eq_getD_getElem?, List.getElem?_toArray, List.getElem_toArray, List.getElem_cons_zero, List.getElem_cons_succ, List.getElem?_cons_zero, List.getElem?_cons_succ, Option.getD_some, List.setIfInBounds_toArray, List.set_cons_zero, List.set_cons_succ]); exact rfl) ?_
    | refine opsC_bin hS rfl rfl rfl rfl rfl rfl (by (with_reducible simp only [Act.put, Act.eval, Array.getD_eq_getD_getElem?, List.getElem?_toArray, List.getElem_toArray, List.getElem_cons_zero, List.getElem_cons_succ, List.getElem?_cons_zero, List.getElem?_cons_succ, Option.getD_some, List.setIfInBounds_toArray, List.set_cons_zero, List.set_cons_succ]); exact rfl) ?_
    | refine opsC_len hS rfl rfl rfl (by kernel_rfl) rfl (by (with_reducible simp only [Act.put, Act.eval, Array.getD_eq_getD_getElem?, List.getElem?_toArray, List.getElem_toArray, List.getElem_cons_zero, List.getElem_cons_succ, List.getElem?_cons_zero, List.getElem?_cons_succ, Option.getD_some, List.setIfInBounds_toArray, List.set_cons_zero, List.set_cons_succ]); exact rfl) ?_
    | (refine opsC_plain hS rfl rfl fun _ K hK => ?_; go_simp; refine hK _ (by simp [go_sem, events_cap_slice, events_slice_hi, *]) ?_; clear hK K; try walk_nrm)
  refine opsC_callF hS rfl rfl rfl Try.func23 (by kernel_rfl) rfl (by simp only [List.map_toArray, List.map_cons, List.map_nil]; rfl) (himpl w1) ?_
  rintro vg w2 M' ⟨rfl, own2, o2⟩
  have p2 := o1.trans o2
  have own1a := own1.only o2
  have hne : ∀ q, vw.ownBlock = some q → some q ≠ vg.ownBlock := fun q hq e => by
    have h1 := (own1.blocks q hq).2
    have h2 := (own2.blocks q e.symm).1
    omega
  obtain ⟨ag, cg, hvg, sg⟩ := own2.sl
  obtain ⟨aw, cw, hvw, sw⟩ := own1a.sl
  subst hvg hvw
  repeat first
    | refine opsC_move hS rfl rfl (.inl rfl) (by (with_reducible simp only [Act.put, Act.eval, Array.getD_eq_getD_getElem?, List.getElem?_toArray, List.getElem_toArray, List.getElem_cons_zero, List.getElem_cons_succ, List.getElem?_cons_zero, List.getElem?_cons_succ, Option.getD_some, List.setIfInBounds_toArray, List.set_cons_zero, List.set_cons_succ]); exact rfl) ?_
    | refine opsC_move hS rfl rfl (.inr rfl) (by (with_reducible simp only [Act.put, Act.eval, Array.getD_eq_getD_getElem?, List.getElem?_toArray, List.getElem_toArray, List.getElem_cons_zero, List.getElem_cons_succ, List.getElem?_cons_zero, List.getElem?_cons_succ, Option.getD_some, List.setIfInBounds_toArray, List.set_cons_zero, List.set_cons_succ]); exact rfl) ?_
    | refine opsC_bin hS rfl rfl rfl rfl rfl rfl (by (with_reducible simp only [Act.put, Act.eval, Array.getD_eq_getD_getElem?, List.getElem?_toArray, List.getElem_toArray, List.getElem_cons_zero, List.getElem_cons_succ, List.getElem?_cons_zero, List.getElem?_cons_succ, Option.getD_some, List.setIfInBounds_toArray, List.set_cons_zero, List.set_cons_succ]); exact rfl) ?_
    | refine opsC_len hS rfl rfl rfl (by kernel_rfl) rfl (by (with_reducible simp only [Act.put, Act.eval, Array.getD_eq_getD_getElem?, List.getElem?_toArray, List.getElem_toArray, List.getElem_cons_zero, List.getElem_cons_succ, List.getElem?_cons_zero, List.getElem?_cons_succ, Option.getD_some, List.setIfInBounds_toArray, List.set_cons_zero, List.set_cons_succ]); exact rfl) ?_
    | (refine opsC_plain hS rfl rfl fun _ K hK => ?_; go_simp; refine hK _ (by simp [go_sem, events_cap_slice, events_slice_hi, *]) ?_; clear hK K; try walk_nrm)
  refine opsC_nil hS ?_
  show WpC _ _ _ _ _ _ _
  repeat refine wpC_seq hS ?_
  refine wpC_region hS ?_
  simp only [List.size_toArray, List.length_cons, List.length_nil, Nat.reduceAdd, Nat.zero_add, List.range, List.range.loop]
  first
    | refine opsC_move hS rfl rfl (.inl rfl) (by (with_reducible simp only [Act.put, Act.eval, Array.getD_eq_getD_getElem?, List.getElem?_toArray, List.getElem_toArray, List.getElem_cons_zero, List.getElem_cons_succ, List.getElem?_cons_zero, List.getElem?_cons_succ, Option.getD_some, List.setIfInBounds_toArray, List.set_cons_zero, List.set_cons_succ]); exact rfl) ?_
    | refine opsC_move hS rfl rfl (.inr rfl) (by (with_reducible simp only [Act.put, Act.eval, Array.getD_eq_getD_getElem?, List.getElem?_toArray, List.getElem_toArray, List.getElem_cons_zero, List.getElem_cons_succ, List.getElem?_cons_zero, List.getElem?_cons_succ, Option.getD_some, List.setIfInBounds_toArray, List.set_cons_zero, List.set_cons_succ]); exact rfl) ?_
    | refine opsC_bin hS rfl rfl rfl rfl rfl rfl (by (with_reducible simp only [Act.put, Act.eval, Array.getD_eq_getD_getElem?, List.getElem?_toArray, List.getElem_toArray, List.getElem_cons_zero, List.getElem_cons_succ, List.getElem?_cons_zero, List.getElem?_cons_succ, Option.getD_some, List.setIfInBounds_toArray, List.set_cons_zero, List.set_cons_succ]); exact rfl) ?_
    | refine opsC_len hS rfl rfl rfl (by kernel_rfl) rfl (by (with_reducible simp only [Act.put, Act.eval, Array.getD_eq_getD_getElem?, List.getElem?_toArray, List.getElem_toArray, List.getElem_cons_zero, List.getElem_cons_succ, List.getElem?_cons_zero, List.getElem?_cons_succ, Option.getD_some, List.setIfInBounds_toArray, List.set_cons_zero, List.set_cons_succ]); exact rfl) ?_
    | (refine opsC_plain hS rfl rfl fun _ K hK => ?_; go_simp; refine hK _ (by simp [go_sem, events_cap_slice, events_slice_hi, *]) ?_; clear hK K; try walk_nrm)
  first
    | refine opsC_move hS rfl rfl (.inl rfl) (by (with_reducible simp only [Act.put, Act.eval, Array.getD_eq_getD_getElem?, List.getElem?_toArray, List.getElem_toArray, List.getElem_cons_zero, List.getElem_cons_succ, List.getElem?_cons_zero, List.getElem?_cons_succ, Option.getD_some, List.setIfInBounds_toArray, List.set_cons_zero, List.set_cons_succ]); exact rfl) ?_
    | refine opsC_move hS rfl rfl (.inr rfl) (by (with_reducible simp only [Act.put, Act.eval, Array.getD_eq_getD_getElem?, List.getElem?_toArray, List.getElem_toArray, List.getElem_cons_zero, List.getElem_cons_succ, List.getElem?_cons_zero, List.getElem?_cons_succ, Option.getD_some, List.setIfInBounds_toArray, List.set_cons_zero, List.set_cons_succ]); exact rfl) ?_
    | refine opsC_bin hS rfl rfl rfl rfl rfl rfl (by (with_reducible simp only [Act.put, Act.eval, Array.getD_eq_getD_getElem?, List.getElem?_toArray, List.getElem_toArray, List.getElem_cons_zero, List.getElem_cons_succ, List.getElem?_cons_zero, List.getElem?_cons_succ, Option.getD_some, List.setIfInBounds_toArray, List.set_cons_zero, List.set_cons_succ]); exact rfl) ?_
    | refine opsC_len hS rfl rfl rfl (by kernel_rfl) rfl (by (with_reducible simp only [Act.put, Act.eval, Array.getD_eq_getD_getElem?, List.getElem?_toArray, List.getElem_toArray, List.getElem_cons_zero, List.getElem_cons_succ, List.getElem?_cons_zero, List.getElem?_cons_succ, Option.getD_some, List.setIfInBounds_toArray, List.set_cons_zero, List.set_cons_succ]); exact rfl) ?_
    | (refine opsC_plain hS rfl rfl fun _ K hK => ?_; go_simp; refine hK _ (by simp [go_sem, events_cap_slice, events_slice_hi, *]) ?_; clear hK K; try walk_nrm)
  refine opsC_callF hS rfl rfl rfl Try.func25 (by kernel_rfl) rfl (by simp only [List.map_toArray, List.map_cons, List.map_nil]; rfl) (saysC (v := .bool true) (by kernel_rfl) fun w₁ o => (eqIntS_any _ _ _ _ _ _ _ _ w₁ (sg.only o) (sw.only o)).mono (by rintro e w' ⟨rfl, hb⟩; exact ⟨by simp, hb⟩)) ?_
  rintro v w3 M' ⟨rfl, rfl, o3⟩
  (refine opsC_plain hS rfl rfl fun _ K hK => ?_; go_simp; refine hK _ (by simp [go_sem, events_cap_slice, events_slice_hi, *]) ?_; clear hK K; try walk_nrm)
  refine opsC_nil hS ?_
  show WpC _ _ _ _ _ _ _
  repeat refine wpC_seq hS ?_
  refine wpC_cond (t := false) hS rfl ?_
  simp only [if_true, if_false, Bool.false_eq_true]
  refine wpC_skip hS ?_
  show WpC _ _ _ _ _ _ _
  repeat refine wpC_seq hS ?_
  refine wpC_region hS ?_
  simp only [List.size_toArray, List.length_cons, List.length_nil, Nat.reduceAdd, Nat.zero_add, List.range, List.range.loop]
  repeat first
    | refine opsC_move hS rfl rfl (.inl rfl) (by (with_reducible simp only [Act.put, Act.eval, Array.getD_eq_getD_getElem?, List.getElem?_toArray, List.getElem_toArray, List.getElem_cons_zero, List.getElem_cons_succ, List.getElem?_cons_zero, List.getElem?_cons_succ, Option.getD_some, List.setIfInBounds_toArray, List.set_cons_zero, List.set_cons_succ]); exact rfl) ?_
    | refine opsC_move hS rfl rfl (.inr rfl) (by (with_reducible simp only [Act.put, Act.eval, Array.getD_eq_getD_getElem?, List.getElem?_toArray, List.getElem_toArray, List.getElem_cons_zero, List.getElem_cons_succ, List.getElem?_cons_zero, List.getElem?_cons_succ, Option.getD_some, List.setIfInBounds_toArray, List.set_cons_zero, List.set_cons_succ]); exact rfl) ?_
    | refine opsC_bin hS rfl rfl rfl rfl rfl rfl (by (with_reducible simp only [Act.put, Act.eval, Array.getD_eq_getD_getElem?, List.getElem?_toArray, List.getElem_toArray, List.getElem_cons_zero, List.getElem_cons_succ, List.getElem?_cons_zero, List.getElem?_cons_succ, Option.getD_some, List.setIfInBounds_toArray, List.set_cons_zero, List.set_cons_succ]); exact rfl) ?_
    | refine opsC_len hS rfl rfl rfl (by kernel_rfl) rfl (by (with_reducible simp only [Act.put, Act.eval, Array.getD_eq_getD_getElem?, List.getElem?_toArray, List.getElem_toArray, List.getElem_cons_zero, List.getElem_cons_succ, List.getElem?_cons_zero, List.getElem?_cons_succ, Option.getD_some, List.setIfInBounds_toArray, List.set_cons_zero, List.set_cons_succ]); exact rfl) ?_
    | (refine opsC_plain hS rfl rfl fun _ K hK => ?_; go_simp; refine hK _ (by simp [go_sem, events_cap_slice, events_slice_hi, *]) ?_; clear hK K; try walk_nrm)
  refine opsC_nil hS ?_
  show WpC _ _ _ _ _ _ _
  repeat refine wpC_seq hS ?_
  refine wpC_region hS ?_
  simp only [List.size_toArray, List.length_cons, List.length_nil, Nat.reduceAdd, Nat.zero_add, List.range, List.range.loop]
  first
    | refine opsC_move hS rfl rfl (.inl rfl) (by (with_reducible simp only [Act.put, Act.eval, Array.getD_eq_getD_getElem?, List.getElem?_toArray, List.getElem_toArray, List.getElem_cons_zero, List.getElem_cons_succ, List.getElem?_cons_zero, List.getElem?_cons_succ, Option.getD_some, List.setIfInBounds_toArray, List.set_cons_zero, List.set_cons_succ]); exact rfl) ?_
    | refine opsC_move hS rfl rfl (.inr rfl) (by (with_reducible simp only [Act.put, Act.eval, Array.getD_eq_getD_getElem?, List.getElem?_toArray, List.getElem_toArray, List.getElem_cons_zero, List.getElem_cons_succ, List.getElem?_cons_zero, List.getElem?_cons_succ, Option.getD_some, List.setIfInBounds_toArray, List.set_cons_zero, List.set_cons_succ]); exact rfl) ?_
    | refine opsC_bin hS rfl rfl rfl rfl rfl rfl (by (with_reducible simp only [Act.put, Act.eval, Array.getD_eq_getD_getElem?, List.getElem?_toArray, List.getElem_toArray, List.getElem_cons_zero, List.getElem_cons_succ, List.getElem?_cons_zero, List.getElem?_cons_succ, Option.getD_some, List.setIfInBounds_toArray, List.set_cons_zero, List.set_cons_succ]); exact rfl) ?_
    | refine opsC_len hS rfl rfl rfl (by kernel_rfl) rfl (by (with_reducible simp only [Act.put, Act.eval, Array.getD_eq_getD_getElem?, List.getElem?_toArray, List.getElem_toArray, List.getElem_cons_zero, List.getElem_cons_succ, List.getElem?_cons_zero, List.getElem?_cons_succ, Option.getD_some, List.setIfInBounds_toArray, List.set_cons_zero, List.set_cons_succ]); exact rfl) ?_
    | (refine opsC_plain hS rfl rfl fun _ K hK => ?_; go_simp; refine hK _ (by simp [go_sem, events_cap_slice, events_slice_hi, *]) ?_; clear hK K; try walk_nrm)
  first
    | refine opsC_move hS rfl rfl (.inl rfl) (by (with_reducible simp only [Act.put, Act.eval, Array.getD_eq_getD_getElem?, List.getElem?_toArray, List.getElem_toArray, List.getElem_cons_zero, List.getElem_cons_succ, List.getElem?_cons_zero, List.getElem?_cons_succ, Option.getD_some, List.setIfInBounds_toArray, List.set_cons_zero, List.set_cons_succ]); exact rfl) ?_
    | refine opsC_move hS rfl rfl (.inr rfl) (by (with_reducible simp only [Act.put, Act.eval, Array.getD_eq_getD_getElem?, List.getElem?_toArray, List.getElem_toArray, List.getElem_cons_zero, List.getElem_cons_succ, List.getElem?_cons_zero, List.getElem?_cons_succ, Option.getD_some, List.setIfInBounds_toArray, List.set_cons_zero, List.set_cons_succ]); exact rfl) ?_
    | refine opsC_bin hS rfl rfl rfl rfl rfl rfl (by (with_reducible simp only [Act.put, Act.eval, Array.getD_eq_getD_getElem?, List.getElem?_toArray, List.getElem_toArray, List.getElem_cons_zero, List.getElem_cons_succ, List.getElem?_cons_zero, List.getElem?_cons_succ, Option.getD_some, List.setIfInBounds_toArray, List.set_cons_zero, List.set_cons_succ]); exact rfl) ?_
    | refine opsC_len hS rfl rfl rfl (by kernel_rfl) rfl (by (with_reducible simp only [Act.put, Act.eval, Array.getD_eq_getD_getElem?, List.getElem?_toArray, List.getElem_toArray, List.getElem_cons_zero, List.getElem_cons_succ, List.getElem?_cons_zero, List.getElem?_cons_succ, Option.getD_some, List.setIfInBounds_toArray, List.set_cons_zero, List.set_cons_succ]); exact rfl) ?_
    | (refine opsC_plain hS rfl rfl fun _ K hK => ?_; go_simp; refine hK _ (by simp [go_sem, events_cap_slice, events_slice_hi, *]) ?_; clear hK K; try walk_nrm)
  refine opsC_callF hS rfl rfl rfl Try.func26 (by kernel_rfl) rfl (by simp only [List.map_toArray, List.map_cons, List.map_nil]; rfl) (markC _ _ R 1 w3 (own2.only o3) (by omega) (by omega) (by omega)) ?_
  rintro v w4 M' ⟨rfl, rfl, own4, o4⟩
  have own1b := (own1a.only o3).onlyR o4 hne
  have p4 : Only W w4 := (p2.trans o3).andR o4 fun q hq => Nat.le_trans o1.size (own2.blocks q hq).1
  obtain ⟨_, _, hvg, sg4⟩ := own4.sl
  have hml : (marks 1 R.length).length = R.length := by simp [marks]
  rw [hml] at hvg sg4
  cases hvg
  clear own2 sg
  repeat first
    | refine opsC_move hS rfl rfl (.inl rfl) (by (with_reducible simp only [Act.put, Act.eval, Array.getD_eq_getD_getElem?, List.getElem?_toArray, List.getElem_toArray, List.getElem_cons_zero, List.getElem_cons_succ, List.getElem?_cons_zero, List.getElem?_cons_succ, Option.getD_some, List.setIfInBounds_toArray, List.set_cons_zero, List.set_cons_succ]); exact rfl) ?_
    | refine opsC_move hS rfl rfl (.inr rfl) (by (with_reducible simp only [Act.put, Act.eval, Array.getD_eq_getD_getElem?, List.getElem?_toArray, List.getElem_toArray, List.getElem_cons_zero, List.getElem_cons_succ, List.getElem?_cons_zero, List.getElem?_cons_succ, Option.getD_some, List.setIfInBounds_toArray, List.set_cons_zero, List.set_cons_succ]); exact rfl) ?_
    | refine opsC_bin hS rfl rfl rfl rfl rfl rfl (by (with_reducible simp only [Act.put, Act.eval, Array.getD_eq_getD_getElem?, List.getElem?_toArray, List.getElem_toArray, List.getElem_cons_zero, List.getElem_cons_succ, List.getElem?_cons_zero, List.getElem?_cons_succ, Option.getD_some, List.setIfInBounds_toArray, List.set_cons_zero, List.set_cons_succ]); exact rfl) ?_
    | refine opsC_len hS rfl rfl rfl (by kernel_rfl) rfl (by (with_reducible simp only [Act.put, Act.eval, Array.getD_eq_getD_getElem?, List.getElem?_toArray, List.getElem_toArray, List.getElem_cons_zero, List.getElem_cons_succ, List.getElem?_cons_zero, List.getElem?_cons_succ, Option.getD_some, List.setIfInBounds_toArray, List.set_cons_zero, List.set_cons_succ]); exact rfl) ?_
    | (refine opsC_plain hS rfl rfl fun _ K hK => ?_; go_simp; refine hK _ (by simp [go_sem, events_cap_slice, events_slice_hi, *]) ?_; clear hK K; try walk_nrm)
  refine opsC_nil hS ?_
  show WpC _ _ _ _ _ _ _
  repeat refine wpC_seq hS ?_
  refine wpC_region hS ?_
  simp only [List.size_toArray, List.length_cons, List.length_nil, Nat.reduceAdd, Nat.zero_add, List.range, List.range.loop]
  repeat first
    | refine opsC_move hS rfl rfl (.inl rfl) (by (with_reducible simp only [Act.put, Act.eval, Array.getD_eq_getD_getElem?, List.getElem?_toArray, List.getElem_toArray, List.getElem_cons_zero, List.getElem_cons_succ, List.getElem?_cons_zero, List.getElem?_cons_succ, Option.getD_some, List.setIfInBounds_toArray, List.set_cons_zero, List.set_cons_succ]); exact rfl) ?_
    | refine opsC_move hS rfl rfl (.inr rfl) (by (with_reducible simp only [Act.put, Act.eval, Array.getD_eq_getD_getElem?, List.getElem?_toArray, List.getElem_toArray, List.getElem_cons_zero, List.getElem_cons_succ, List.getElem?_cons_zero, List.getElem?_cons_succ, Option.getD_some, List.setIfInBounds_toArray, List.set_cons_zero, List.set_cons_succ]); exact rfl) ?_
    | refine opsC_bin hS rfl rfl rfl rfl rfl rfl (by (with_reducible simp only [Act.put, Act.eval, Array.getD_eq_getD_getElem?, List.getElem?_toArray, List.getElem_toArray, List.getElem_cons_zero, List.getElem_cons_succ, List.getElem?_cons_zero, List.getElem?_cons_succ, Option.getD_some, List.setIfInBounds_toArray, List.set_cons_zero, List.set_cons_succ]); exact rfl) ?_
    | refine opsC_len hS rfl rfl rfl (by kernel_rfl) rfl (by (with_reducible simp only [Act.put, Act.eval, Array.getD_eq_getD_getElem?, List.getElem?_toArray, List.getElem_toArray, List.getElem_cons_zero, List.getElem_cons_succ, List.getElem?_cons_zero, List.getElem?_cons_succ, Option.getD_some, List.setIfInBounds_toArray, List.set_cons_zero, List.set_cons_succ]); exact rfl) ?_
    | (refine opsC_plain hS rfl rfl fun _ K hK => ?_; go_simp; refine hK _ (by simp [go_sem, events_cap_slice, events_slice_hi, *]) ?_; clear hK K; try walk_nrm)
  refine opsC_nil hS ?_
  show WpC _ _ _ _ _ _ _
  repeat refine wpC_seq hS ?_
  refine wpC_region hS ?_
  simp only [List.size_toArray, List.length_cons, List.length_nil, Nat.reduceAdd, Nat.zero_add, List.range, List.range.loop]
  first
    | refine opsC_move hS rfl rfl (.inl rfl) (by (with_reducible simp only [Act.put, Act.eval, Array.getD_eq_getD_getElem?, List.getElem?_toArray, List.getElem_toArray, List.getElem_cons_zero, List.getElem_cons_succ, List.getElem?_cons_zero, List.getElem?_cons_succ, Option.getD_some, List.setIfInBounds_toArray, List.set_cons_zero, List.set_cons_succ]); exact rfl) ?_
    | refine opsC_move hS rfl rfl (.inr rfl) (by (with_reducible simp only [Act.put, Act.eval, Array.getD_eq_getD_getElem?, List.getElem?_toArray, List.getElem_toArray, List.getElem_cons_zero, List.getElem_cons_succ, List.getElem?_cons_zero, List.getElem?_cons_succ, Option.getD_some, List.setIfInBounds_toArray, List.set_cons_zero, List.set_cons_succ]); exact rfl) ?_
    | refine opsC_bin hS rfl rfl rfl rfl rfl rfl (by (with_reducible simp only [Act.put, Act.eval, Array.getD_eq_getD_getElem?, List.getElem?_toArray, List.getElem_toArray, List.getElem_cons_zero, List.getElem_cons_succ, List.getElem?_cons_zero, List.getElem?_cons_succ, Option.getD_some, List.setIfInBounds_toArray, List.set_cons_zero, List.set_cons_succ]); exact rfl) ?_
    | refine opsC_len hS rfl rfl rfl (by kernel_rfl) rfl (by (with_reducible simp only [Act.put, Act.eval, Array.getD_eq_getD_getElem?, List.getElem?_toArray, List.getElem_toArray, List.getElem_cons_zero, List.getElem_cons_succ, List.getElem?_cons_zero, List.getElem?_cons_succ, Option.getD_some, List.setIfInBounds_toArray, List.set_cons_zero, List.set_cons_succ]); exact rfl) ?_
    | (refine opsC_plain hS rfl rfl fun _ K hK => ?_; go_simp; refine hK _ (by simp [go_sem, events_cap_slice, events_slice_hi, *]) ?_; clear hK K; try walk_nrm)
  first
    | refine opsC_move hS rfl rfl (.inl rfl) (by (with_reducible simp only [Act.put, Act.eval, Array.getD_eq_getD_getElem?, List.getElem?_toArray, List.getElem_toArray, List.getElem_cons_zero, List.getElem_cons_succ, List.getElem?_cons_zero, List.getElem?_cons_succ, Option.getD_some, List.setIfInBounds_toArray, List.set_cons_zero, List.set_cons_succ]); exact rfl) ?_
    | refine opsC_move hS rfl rfl (.inr rfl) (by (with_reducible simp only [Act.put, Act.eval, Array.getD_eq_getD_getElem?, List.getElem?_toArray, List.getElem_toArray, List.getElem_cons_zero, List.getElem_cons_succ, List.getElem?_cons_zero, List.getElem?_cons_succ, Option.getD_some, List.setIfInBounds_toArray, List.set_cons_zero, List.set_cons_succ]); exact rfl) ?_
    | refine opsC_bin hS rfl rfl rfl rfl rfl rfl (by (with_reducible simp only [Act.put, Act.eval, Array.getD_eq_getD_getElem?, List.getElem?_toArray, List.getElem_toArray, List.getElem_cons_zero, List.getElem_cons_succ, List.getElem?_cons_zero, List.getElem?_cons_succ, Option.getD_some, List.setIfInBounds_toArray, List.set_cons_zero, List.set_cons_succ]); exact rfl) ?_
    | refine opsC_len hS rfl rfl rfl (by kernel_rfl) rfl (by (with_reducible simp only [Act.put, Act.eval, Array.getD_eq_getD_getElem?, List.getElem?_toArray, List.getElem_toArray, List.getElem_cons_zero, List.getElem_cons_succ, List.getElem?_cons_zero, List.getElem?_cons_succ, Option.getD_some, List.setIfInBounds_toArray, List.set_cons_zero, List.set_cons_succ]); exact rfl) ?_
    | (refine opsC_plain hS rfl rfl fun _ K hK => ?_; go_simp; refine hK _ (by simp [go_sem, events_cap_slice, events_slice_hi, *]) ?_; clear hK K; try walk_nrm)
  refine opsC_callF hS rfl rfl rfl Try.func27 (by kernel_rfl) rfl (by simp only [List.map_toArray, List.map_cons, List.map_nil]; rfl) (saysC (by kernel_rfl) fun w₁ o => heldIntS_any _ _ _ _ 1 w₁ (sg4.only o) (by omega) (by omega) (by omega) (hid rfl)) ?_
  rintro v w5 M' ⟨rfl, rfl, o5⟩
  have p5 := p4.trans o5
  have sg5 := sg4.only o5
  repeat first
    | refine opsC_move hS rfl rfl (.inl rfl) (by (with_reducible simp only [Act.put, Act.eval, Array.getD_eq_getD_getElem?, List.getElem?_toArray, List.getElem_toArray, List.getElem_cons_zero, List.getElem_cons_succ, List.getElem?_cons_zero, List.getElem?_cons_succ, Option.getD_some, List.setIfInBounds_toArray, List.set_cons_zero, List.set_cons_succ]); exact rfl) ?_
    | refine opsC_move hS rfl rfl (.inr rfl) (by (with_reducible simp only [Act.put, Act.eval, Array.getD_eq_getD_getElem?, List.getElem?_toArray, List.getElem_toArray, List.getElem_cons_zero, List.getElem_cons_succ, List.getElem?_cons_zero, List.getElem?_cons_succ, Option.getD_some, List.setIfInBounds_toArray, List.set_cons_zero, List.set_cons_succ]); exact rfl) ?_
    | refine opsC_bin hS rfl rfl rfl rfl rfl rfl (by (with_reducible simp only [Act.put, Act.eval, Array.getD_eq_getD_getElem?, List.getElem?_toArray, List.getElem_toArray, List.getElem_cons_zero, List.getElem_cons_succ, List.getElem?_cons_zero, List.getElem?_cons_succ, Option.getD_some, List.setIfInBounds_toArray, List.set_cons_zero, List.set_cons_succ]); exact rfl) ?_
    | refine opsC_len hS rfl rfl rfl (by kernel_rfl) rfl (by (with_reducible simp only [Act.put, Act.eval, Array.getD_eq_getD_getElem?, List.getElem?_toArray, List.getElem_toArray, List.getElem_cons_zero, List.getElem_cons_succ, List.getElem?_cons_zero, List.getElem?_cons_succ, Option.getD_some, List.setIfInBounds_toArray, List.set_cons_zero, List.set_cons_succ]); exact rfl) ?_
    | (refine opsC_plain hS rfl rfl fun _ K hK => ?_; go_simp; refine hK _ (by simp [go_sem, events_cap_slice, events_slice_hi, *]) ?_; clear hK K; try walk_nrm)
  refine opsC_nil hS ?_
  show WpC _ _ _ _ _ _ _
  repeat refine wpC_seq hS ?_
  refine wpC_region hS ?_
  simp only [List.size_toArray, List.length_cons, List.length_nil, Nat.reduceAdd, Nat.zero_add, List.range, List.range.loop]
  first
    | refine opsC_move hS rfl rfl (.inl rfl) (by (with_reducible simp only [Act.put, Act.eval, Array.getD_eq_getD_getElem?, List.getElem?_toArray, List.getElem_toArray, List.getElem_cons_zero, List.getElem_cons_succ, List.getElem?_cons_zero, List.getElem?_cons_succ, Option.getD_some, List.setIfInBounds_toArray, List.set_cons_zero, List.set_cons_succ]); exact rfl) ?_
    | refine opsC_move hS rfl rfl (.inr rfl) (by (with_reducible simp only [Act.put, Act.eval, Array.getD_eq_getD_getElem?, List.getElem?_toArray, List.getElem_toArray, List.getElem_cons_zero, List.getElem_cons_succ, List.getElem?_cons_zero, List.getElem?_cons_succ, Option.getD_some, List.setIfInBounds_toArray, List.set_cons_zero, List.set_cons_succ]); exact rfl) ?_
    | refine opsC_bin hS rfl rfl rfl rfl rfl rfl (by (with_reducible simp only [Act.put, Act.eval, Array.getD_eq_getD_getElem?, List.getElem?_toArray, List.getElem_toArray, List.getElem_cons_zero, List.getElem_cons_succ, List.getElem?_cons_zero, List.getElem?_cons_succ, Option.getD_some, List.setIfInBounds_toArray, List.set_cons_zero, List.set_cons_succ]); exact rfl) ?_
    | refine opsC_len hS rfl rfl rfl (by kernel_rfl) rfl (by (with_reducible simp only [Act.put, Act.eval, Array.getD_eq_getD_getElem?, List.getElem?_toArray, List.getElem_toArray, List.getElem_cons_zero, List.getElem_cons_succ, List.getElem?_cons_zero, List.getElem?_cons_succ, Option.getD_some, List.setIfInBounds_toArray, List.set_cons_zero, List.set_cons_succ]); exact rfl) ?_
    | (refine opsC_plain hS rfl rfl fun _ K hK => ?_; go_simp; refine hK _ (by simp [go_sem, events_cap_slice, events_slice_hi, *]) ?_; clear hK K; try walk_nrm)
  refine opsC_bin (v := .bool false) hS rfl rfl rfl rfl rfl (by simp [int2]; omega) (by (with_reducible simp only [Act.put, Act.eval, Array.getD_eq_getD_getElem?, List.getElem?_toArray, List.getElem_toArray, List.getElem_cons_zero, List.getElem_cons_succ, List.getElem?_cons_zero, List.getElem?_cons_succ, Option.getD_some, List.setIfInBounds_toArray, List.set_cons_zero, List.set_cons_succ]); exact rfl) ?_
  refine opsC_nil hS ?_
  show WpC _ _ _ _ _ _ _
  repeat refine wpC_seq hS ?_
  refine wpC_cond (t := false) hS rfl ?_
  simp only [if_true, if_false, Bool.false_eq_true]
  refine wpC_skip hS ?_
  show WpC _ _ _ _ _ _ _
  repeat refine wpC_seq hS ?_
  refine wpC_region hS ?_
  simp only [List.size_toArray, List.length_cons, List.length_nil, Nat.reduceAdd, Nat.zero_add, List.range, List.range.loop]
  first
    | refine opsC_move hS rfl rfl (.inl rfl) (by (with_reducible simp only [Act.put, Act.eval, Array.getD_eq_getD_getElem?, List.getElem?_toArray, List.getElem_toArray, List.getElem_cons_zero, List.getElem_cons_succ, List.getElem?_cons_zero, List.getElem?_cons_succ, Option.getD_some, List.setIfInBounds_toArray, List.set_cons_zero, List.set_cons_succ]); exact rfl) ?_
    | refine opsC_move hS rfl rfl (.inr rfl) (by (with_reducible simp only [Act.put, Act.eval, Array.getD_eq_getD_getElem?, List.getElem?_toArray, List.getElem_toArray, List.getElem_cons_zero, List.getElem_cons_succ, List.getElem?_cons_zero, List.getElem?_cons_succ, Option.getD_some, List.setIfInBounds_toArray, List.set_cons_zero, List.set_cons_succ]); exact rfl) ?_
    | refine opsC_bin hS rfl rfl rfl rfl rfl rfl (by (with_reducible simp only [Act.put, Act.eval, Array.getD_eq_getD_getElem?, List.getElem?_toArray, List.getElem_toArray, List.getElem_cons_zero, List.getElem_cons_succ, List.getElem?_cons_zero, List.getElem?_cons_succ, Option.getD_some, List.setIfInBounds_toArray, List.set_cons_zero, List.set_cons_succ]); exact rfl) ?_
    | refine opsC_len hS rfl rfl rfl (by kernel_rfl) rfl (by (with_reducible simp only [Act.put, Act.eval, Array.getD_eq_getD_getElem?, List.getElem?_toArray, List.getElem_toArray, List.getElem_cons_zero, List.getElem_cons_succ, List.getElem?_cons_zero, List.getElem?_cons_succ, Option.getD_some, List.setIfInBounds_toArray, List.set_cons_zero, List.set_cons_succ]); exact rfl) ?_
    | (refine opsC_plain hS rfl rfl fun _ K hK => ?_; go_simp; refine hK _ (by simp [go_sem, events_cap_slice, events_slice_hi, *]) ?_; clear hK K; try walk_nrm)
  first
    | refine opsC_move hS rfl rfl (.inl rfl) (by (with_reducible simp only [Act.put, Act.eval, Array.getD_eq_getD_getElem?, List.getElem?_toArray, List.getElem_toArray, List.getElem_cons_zero, List.getElem_cons_succ, List.getElem?_cons_zero, List.getElem?_cons_succ, Option.getD_some, List.setIfInBounds_toArray, List.set_cons_zero, List.set_cons_succ]); exact rfl) ?_
    | refine opsC_move hS rfl rfl (.inr rfl) (by (with_reducible simp only [Act.put, Act.eval, Array.getD_eq_getD_getElem?, List.getElem?_toArray, List.getElem_toArray, List.getElem_cons_zero, List.getElem_cons_succ, List.getElem?_cons_zero, List.getElem?_cons_succ, Option.getD_some, List.setIfInBounds_toArray, List.set_cons_zero, List.set_cons_succ]); exact rfl) ?_
    | refine opsC_bin hS rfl rfl rfl rfl rfl rfl (by (with_reducible simp only [Act.put, Act.eval, Array.getD_eq_getD_getElem?, List.getElem?_toArray, List.getElem_toArray, List.getElem_cons_zero, List.getElem_cons_succ, List.getElem?_cons_zero, List.getElem?_cons_succ, Option.getD_some, List.setIfInBounds_toArray, List.set_cons_zero, List.set_cons_succ]); exact rfl) ?_
    | refine opsC_len hS rfl rfl rfl (by kernel_rfl) rfl (by (with_reducible simp only [Act.put, Act.eval, Array.getD_eq_getD_getElem?, List.getElem?_toArray, List.getElem_toArray, List.getElem_cons_zero, List.getElem_cons_succ, List.getElem?_cons_zero, List.getElem?_cons_succ, Option.getD_some, List.setIfInBounds_toArray, List.set_cons_zero, List.set_cons_succ]); exact rfl) ?_
    | (refine opsC_plain hS rfl rfl fun _ K hK => ?_; go_simp; refine hK _ (by simp [go_sem, events_cap_slice, events_slice_hi, *]) ?_; clear hK K; try walk_nrm)
  refine opsC_bin (v := .bool false) hS rfl rfl rfl rfl rfl (by simp [int2]) (by (with_reducible simp only [Act.put, Act.eval, Array.getD_eq_getD_getElem?, List.getElem?_toArray, List.getElem_toArray, List.getElem_cons_zero, List.getElem_cons_succ, List.getElem?_cons_zero, List.getElem?_cons_succ, Option.getD_some, List.setIfInBounds_toArray, List.set_cons_zero, List.set_cons_succ]); exact rfl) ?_
  refine opsC_nil hS ?_
  show WpC _ _ _ _ _ _ _
  repeat refine wpC_seq hS ?_
  refine wpC_cond (t := false) hS rfl ?_
  simp only [if_true, if_false, Bool.false_eq_true]
  refine wpC_skip hS ?_
  show WpC _ _ _ _ _ _ _
  repeat refine wpC_seq hS ?_
  refine wpC_region hS ?_
  simp only [List.size_toArray, List.length_cons, List.length_nil, Nat.reduceAdd, Nat.zero_add, List.range, List.range.loop]
  first
    | refine opsC_move hS rfl rfl (.inl rfl) (by (with_reducible simp only [Act.put, Act.eval, Array.getD_eq_getD_getElem?, List.getElem?_toArray, List.getElem_toArray, List.getElem_cons_zero, List.getElem_cons_succ, List.getElem?_cons_zero, List.getElem?_cons_succ, Option.getD_some, List.setIfInBounds_toArray, List.set_cons_zero, List.set_cons_succ]); exact rfl) ?_
    | refine opsC_move hS rfl rfl (.inr rfl) (by (with_reducible simp only [Act.put, Act.eval, Array.getD_eq_getD_getElem?, List.getElem?_toArray, List.getElem_toArray, List.getElem_cons_zero, List.getElem_cons_succ, List.getElem?_cons_zero, List.getElem?_cons_succ, Option.getD_some, List.setIfInBounds_toArray, List.set_cons_zero, List.set_cons_succ]); exact rfl) ?_
    | refine opsC_bin hS rfl rfl rfl rfl rfl rfl (by (with_reducible simp only [Act.put, Act.eval, Array.getD_eq_getD_getElem?, List.getElem?_toArray, List.getElem_toArray, List.getElem_cons_zero, List.getElem_cons_succ, List.getElem?_cons_zero, List.getElem?_cons_succ, Option.getD_some, List.setIfInBounds_toArray, List.set_cons_zero, List.set_cons_succ]); exact rfl) ?_
    | refine opsC_len hS rfl rfl rfl (by kernel_rfl) rfl (by (with_reducible simp only [Act.put, Act.eval, Array.getD_eq_getD_getElem?, List.getElem?_toArray, List.getElem_toArray, List.getElem_cons_zero, List.getElem_cons_succ, List.getElem?_cons_zero, List.getElem?_cons_succ, Option.getD_some, List.setIfInBounds_toArray, List.set_cons_zero, List.set_cons_succ]); exact rfl) ?_
    | (refine opsC_plain hS rfl rfl fun _ K hK => ?_; go_simp; refine hK _ (by simp [go_sem, events_cap_slice, events_slice_hi, *]) ?_; clear hK K; try walk_nrm)
  first
    | refine opsC_move hS rfl rfl (.inl rfl) (by (with_reducible simp only [Act.put, Act.eval, Array.getD_eq_getD_getElem?, List.getElem?_toArray, List.getElem_toArray, List.getElem_cons_zero, List.getElem_cons_succ, List.getElem?_cons_zero, List.getElem?_cons_succ, Option.getD_some, List.setIfInBounds_toArray, List.set_cons_zero, List.set_cons_succ]); exact rfl) ?_
    | refine opsC_move hS rfl rfl (.inr rfl) (by (with_reducible simp only [Act.put, Act.eval, Array.getD_eq_getD_getElem?, List.getElem?_toArray, List.getElem_toArray, List.getElem_cons_zero, List.getElem_cons_succ, List.getElem?_cons_zero, List.getElem?_cons_succ, Option.getD_some, List.setIfInBounds_toArray, List.set_cons_zero, List.set_cons_succ]); exact rfl) ?_
    | refine opsC_bin hS rfl rfl rfl rfl rfl rfl (by (with_reducible simp only [Act.put, Act.eval, Array.getD_eq_getD_getElem?, List.getElem?_toArray, List.getElem_toArray, List.getElem_cons_zero, List.getElem_cons_succ, List.getElem?_cons_zero, List.getElem?_cons_succ, Option.getD_some, List.setIfInBounds_toArray, List.set_cons_zero, List.set_cons_succ]); exact rfl) ?_
    | refine opsC_len hS rfl rfl rfl (by kernel_rfl) rfl (by (with_reducible simp only [Act.put, Act.eval, Array.getD_eq_getD_getElem?, List.getElem?_toArray, List.getElem_toArray, List.getElem_cons_zero, List.getElem_cons_succ, List.getElem?_cons_zero, List.getElem?_cons_succ, Option.getD_some, List.setIfInBounds_toArray, List.set_cons_zero, List.set_cons_succ]); exact rfl) ?_
    | (refine opsC_plain hS rfl rfl fun _ K hK => ?_; go_simp; refine hK _ (by simp [go_sem, events_cap_slice, events_slice_hi, *]) ?_; clear hK K; try walk_nrm)
  refine opsC_callF hS rfl rfl rfl Try.func23 (by kernel_rfl) rfl (by simp only [List.map_toArray, List.map_cons, List.map_nil]; rfl) (himpl w5) ?_
  rintro vh w6 M' ⟨rfl, own6, o6⟩
  have p6 := p5.trans o6
  have sg6 := sg5.only o6
  obtain ⟨_, _, hx, sw6⟩ := ((own1b.only o5).only o6).sl
  cases hx
  obtain ⟨ah, ch, rfl, sh⟩ := own6.sl
  repeat first
    | refine opsC_move hS rfl rfl (.inl rfl) (by (with_reducible simp only [Act.put, Act.eval, Array.getD_eq_getD_getElem?, List.getElem?_toArray, List.getElem_toArray, List.getElem_cons_zero, List.getElem_cons_succ, List.getElem?_cons_zero, List.getElem?_cons_succ, Option.getD_some, List.setIfInBounds_toArray, List.set_cons_zero, List.set_cons_succ]); exact rfl) ?_
    | refine opsC_move hS rfl rfl (.inr rfl) (by (with_reducible simp only [Act.put, Act.eval, Array.getD_eq_getD_getElem?, List.getElem?_toArray, List.getElem_toArray, List.getElem_cons_zero, List.getElem_cons_succ, List.getElem?_cons_zero, List.getElem?_cons_succ, Option.getD_some, List.setIfInBounds_toArray, List.set_cons_zero, List.set_cons_succ]); exact rfl) ?_
    | refine opsC_bin hS rfl rfl rfl rfl rfl rfl (by (with_reducible simp only [Act.put, Act.eval, Array.getD_eq_getD_getElem?, List.getElem?_toArray, List.getElem_toArray, List.getElem_cons_zero, List.getElem_cons_succ, List.getElem?_cons_zero, List.getElem?_cons_succ, Option.getD_some, List.setIfInBounds_toArray, List.set_cons_zero, List.set_cons_succ]); exact rfl) ?_
    | refine opsC_len hS rfl rfl rfl (by kernel_rfl) rfl (by (with_reducible simp only [Act.put, Act.eval, Array.getD_eq_getD_getElem?, List.getElem?_toArray, List.getElem_toArray, List.getElem_cons_zero, List.getElem_cons_succ, List.getElem?_cons_zero, List.getElem?_cons_succ, Option.getD_some, List.setIfInBounds_toArray, List.set_cons_zero, List.set_cons_succ]); exact rfl) ?_
    | (refine opsC_plain hS rfl rfl fun _ K hK => ?_; go_simp; refine hK _ (by simp [go_sem, events_cap_slice, events_slice_hi, *]) ?_; clear hK K; try walk_nrm)
  refine opsC_nil hS ?_
  show WpC _ _ _ _ _ _ _
  repeat refine wpC_seq hS ?_
  refine wpC_region hS ?_
  simp only [List.size_toArray, List.length_cons, List.length_nil, Nat.reduceAdd, Nat.zero_add, List.range, List.range.loop]
  first
    | refine opsC_move hS rfl rfl (.inl rfl) (by (with_reducible simp only [Act.put, Act.eval, Array.getD_eq_getD_getElem?, List.getElem?_toArray, List.getElem_toArray, List.getElem_cons_zero, List.getElem_cons_succ, List.getElem?_cons_zero, List.getElem?_cons_succ, Option.getD_some, List.setIfInBounds_toArray, List.set_cons_zero, List.set_cons_succ]); exact rfl) ?_
    | refine opsC_move hS rfl rfl (.inr rfl) (by (with_reducible simp only [Act.put, Act.eval, Array.getD_eq_getD_getElem?, List.getElem?_toArray, List.getElem_toArray, List.getElem_cons_zero, List.getElem_cons_succ, List.getElem?_cons_zero, List.getElem?_cons_succ, Option.getD_some, List.setIfInBounds_toArray, List.set_cons_zero, List.set_cons_succ]); exact rfl) ?_
    | refine opsC_bin hS rfl rfl rfl rfl rfl rfl (by (with_reducible simp only [Act.put, Act.eval, Array.getD_eq_getD_getElem?, List.getElem?_toArray, List.getElem_toArray, List.getElem_cons_zero, List.getElem_cons_succ, List.getElem?_cons_zero, List.getElem?_cons_succ, Option.getD_some, List.setIfInBounds_toArray, List.set_cons_zero, List.set_cons_succ]); exact rfl) ?_
    | refine opsC_len hS rfl rfl rfl (by kernel_rfl) rfl (by (with_reducible simp only [Act.put, Act.eval, Array.getD_eq_getD_getElem?, List.getElem?_toArray, List.getElem_toArray, List.getElem_cons_zero, List.getElem_cons_succ, List.getElem?_cons_zero, List.getElem?_cons_succ, Option.getD_some, List.setIfInBounds_toArray, List.set_cons_zero, List.set_cons_succ]); exact rfl) ?_
    | (refine opsC_plain hS rfl rfl fun _ K hK => ?_; go_simp; refine hK _ (by simp [go_sem, events_cap_slice, events_slice_hi, *]) ?_; clear hK K; try walk_nrm)
  first
    | refine opsC_move hS rfl rfl (.inl rfl) (by (with_reducible simp only [Act.put, Act.eval, Array.getD_eq_getD_getElem?, List.getElem?_toArray, List.getElem_toArray, List.getElem_cons_zero, List.getElem_cons_succ, List.getElem?_cons_zero, List.getElem?_cons_succ, Option.getD_some, List.setIfInBounds_toArray, List.set_cons_zero, List.set_cons_succ]); exact rfl) ?_
    | refine opsC_move hS rfl rfl (.inr rfl) (by (with_reducible simp only [Act.put, Act.eval, Array.getD_eq_getD_getElem?, List.getElem?_toArray, List.getElem_toArray, List.getElem_cons_zero, List.getElem_cons_succ, List.getElem?_cons_zero, List.getElem?_cons_succ, Option.getD_some, List.setIfInBounds_toArray, List.set_cons_zero, List.set_cons_succ]); exact rfl) ?_
    | refine opsC_bin hS rfl rfl rfl rfl rfl rfl (by (with_reducible simp only [Act.put, Act.eval, Array.getD_eq_getD_getElem?, List.getElem?_toArray, List.getElem_toArray, List.getElem_cons_zero, List.getElem_cons_succ, List.getElem?_cons_zero, List.getElem?_cons_succ, Option.getD_some, List.setIfInBounds_toArray, List.set_cons_zero, List.set_cons_succ]); exact rfl) ?_
    | refine opsC_len hS rfl rfl rfl (by kernel_rfl) rfl (by (with_reducible simp only [Act.put, Act.eval, Array.getD_eq_getD_getElem?, List.getElem?_toArray, List.getElem_toArray, List.getElem_cons_zero, List.getElem_cons_succ, List.getElem?_cons_zero, List.getElem?_cons_succ, Option.getD_some, List.setIfInBounds_toArray, List.set_cons_zero, List.set_cons_succ]); exact rfl) ?_
    | (refine opsC_plain hS rfl rfl fun _ K hK => ?_; go_simp; refine hK _ (by simp [go_sem, events_cap_slice, events_slice_hi, *]) ?_; clear hK K; try walk_nrm)
  refine opsC_callF hS rfl rfl rfl Try.func25 (by kernel_rfl) rfl (by simp only [List.map_toArray, List.map_cons, List.map_nil]; rfl) (saysC (v := .bool true) (by kernel_rfl) fun w₁ o => (eqIntS_any _ _ _ _ _ _ _ _ w₁ (sh.only o) (sw6.only o)).mono (by rintro e w' ⟨rfl, hb⟩; exact ⟨by simp, hb⟩)) ?_
  rintro v w7 M' ⟨rfl, rfl, o7⟩
  have p7 := p6.trans o7
  have sg7 := sg6.only o7
  (refine opsC_plain hS rfl rfl fun _ K hK => ?_; go_simp; refine hK _ (by simp [go_sem, events_cap_slice, events_slice_hi, *]) ?_; clear hK K; try walk_nrm)
  refine opsC_nil hS ?_
  show WpC _ _ _ _ _ _ _
  repeat refine wpC_seq hS ?_
  refine wpC_cond (t := false) hS rfl ?_
  simp only [if_true, if_false, Bool.false_eq_true]
  refine wpC_skip hS ?_
  show WpC _ _ _ _ _ _ _
  repeat refine wpC_seq hS ?_
  refine wpC_region hS ?_
  simp only [List.size_toArray, List.length_cons, List.length_nil, Nat.reduceAdd, Nat.zero_add, List.range, List.range.loop]
  repeat first
    | refine opsC_move hS rfl rfl (.inl rfl) (by (with_reducible simp only [Act.put, Act.eval, Array.getD_eq_getD_getElem?, List.getElem?_toArray, List.getElem_toArray, List.getElem_cons_zero, List.getElem_cons_succ, List.getElem?_cons_zero, List.getElem?_cons_succ, Option.getD_some, List.setIfInBounds_toArray, List.set_cons_zero, List.set_cons_succ]); exact rfl) ?_
    | refine opsC_move hS rfl rfl (.inr rfl) (by (with_reducible simp only [Act.put, Act.eval, Array.getD_eq_getD_getElem?, List.getElem?_toArray, List.getElem_toArray, List.getElem_cons_zero, List.getElem_cons_succ, List.getElem?_cons_zero, List.getElem?_cons_succ, Option.getD_some, List.setIfInBounds_toArray, List.set_cons_zero, List.set_cons_succ]); exact rfl) ?_
    | refine opsC_bin hS rfl rfl rfl rfl rfl rfl (by (with_reducible simp only [Act.put, Act.eval, Array.getD_eq_getD_getElem?, List.getElem?_toArray, List.getElem_toArray, List.getElem_cons_zero, List.getElem_cons_succ, List.getElem?_cons_zero, List.getElem?_cons_succ, Option.getD_some, List.setIfInBounds_toArray, List.set_cons_zero, List.set_cons_succ]); exact rfl) ?_
    | refine opsC_len hS rfl rfl rfl (by kernel_rfl) rfl (by (with_reducible simp only [Act.put, Act.eval, Array.getD_eq_getD_getElem?, List.getElem?_toArray, List.getElem_toArray, List.getElem_cons_zero, List.getElem_cons_succ, List.getElem?_cons_zero, List.getElem?_cons_succ, Option.getD_some, List.setIfInBounds_toArray, List.set_cons_zero, List.set_cons_succ]); exact rfl) ?_
    | (refine opsC_plain hS rfl rfl fun _ K hK => ?_; go_simp; refine hK _ (by simp [go_sem, events_cap_slice, events_slice_hi, *]) ?_; clear hK K; try walk_nrm)
  refine opsC_nil hS ?_
  show WpC _ _ _ _ _ _ _
  repeat refine wpC_seq hS ?_
  refine wpC_region hS ?_
  simp only [List.size_toArray, List.length_cons, List.length_nil, Nat.reduceAdd, Nat.zero_add, List.range, List.range.loop]
  first
    | refine opsC_move hS rfl rfl (.inl rfl) (by (with_reducible simp only [Act.put, Act.eval, Array.getD_eq_getD_getElem?, List.getElem?_toArray, List.getElem_toArray, List.getElem_cons_zero, List.getElem_cons_succ, List.getElem?_cons_zero, List.getElem?_cons_succ, Option.getD_some, List.setIfInBounds_toArray, List.set_cons_zero, List.set_cons_succ]); exact rfl) ?_
    | refine opsC_move hS rfl rfl (.inr rfl) (by (with_reducible simp only [Act.put, Act.eval, Array.getD_eq_getD_getElem?, List.getElem?_toArray, List.getElem_toArray, List.getElem_cons_zero, List.getElem_cons_succ, List.getElem?_cons_zero, List.getElem?_cons_succ, Option.getD_some, List.setIfInBounds_toArray, List.set_cons_zero, List.set_cons_succ]); exact rfl) ?_
    | refine opsC_bin hS rfl rfl rfl rfl rfl rfl (by (with_reducible simp only [Act.put, Act.eval, Array.getD_eq_getD_getElem?, List.getElem?_toArray, List.getElem_toArray, List.getElem_cons_zero, List.getElem_cons_succ, List.getElem?_cons_zero, List.getElem?_cons_succ, Option.getD_some, List.setIfInBounds_toArray, List.set_cons_zero, List.set_cons_succ]); exact rfl) ?_
    | refine opsC_len hS rfl rfl rfl (by kernel_rfl) rfl (by (with_reducible simp only [Act.put, Act.eval, Array.getD_eq_getD_getElem?, List.getElem?_toArray, List.getElem_toArray, List.getElem_cons_zero, List.getElem_cons_succ, List.getElem?_cons_zero, List.getElem?_cons_succ, Option.getD_some, List.setIfInBounds_toArray, List.set_cons_zero, List.set_cons_succ]); exact rfl) ?_
    | (refine opsC_plain hS rfl rfl fun _ K hK => ?_; go_simp; refine hK _ (by simp [go_sem, events_cap_slice, events_slice_hi, *]) ?_; clear hK K; try walk_nrm)
  first
    | refine opsC_move hS rfl rfl (.inl rfl) (by (with_reducible simp only [Act.put, Act.eval, Array.getD_eq_getD_getElem?, List.getElem?_toArray, List.getElem_toArray, List.getElem_cons_zero, List.getElem_cons_succ, List.getElem?_cons_zero, List.getElem?_cons_succ, Option.getD_some, List.setIfInBounds_toArray, List.set_cons_zero, List.set_cons_succ]); exact rfl) ?_
    | refine opsC_move hS rfl rfl (.inr rfl) (by (with_reducible simp only [Act.put, Act.eval, Array.getD_eq_getD_getElem?, List.getElem?_toArray, List.getElem_toArray, List.getElem_cons_zero, List.getElem_cons_succ, List.getElem?_cons_zero, List.getElem?_cons_succ, Option.getD_some, List.setIfInBounds_toArray, List.set_cons_zero, List.set_cons_succ]); exact rfl) ?_
    | refine opsC_bin hS rfl rfl rfl rfl rfl rfl (by (with_reducible simp only [Act.put, Act.eval, Array.getD_eq_getD_getElem?, List.getElem?_toArray, List.getElem_toArray, List.getElem_cons_zero, List.getElem_cons_succ, List.getElem?_cons_zero, List.getElem?_cons_succ, Option.getD_some, List.setIfInBounds_toArray, List.set_cons_zero, List.set_cons_succ]); exact rfl) ?_
    | refine opsC_len hS rfl rfl rfl (by kernel_rfl) rfl (by (with_reducible simp only [Act.put, Act.eval, Array.getD_eq_getD_getElem?, List.getElem?_toArray, List.getElem_toArray, List.getElem_cons_zero, List.getElem_cons_succ, List.getElem?_cons_zero, List.getElem?_cons_succ, Option.getD_some, List.setIfInBounds_toArray, List.set_cons_zero, List.set_cons_succ]); exact rfl) ?_
    | (refine opsC_plain hS rfl rfl fun _ K hK => ?_; go_simp; refine hK _ (by simp [go_sem, events_cap_slice, events_slice_hi, *]) ?_; clear hK K; try walk_nrm)
  refine opsC_callF hS rfl rfl rfl Try.func27 (by kernel_rfl) rfl (by simp only [List.map_toArray, List.map_cons, List.map_nil]; rfl) (saysC (by kernel_rfl) fun w₁ o => heldIntS_any _ _ _ _ 1 w₁ (sg7.only o) (by omega) (by omega) (by omega) (hid rfl)) ?_
  rintro v w8 M' ⟨rfl, rfl, o8⟩
  have p8 := p7.trans o8
  repeat first
    | refine opsC_move hS rfl rfl (.inl rfl) (by (with_reducible simp only [Act.put, Act.eval, Array.getD_eq_getD_getElem?, List.getElem?_toArray, List.getElem_toArray, List.getElem_cons_zero, List.getElem_cons_succ, List.getElem?_cons_zero, List.getElem?_cons_succ, Option.getD_some, List.setIfInBounds_toArray, List.set_cons_zero, List.set_cons_succ]); exact rfl) ?_
    | refine opsC_move hS rfl rfl (.inr rfl) (by (with_reducible simp only [Act.put, Act.eval, Array.getD_eq_getD_getElem?, List.getElem?_toArray, List.getElem_toArray, List.getElem_cons_zero, List.getElem_cons_succ, List.getElem?_cons_zero, List.getElem?_cons_succ, Option.getD_some, List.setIfInBounds_toArray, List.set_cons_zero, List.set_cons_succ]); exact rfl) ?_
    | refine opsC_bin hS rfl rfl rfl rfl rfl rfl (by (with_reducible simp only [Act.put, Act.eval, Array.getD_eq_getD_getElem?, List.getElem?_toArray, List.getElem_toArray, List.getElem_cons_zero, List.getElem_cons_succ, List.getElem?_cons_zero, List.getElem?_cons_succ, Option.getD_some, List.setIfInBounds_toArray, List.set_cons_zero, List.set_cons_succ]); exact rfl) ?_
    | refine opsC_len hS rfl rfl rfl (by kernel_rfl) rfl (by (with_reducible simp only [Act.put, Act.eval, Array.getD_eq_getD_getElem?, List.getElem?_toArray, List.getElem_toArray, List.getElem_cons_zero, List.getElem_cons_succ, List.getElem?_cons_zero, List.getElem?_cons_succ, Option.getD_some, List.setIfInBounds_toArray, List.set_cons_zero, List.set_cons_succ]); exact rfl) ?_
    | (refine opsC_plain hS rfl rfl fun _ K hK => ?_; go_simp; refine hK _ (by simp [go_sem, events_cap_slice, events_slice_hi, *]) ?_; clear hK K; try walk_nrm)
  refine opsC_nil hS ?_
  show WpC _ _ _ _ _ _ _
  repeat refine wpC_seq hS ?_
  refine wpC_region hS ?_
  simp only [List.size_toArray, List.length_cons, List.length_nil, Nat.reduceAdd, Nat.zero_add, List.range, List.range.loop]
  first
    | refine opsC_move hS rfl rfl (.inl rfl) (by (with_reducible simp only [Act.put, Act.eval, Array.getD_eq_getD_getElem?, List.getElem?_toArray, List.getElem_toArray, List.getElem_cons_zero, List.getElem_cons_succ, List.getElem?_cons_zero, List.getElem?_cons_succ, Option.getD_some, List.setIfInBounds_toArray, List.set_cons_zero, List.set_cons_succ]); exact rfl) ?_
    | refine opsC_move hS rfl rfl (.inr rfl) (by (with_reducible simp only [Act.put, Act.eval, Array.getD_eq_getD_getElem?, List.getElem?_toArray, List.getElem_toArray, List.getElem_cons_zero, List.getElem_cons_succ, List.getElem?_cons_zero, List.getElem?_cons_succ, Option.getD_some, List.setIfInBounds_toArray, List.set_cons_zero, List.set_cons_succ]); exact rfl) ?_
    | refine opsC_bin hS rfl rfl rfl rfl rfl rfl (by (with_reducible simp only [Act.put, Act.eval, Array.getD_eq_getD_getElem?, List.getElem?_toArray, List.getElem_toArray, List.getElem_cons_zero, List.getElem_cons_succ, List.getElem?_cons_zero, List.getElem?_cons_succ, Option.getD_some, List.setIfInBounds_toArray, List.set_cons_zero, List.set_cons_succ]); exact rfl) ?_
    | refine opsC_len hS rfl rfl rfl (by kernel_rfl) rfl (by (with_reducible simp only [Act.put, Act.eval, Array.getD_eq_getD_getElem?, List.getElem?_toArray, List.getElem_toArray, List.getElem_cons_zero, List.getElem_cons_succ, List.getElem?_cons_zero, List.getElem?_cons_succ, Option.getD_some, List.setIfInBounds_toArray, List.set_cons_zero, List.set_cons_succ]); exact rfl) ?_
    | (refine opsC_plain hS rfl rfl fun _ K hK => ?_; go_simp; refine hK _ (by simp [go_sem, events_cap_slice, events_slice_hi, *]) ?_; clear hK K; try walk_nrm)
  refine opsC_bin (v := .bool false) hS rfl rfl rfl rfl rfl (by simp [int2]; omega) (by (with_reducible simp only [Act.put, Act.eval, Array.getD_eq_getD_getElem?, List.getElem?_toArray, List.getElem_toArray, List.getElem_cons_zero, List.getElem_cons_succ, List.getElem?_cons_zero, List.getElem?_cons_succ, Option.getD_some, List.setIfInBounds_toArray, List.set_cons_zero, List.set_cons_succ]); exact rfl) ?_
  refine opsC_nil hS ?_
  show WpC _ _ _ _ _ _ _
  repeat refine wpC_seq hS ?_
  refine wpC_cond (t := false) hS rfl ?_
  simp only [if_true, if_false, Bool.false_eq_true]
  refine wpC_skip hS ?_
  show WpC _ _ _ _ _ _ _
  repeat refine wpC_seq hS ?_
  refine wpC_region hS ?_
  simp only [List.size_toArray, List.length_cons, List.length_nil, Nat.reduceAdd, Nat.zero_add, List.range, List.range.loop]
  first
    | refine opsC_move hS rfl rfl (.inl rfl) (by (with_reducible simp only [Act.put, Act.eval, Array.getD_eq_getD_getElem?, List.getElem?_toArray, List.getElem_toArray, List.getElem_cons_zero, List.getElem_cons_succ, List.getElem?_cons_zero, List.getElem?_cons_succ, Option.getD_some, List.setIfInBounds_toArray, List.set_cons_zero, List.set_cons_succ]); exact rfl) ?_
    | refine opsC_move hS rfl rfl (.inr rfl) (by (with_reducible simp only [Act.put, Act.eval, Array.getD_eq_getD_getElem?, List.getElem?_toArray, List.getElem_toArray, List.getElem_cons_zero, List.getElem_cons_succ, List.getElem?_cons_zero, List.getElem?_cons_succ, Option.getD_some, List.setIfInBounds_toArray, List.set_cons_zero, List.set_cons_succ]); exact rfl) ?_
    | refine opsC_bin hS rfl rfl rfl rfl rfl rfl (by (with_reducible simp only [Act.put, Act.eval, Array.getD_eq_getD_getElem?, List.getElem?_toArray, List.getElem_toArray, List.getElem_cons_zero, List.getElem_cons_succ, List.getElem?_cons_zero, List.getElem?_cons_succ, Option.getD_some, List.setIfInBounds_toArray, List.set_cons_zero, List.set_cons_succ]); exact rfl) ?_
    | refine opsC_len hS rfl rfl rfl (by kernel_rfl) rfl (by (with_reducible simp only [Act.put, Act.eval, Array.getD_eq_getD_getElem?, List.getElem?_toArray, List.getElem_toArray, List.getElem_cons_zero, List.getElem_cons_succ, List.getElem?_cons_zero, List.getElem?_cons_succ, Option.getD_some, List.setIfInBounds_toArray, List.set_cons_zero, List.set_cons_succ]); exact rfl) ?_
    | (refine opsC_plain hS rfl rfl fun _ K hK => ?_; go_simp; refine hK _ (by simp [go_sem, events_cap_slice, events_slice_hi, *]) ?_; clear hK K; try walk_nrm)
  first
    | refine opsC_move hS rfl rfl (.inl rfl) (by (with_reducible simp only [Act.put, Act.eval, Array.getD_eq_getD_getElem?, List.getElem?_toArray, List.getElem_toArray, List.getElem_cons_zero, List.getElem_cons_succ, List.getElem?_cons_zero, List.getElem?_cons_succ, Option.getD_some, List.setIfInBounds_toArray, List.set_cons_zero, List.set_cons_succ]); exact rfl) ?_
    | refine opsC_move hS rfl rfl (.inr rfl) (by (with_reducible simp only [Act.put, Act.eval, Array.getD_eq_getD_getElem?, List.getElem?_toArray, List.getElem_toArray, List.getElem_cons_zero, List.getElem_cons_succ, List.getElem?_cons_zero, List.getElem?_cons_succ, Option.getD_some, List.setIfInBounds_toArray, List.set_cons_zero, List.set_cons_succ]); exact rfl) ?_
    | refine opsC_bin hS rfl rfl rfl rfl rfl rfl (by (with_reducible simp only [Act.put, Act.eval, Array.getD_eq_getD_getElem?, List.getElem?_toArray, List.getElem_toArray, List.getElem_cons_zero, List.getElem_cons_succ, List.getElem?_cons_zero, List.getElem?_cons_succ, Option.getD_some, List.setIfInBounds_toArray, List.set_cons_zero, List.set_cons_succ]); exact rfl) ?_
    | refine opsC_len hS rfl rfl rfl (by kernel_rfl) rfl (by (with_reducible simp only [Act.put, Act.eval, Array.getD_eq_getD_getElem?, List.getElem?_toArray, List.getElem_toArray, List.getElem_cons_zero, List.getElem_cons_succ, List.getElem?_cons_zero, List.getElem?_cons_succ, Option.getD_some, List.setIfInBounds_toArray, List.set_cons_zero, List.set_cons_succ]); exact rfl) ?_
    | (refine opsC_plain hS rfl rfl fun _ K hK => ?_; go_simp; refine hK _ (by simp [go_sem, events_cap_slice, events_slice_hi, *]) ?_; clear hK K; try walk_nrm)
  refine opsC_bin (v := .bool false) hS rfl rfl rfl rfl rfl (by simp [int2]) (by (with_reducible simp only [Act.put, Act.eval, Array.getD_eq_getD_getElem?, List.getElem?_toArray, List.getElem_toArray, List.getElem_cons_zero, List.getElem_cons_succ, List.getElem?_cons_zero, List.getElem?_cons_succ, Option.getD_some, List.setIfInBounds_toArray, List.set_cons_zero, List.set_cons_succ]); exact rfl) ?_
  refine opsC_nil hS ?_
  show WpC _ _ _ _ _ _ _
  repeat refine wpC_seq hS ?_
  refine wpC_cond (t := false) hS rfl ?_
  simp only [if_true, if_false, Bool.false_eq_true]
  refine wpC_skip hS ?_
  show WpC _ _ _ _ _ _ _
  repeat refine wpC_seq hS ?_
  refine wpC_region hS ?_
  simp only [List.size_toArray, List.length_cons, List.length_nil, Nat.reduceAdd, Nat.zero_add, List.range, List.range.loop]
  repeat first
    | refine opsC_move hS rfl rfl (.inl rfl) (by (with_reducible simp only [Act.put, Act.eval, Array.getD_eq_getD_getElem?, List.getElem?_toArray, List.getElem_toArray, List.getElem_cons_zero, List.getElem_cons_succ, List.getElem?_cons_zero, List.getElem?_cons_succ, Option.getD_some, List.setIfInBounds_toArray, List.set_cons_zero, List.set_cons_succ]); exact rfl) ?_
    | refine opsC_move hS rfl rfl (.inr rfl) (by (with_reducible simp only [Act.put, Act.eval, Array.getD_eq_getD_getElem?, List.getElem?_toArray, List.getElem_toArray, List.getElem_cons_zero, List.getElem_cons_succ, List.getElem?_cons_zero, List.getElem?_cons_succ, Option.getD_some, List.setIfInBounds_toArray, List.set_cons_zero, List.set_cons_succ]); exact rfl) ?_
    | refine opsC_bin hS rfl rfl rfl rfl rfl rfl (by (with_reducible simp only [Act.put, Act.eval, Array.getD_eq_getD_getElem?, List.getElem?_toArray, List.getElem_toArray, List.getElem_cons_zero, List.getElem_cons_succ, List.getElem?_cons_zero, List.getElem?_cons_succ, Option.getD_some, List.setIfInBounds_toArray, List.set_cons_zero, List.set_cons_succ]); exact rfl) ?_
    | refine opsC_len hS rfl rfl rfl (by kernel_rfl) rfl (by (with_reducible simp only [Act.put, Act.eval, Array.getD_eq_getD_getElem?, List.getElem?_toArray, List.getElem_toArray, List.getElem_cons_zero, List.getElem_cons_succ, List.getElem?_cons_zero, List.getElem?_cons_succ, Option.getD_some, List.setIfInBounds_toArray, List.set_cons_zero, List.set_cons_succ]); exact rfl) ?_
    | (refine opsC_plain hS rfl rfl fun _ K hK => ?_; go_simp; refine hK _ (by simp [go_sem, events_cap_slice, events_slice_hi, *]) ?_; clear hK K; try walk_nrm)
  refine opsC_nil hS ?_
  show WpC _ _ _ _ _ _ _
  refine wpC_ret hS ⟨rfl, _, resultsC_tmp rfl _, ?_⟩
  exact fun w₁ hr => ⟨rfl, p8.trans (Only.re hr)⟩

end Go.Proofs.Ytjphaphnmclbcaa
