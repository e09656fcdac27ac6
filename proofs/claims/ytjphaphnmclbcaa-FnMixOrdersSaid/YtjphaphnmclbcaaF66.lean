/- The walk of the law of MixOrders, beside leavers. Condition of the law's own: at most 2^20 bytes. -/
import Derived.Test.YtjphaphnmclbcaaMxM
import Derived.Test.YtjphaphnmclbcaaDrMx
import Derived.Test.YtjphaphnmclbcaaTl
import Derived.Test.YtjphaphnmclbcaaChNn
import Derived.Test.YtjphaphnmclbcaaOwnT
import Derived.Test.YtjphaphnmclbcaaLawL
import Derived.Test.YtjphaphnmclbcaaBnd
import Derived.Test.YtjphaphnmclbcaaDen
namespace Go.Proofs.Ytjphaphnmclbcaa
open Go Go.Conc Go.RowKit

theorem lowV_app (a : Nat) : ∀ x y : List Int, lowV a (x ++ y) = lowV a x ++ lowV a y
  | [], y => rfl
  | z :: x, y => by
    rw [List.cons_append, lowV, lowV]
    split
    · rw [lowV_app a x y]; rfl
    · exact lowV_app a x y
theorem higV_app (a : Nat) : ∀ x y : List Int, higV a (x ++ y) = higV a x ++ higV a y
  | [], y => rfl
  | z :: x, y => by
    rw [List.cons_append, higV, higV]
    split
    · exact higV_app a x y
    · rw [higV_app a x y]; rfl
theorem take_elS {x : List Int} {k : Nat} (h : k < x.length) : x.take (k + 1) = x.take k ++ [el x k] := by
  rw [List.take_add_one, List.getElem?_eq_getElem h, el_lt h]; rfl
theorem low_yes {a : Nat} {x : List Int} {k : Nat} (h : k < x.length) (hl : el x k < (a : Int)) : lowV a (x.take (k + 1)) = lowV a (x.take k) ++ [el x k] := by
  rw [take_elS h, lowV_app, lowV, if_pos hl]; rfl
theorem low_no {a : Nat} {x : List Int} {k : Nat} (h : k < x.length) (hl : ¬ el x k < (a : Int)) : lowV a (x.take (k + 1)) = lowV a (x.take k) := by
  rw [take_elS h, lowV_app, lowV, if_neg hl]; simp [lowV]
theorem hig_yes {a : Nat} {x : List Int} {k : Nat} (h : k < x.length) (hl : el x k < (a : Int)) : higV a (x.take (k + 1)) = higV a (x.take k) := by
  rw [take_elS h, higV_app, higV, if_pos hl]; simp [higV]
theorem hig_no {a : Nat} {x : List Int} {k : Nat} (h : k < x.length) (hl : ¬ el x k < (a : Int)) : higV a (x.take (k + 1)) = higV a (x.take k) ++ [el x k - (a : Int)] := by
  rw [take_elS h, higV_app, higV, if_neg hl]; rfl
theorem lowV_len (a : Nat) : ∀ x : List Int, (lowV a x).length ≤ x.length
  | [] => Nat.le_refl _
  | z :: x => by
    have := lowV_len a x
    rw [lowV]; split <;> simp only [List.length_cons] <;> omega
theorem higV_len (a : Nat) : ∀ x : List Int, (higV a x).length ≤ x.length
  | [] => Nat.le_refl _
  | z :: x => by
    have := higV_len a x
    rw [higV]; split <;> simp only [List.length_cons] <;> omega

set_option linter.unusedSimpArgs false in
set_option maxRecDepth 20000 in
set_option maxHeartbeats 8000000 in
theorem fnMixOrders_T (bo : Option Addr) (n cap : Nat) (cs : List Int) (W : World) (h : Slb W bo n cap cs) :
    ∃ N last o w' t', runNT Try.prog (N + 1) (solo (G (Frame.enter Try.prog 15 #[.slice bo n cap] .normal) []) W) #[] = (.ended o w', t') ∧ runN Try.prog N (solo (G (Frame.enter Try.prog 15 #[.slice bo n cap] .normal) []) W) = .next last ∧
      step Try.prog last = .ended o w' ∧ Go.Conc.Good Try.prog (fun v W' => v = .bool true ∧ Only W W') last o w' t' := by
  refine good_of_wpN Try.func15 rfl (by kernel_rfl) fun Stop => ?_
  have hS : Fam Try.prog true (fun _ => True) (TF Try.prog Stop) := fam_T
  simp only [Try.ntmps15, List.size_toArray, List.length_cons, List.length_nil, Nat.reduceAdd, Nat.reduceSub, Array.replicate_succ,
     Array.replicate_zero, List.push_toArray, List.append_toArray, List.nil_append, List.cons_append]
  repeat refine wpN_seq hS ?_
  refine wpN_region hS ?_
  simp only [List.size_toArray, List.length_cons, List.length_nil, Nat.reduceAdd, Nat.zero_add, List.range, List.range.loop]
  repeat first
    | refine opsC_moveA hS rfl rfl (.inl rfl) ?_
    | refine opsC_moveA hS rfl rfl (.inr rfl) ?_
    | refine opsC_binA hS rfl rfl rfl rfl rfl rfl ?_
    | refine opsC_lenA hS rfl rfl rfl (by kernel_rfl) rfl ?_
    | (refine opsC_plain hS rfl rfl fun _ K hK => ?_; go_simp; refine hK _ (by simp [go_sem, events_cap_slice, events_slice_hi, *]) ?_; clear hK K; try walk_nrm)
  refine opsC_nil hS ?_
  show WpN _ _ _ _ _ _ _
  by_cases hn : n ≤ 1048576
  · repeat refine wpN_seq hS ?_
    refine wpN_region hS ?_
    simp only [List.size_toArray, List.length_cons, List.length_nil, Nat.reduceAdd, Nat.zero_add, List.range, List.range.loop]
    first
      | refine opsC_moveA hS rfl rfl (.inl rfl) ?_
      | refine opsC_moveA hS rfl rfl (.inr rfl) ?_
      | refine opsC_binA hS rfl rfl rfl rfl rfl rfl ?_
      | refine opsC_lenA hS rfl rfl rfl (by kernel_rfl) rfl ?_
      | (refine opsC_plain hS rfl rfl fun _ K hK => ?_; go_simp; refine hK _ (by simp [go_sem, events_cap_slice, events_slice_hi, *]) ?_; clear hK K; try walk_nrm)
    first
      | refine opsC_moveA hS rfl rfl (.inl rfl) ?_
      | refine opsC_moveA hS rfl rfl (.inr rfl) ?_
      | refine opsC_binA hS rfl rfl rfl rfl rfl rfl ?_
      | refine opsC_lenA hS rfl rfl rfl (by kernel_rfl) rfl ?_
      | (refine opsC_plain hS rfl rfl fun _ K hK => ?_; go_simp; refine hK _ (by simp [go_sem, events_cap_slice, events_slice_hi, *]) ?_; clear hK K; try walk_nrm)
    refine opsC_binA (v := .bool false) hS rfl rfl rfl rfl rfl (by simp [int2]; omega) ?_
    refine opsC_nil hS ?_
    show WpN _ _ _ _ _ _ _
    repeat refine wpN_seq hS ?_
    refine wpN_cond (t := false) hS rfl ?_
    simp only [if_true, if_false, Bool.false_eq_true]
    refine wpN_skip hS ?_
    show WpN _ _ _ _ _ _ _
    repeat refine wpN_seq hS ?_
    refine wpN_region hS ?_
    simp only [List.size_toArray, List.length_cons, List.length_nil, Nat.reduceAdd, Nat.zero_add, List.range, List.range.loop]
    first
      | refine opsC_moveA hS rfl rfl (.inl rfl) ?_
      | refine opsC_moveA hS rfl rfl (.inr rfl) ?_
      | refine opsC_binA hS rfl rfl rfl rfl rfl rfl ?_
      | refine opsC_lenA hS rfl rfl rfl (by kernel_rfl) rfl ?_
      | (refine opsC_plain hS rfl rfl fun _ K hK => ?_; go_simp; refine hK _ (by simp [go_sem, events_cap_slice, events_slice_hi, *]) ?_; clear hK K; try walk_nrm)
    refine opsC_callF hS rfl rfl rfl Try.func56 (by kernel_rfl) rfl (by simp only [List.map_toArray, List.map_cons, List.map_nil]; rfl) (drawn2C (by kernel_rfl) fun w₁ o => drawMixOrders_any _ _ _ cs w₁ (h.only o)) ?_
    rintro _ w1 M' ⟨rfl, vp, vq, xs, ys, rfl, op1, oq1, hl9, hm9, o1⟩
    obtain ⟨ap, cp, rfl, sp1⟩ := op1.sl
    obtain ⟨aq, cq, rfl, sq1⟩ := oq1.sl
    have nilp := op1.nilcap
    clear op1 oq1
    clear hn
    obtain ⟨a, ha⟩ : ∃ a, a = xs.length := ⟨_, rfl⟩
    obtain ⟨b, hb⟩ : ∃ b, b = ys.length := ⟨_, rfl⟩
    rw [← ha] at sp1 hl9 ⊢
    rw [← hb] at sq1 hm9 ⊢
    have Ha := hid ha
    have Hb := hid hb
    clear ha hb
    obtain ⟨R, hR⟩ : ∃ R, R = mxL xs ys := ⟨_, rfl⟩
    have HR := hid hR
    clear hR
    (refine opsC_plain hS rfl rfl fun _ K hK => ?_; go_simp; refine hK _ (by simp [go_sem, events_cap_slice, events_slice_hi, *]) ?_; clear hK K; try walk_nrm)
    repeat first
      | refine opsC_moveA hS rfl rfl (.inl rfl) ?_
      | refine opsC_moveA hS rfl rfl (.inr rfl) ?_
      | refine opsC_binA hS rfl rfl rfl rfl rfl rfl ?_
      | refine opsC_lenA hS rfl rfl rfl (by kernel_rfl) rfl ?_
      | (refine opsC_plain hS rfl rfl fun _ K hK => ?_; go_simp; refine hK _ (by simp [go_sem, events_cap_slice, events_slice_hi, *]) ?_; clear hK K; try walk_nrm)
    refine opsC_nil hS ?_
    show WpN _ _ _ _ _ _ _
    repeat refine wpN_seq hS ?_
    refine wpN_region hS ?_
    simp only [List.size_toArray, List.length_cons, List.length_nil, Nat.reduceAdd, Nat.zero_add, List.range, List.range.loop]
    first
      | refine opsC_moveA hS rfl rfl (.inl rfl) ?_
      | refine opsC_moveA hS rfl rfl (.inr rfl) ?_
      | refine opsC_binA hS rfl rfl rfl rfl rfl rfl ?_
      | refine opsC_lenA hS rfl rfl rfl (by kernel_rfl) rfl ?_
      | (refine opsC_plain hS rfl rfl fun _ K hK => ?_; go_simp; refine hK _ (by simp [go_sem, events_cap_slice, events_slice_hi, *]) ?_; clear hK K; try walk_nrm)
    first
      | refine opsC_moveA hS rfl rfl (.inl rfl) ?_
      | refine opsC_moveA hS rfl rfl (.inr rfl) ?_
      | refine opsC_binA hS rfl rfl rfl rfl rfl rfl ?_
      | refine opsC_lenA hS rfl rfl rfl (by kernel_rfl) rfl ?_
      | (refine opsC_plain hS rfl rfl fun _ K hK => ?_; go_simp; refine hK _ (by simp [go_sem, events_cap_slice, events_slice_hi, *]) ?_; clear hK K; try walk_nrm)
    refine opsC_callF hS rfl rfl rfl Try.func57 (by kernel_rfl) rfl (by simp only [List.map_toArray, List.map_cons, List.map_nil]; rfl) (mxT ap a cp xs aq b cq ys w1 sp1 sq1 (by omega) (by omega)) ?_
    rintro vg w2 M' ⟨rfl, own2, o2⟩
    rw [← HR.out] at own2
    have p2 := o1.trans o2
    have sp2 := sp1.only o2
    have sq2 := sq1.only o2
    obtain ⟨ag, cg, rfl, sg2⟩ := own2.sl
    clear own2
    repeat first
      | refine opsC_moveA hS rfl rfl (.inl rfl) ?_
      | refine opsC_moveA hS rfl rfl (.inr rfl) ?_
      | refine opsC_binA hS rfl rfl rfl rfl rfl rfl ?_
      | refine opsC_lenA hS rfl rfl rfl (by kernel_rfl) rfl ?_
      | (refine opsC_plain hS rfl rfl fun _ K hK => ?_; go_simp; refine hK _ (by simp [go_sem, events_cap_slice, events_slice_hi, *]) ?_; clear hK K; try walk_nrm)
    refine opsC_nil hS ?_
    show WpN _ _ _ _ _ _ _
    repeat refine wpN_seq hS ?_
    refine wpN_region hS ?_
    simp only [List.size_toArray, List.length_cons, List.length_nil, Nat.reduceAdd, Nat.zero_add, List.range, List.range.loop]
    first
      | refine opsC_moveA hS rfl rfl (.inl rfl) ?_
      | refine opsC_moveA hS rfl rfl (.inr rfl) ?_
      | refine opsC_binA hS rfl rfl rfl rfl rfl rfl ?_
      | refine opsC_lenA hS rfl rfl rfl (by kernel_rfl) rfl ?_
      | (refine opsC_plain hS rfl rfl fun _ K hK => ?_; go_simp; refine hK _ (by simp [go_sem, events_cap_slice, events_slice_hi, *]) ?_; clear hK K; try walk_nrm)
    first
      | refine opsC_moveA hS rfl rfl (.inl rfl) ?_
      | refine opsC_moveA hS rfl rfl (.inr rfl) ?_
      | refine opsC_binA hS rfl rfl rfl rfl rfl rfl ?_
      | refine opsC_lenA hS rfl rfl rfl (by kernel_rfl) rfl ?_
      | (refine opsC_plain hS rfl rfl fun _ K hK => ?_; go_simp; refine hK _ (by simp [go_sem, events_cap_slice, events_slice_hi, *]) ?_; clear hK K; try walk_nrm)
    first
      | refine opsC_moveA hS rfl rfl (.inl rfl) ?_
      | refine opsC_moveA hS rfl rfl (.inr rfl) ?_
      | refine opsC_binA hS rfl rfl rfl rfl rfl rfl ?_
      | refine opsC_lenA hS rfl rfl rfl (by kernel_rfl) rfl ?_
      | (refine opsC_plain hS rfl rfl fun _ K hK => ?_; go_simp; refine hK _ (by simp [go_sem, events_cap_slice, events_slice_hi, *]) ?_; clear hK K; try walk_nrm)
    refine opsC_callF hS rfl rfl rfl Try.func58 (by kernel_rfl) rfl (by simp only [List.map_toArray, List.map_cons, List.map_nil]; rfl) (madeLC (yss := R) (by kernel_rfl) fun w₁ o => by rw [HR.out]; exact mixS_any _ _ _ xs _ _ _ ys w₁ (sp2.only o) (sq2.only o) nilp) ?_
    rintro v w3 M' ⟨rfl, own3, o3⟩
    obtain ⟨ad3, cd3, rfl, sd3⟩ := own3.sl
    have sp3 := sp2.only o3
    have sq3 := sq2.only o3
    have sg3 := sg2.only o3
    have p3 := p2.trans o3
    refine opsC_callF hS rfl rfl rfl Try.func37 (by kernel_rfl) rfl (by simp only [List.map_toArray, List.map_cons, List.map_nil]; rfl) (saysC (v := .bool true) (by kernel_rfl) fun w₁ o => says_tob (equalLists_any _ _ _ _ _ _ _ _ w₁ (sg3.only o) (sd3.only o)) (decide_eq_true rfl)) ?_
    rintro v w4 M' ⟨rfl, rfl, o4⟩
    have sp4 := sp3.only o4
    have sq4 := sq3.only o4
    have sg4 := sg3.only o4
    have p4 := p3.trans o4
    (refine opsC_plain hS rfl rfl fun _ K hK => ?_; go_simp; refine hK _ (by simp [go_sem, events_cap_slice, events_slice_hi, *]) ?_; clear hK K; try walk_nrm)
    first
      | refine opsC_moveA hS rfl rfl (.inl rfl) ?_
      | refine opsC_moveA hS rfl rfl (.inr rfl) ?_
      | refine opsC_binA hS rfl rfl rfl rfl rfl rfl ?_
      | refine opsC_lenA hS rfl rfl rfl (by kernel_rfl) rfl ?_
      | (refine opsC_plain hS rfl rfl fun _ K hK => ?_; go_simp; refine hK _ (by simp [go_sem, events_cap_slice, events_slice_hi, *]) ?_; clear hK K; try walk_nrm)
    first
      | refine opsC_moveA hS rfl rfl (.inl rfl) ?_
      | refine opsC_moveA hS rfl rfl (.inr rfl) ?_
      | refine opsC_binA hS rfl rfl rfl rfl rfl rfl ?_
      | refine opsC_lenA hS rfl rfl rfl (by kernel_rfl) rfl ?_
      | (refine opsC_plain hS rfl rfl fun _ K hK => ?_; go_simp; refine hK _ (by simp [go_sem, events_cap_slice, events_slice_hi, *]) ?_; clear hK K; try walk_nrm)
    by_cases hvp : Valid xs
    · refine opsC_callF hS rfl rfl rfl Try.func59 (by kernel_rfl) rfl (by simp only [List.map_toArray, List.map_cons, List.map_nil]; rfl) (saysC (v := .bool true) (by kernel_rfl) fun w₁ o => says_tob (validI_any _ _ _ xs w₁ (sp4.only o)) (decide_eq_true hvp)) ?_
      rintro v w5 M' ⟨rfl, rfl, o5⟩
      have sp5 := sp4.only o5
      have sq5 := sq4.only o5
      have sg5 := sg4.only o5
      have p5 := p4.trans o5
      (refine opsC_plain hS rfl rfl fun _ K hK => ?_; go_simp; refine hK _ (by simp [go_sem, events_cap_slice, events_slice_hi, *]) ?_; clear hK K; try walk_nrm)
      (refine opsC_plain hS rfl rfl fun _ K hK => ?_; go_simp; refine hK _ (by simp [go_sem, events_cap_slice, events_slice_hi, *]) ?_; clear hK K; try walk_nrm)
      first
        | refine opsC_moveA hS rfl rfl (.inl rfl) ?_
        | refine opsC_moveA hS rfl rfl (.inr rfl) ?_
        | refine opsC_binA hS rfl rfl rfl rfl rfl rfl ?_
        | refine opsC_lenA hS rfl rfl rfl (by kernel_rfl) rfl ?_
        | (refine opsC_plain hS rfl rfl fun _ K hK => ?_; go_simp; refine hK _ (by simp [go_sem, events_cap_slice, events_slice_hi, *]) ?_; clear hK K; try walk_nrm)
      first
        | refine opsC_moveA hS rfl rfl (.inl rfl) ?_
        | refine opsC_moveA hS rfl rfl (.inr rfl) ?_
        | refine opsC_binA hS rfl rfl rfl rfl rfl rfl ?_
        | refine opsC_lenA hS rfl rfl rfl (by kernel_rfl) rfl ?_
        | (refine opsC_plain hS rfl rfl fun _ K hK => ?_; go_simp; refine hK _ (by simp [go_sem, events_cap_slice, events_slice_hi, *]) ?_; clear hK K; try walk_nrm)
      by_cases hvq : Valid ys
      · refine opsC_callF hS rfl rfl rfl Try.func59 (by kernel_rfl) rfl (by simp only [List.map_toArray, List.map_cons, List.map_nil]; rfl) (saysC (v := .bool true) (by kernel_rfl) fun w₁ o => says_tob (validI_any _ _ _ ys w₁ (sq5.only o)) (decide_eq_true hvq)) ?_
        rintro v w6 M' ⟨rfl, rfl, o6⟩
        have sp6 := sp5.only o6
        have sq6 := sq5.only o6
        have sg6 := sg5.only o6
        have p6 := p5.trans o6
        (refine opsC_plain hS rfl rfl fun _ K hK => ?_; go_simp; refine hK _ (by simp [go_sem, events_cap_slice, events_slice_hi, *]) ?_; clear hK K; try walk_nrm)
        (refine opsC_plain hS rfl rfl fun _ K hK => ?_; go_simp; refine hK _ (by simp [go_sem, events_cap_slice, events_slice_hi, *]) ?_; clear hK K; try walk_nrm)
        first
          | refine opsC_moveA hS rfl rfl (.inl rfl) ?_
          | refine opsC_moveA hS rfl rfl (.inr rfl) ?_
          | refine opsC_binA hS rfl rfl rfl rfl rfl rfl ?_
          | refine opsC_lenA hS rfl rfl rfl (by kernel_rfl) rfl ?_
          | (refine opsC_plain hS rfl rfl fun _ K hK => ?_; go_simp; refine hK _ (by simp [go_sem, events_cap_slice, events_slice_hi, *]) ?_; clear hK K; try walk_nrm)
        first
          | refine opsC_moveA hS rfl rfl (.inl rfl) ?_
          | refine opsC_moveA hS rfl rfl (.inr rfl) ?_
          | refine opsC_binA hS rfl rfl rfl rfl rfl rfl ?_
          | refine opsC_lenA hS rfl rfl rfl (by kernel_rfl) rfl ?_
          | (refine opsC_plain hS rfl rfl fun _ K hK => ?_; go_simp; refine hK _ (by simp [go_sem, events_cap_slice, events_slice_hi, *]) ?_; clear hK K; try walk_nrm)
        first
          | refine opsC_moveA hS rfl rfl (.inl rfl) ?_
          | refine opsC_moveA hS rfl rfl (.inr rfl) ?_
          | refine opsC_binA hS rfl rfl rfl rfl rfl rfl ?_
          | refine opsC_lenA hS rfl rfl rfl (by kernel_rfl) rfl ?_
          | (refine opsC_plain hS rfl rfl fun _ K hK => ?_; go_simp; refine hK _ (by simp [go_sem, events_cap_slice, events_slice_hi, *]) ?_; clear hK K; try walk_nrm)
        first
          | refine opsC_moveA hS rfl rfl (.inl rfl) ?_
          | refine opsC_moveA hS rfl rfl (.inr rfl) ?_
          | refine opsC_binA hS rfl rfl rfl rfl rfl rfl ?_
          | refine opsC_lenA hS rfl rfl rfl (by kernel_rfl) rfl ?_
          | (refine opsC_plain hS rfl rfl fun _ K hK => ?_; go_simp; refine hK _ (by simp [go_sem, events_cap_slice, events_slice_hi, *]) ?_; clear hK K; try walk_nrm)
        first
          | refine opsC_moveA hS rfl rfl (.inl rfl) ?_
          | refine opsC_moveA hS rfl rfl (.inr rfl) ?_
          | refine opsC_binA hS rfl rfl rfl rfl rfl rfl ?_
          | refine opsC_lenA hS rfl rfl rfl (by kernel_rfl) rfl ?_
          | (refine opsC_plain hS rfl rfl fun _ K hK => ?_; go_simp; refine hK _ (by simp [go_sem, events_cap_slice, events_slice_hi, *]) ?_; clear hK K; try walk_nrm)
        have hw : IntKind.i64.wrap ((a : Int) + (b : Int)) = (a : Int) + b := by rw [IntKind.wrap_i64]; omega
        by_cases h5 : 5 < a + b
        · refine opsC_binA (v := .int .i64 (a + b)) hS rfl rfl rfl rfl rfl (by simp only [int2, hw]) ?_
          refine opsC_binA (v := .bool true) hS rfl rfl rfl rfl rfl (by simp [int2]; omega) ?_
          (refine opsC_plain hS rfl rfl fun _ K hK => ?_; go_simp; refine hK _ (by simp [go_sem, events_cap_slice, events_slice_hi, *]) ?_; clear hK K; try walk_nrm)
          refine opsC_nil hS ?_
          show WpN _ _ _ _ _ _ _
          repeat refine wpN_seq hS ?_
          refine wpN_cond (t := true) hS rfl ?_
          simp only [if_true, if_false, Bool.false_eq_true]
          repeat refine wpN_seq hS ?_
          refine wpN_region hS ?_
          simp only [List.size_toArray, List.length_cons, List.length_nil, Nat.reduceAdd, Nat.zero_add, List.range, List.range.loop]
          first
            | refine opsC_moveA hS rfl rfl (.inl rfl) ?_
            | refine opsC_moveA hS rfl rfl (.inr rfl) ?_
            | refine opsC_binA hS rfl rfl rfl rfl rfl rfl ?_
            | refine opsC_lenA hS rfl rfl rfl (by kernel_rfl) rfl ?_
            | (refine opsC_plain hS rfl rfl fun _ K hK => ?_; go_simp; refine hK _ (by simp [go_sem, events_cap_slice, events_slice_hi, *]) ?_; clear hK K; try walk_nrm)
          first
            | refine opsC_moveA hS rfl rfl (.inl rfl) ?_
            | refine opsC_moveA hS rfl rfl (.inr rfl) ?_
            | refine opsC_binA hS rfl rfl rfl rfl rfl rfl ?_
            | refine opsC_lenA hS rfl rfl rfl (by kernel_rfl) rfl ?_
            | (refine opsC_plain hS rfl rfl fun _ K hK => ?_; go_simp; refine hK _ (by simp [go_sem, events_cap_slice, events_slice_hi, *]) ?_; clear hK K; try walk_nrm)
          first
            | refine opsC_moveA hS rfl rfl (.inl rfl) ?_
            | refine opsC_moveA hS rfl rfl (.inr rfl) ?_
            | refine opsC_binA hS rfl rfl rfl rfl rfl rfl ?_
            | refine opsC_lenA hS rfl rfl rfl (by kernel_rfl) rfl ?_
            | (refine opsC_plain hS rfl rfl fun _ K hK => ?_; go_simp; refine hK _ (by simp [go_sem, events_cap_slice, events_slice_hi, *]) ?_; clear hK K; try walk_nrm)
          refine opsC_callF hS rfl rfl rfl Try.func58 (by kernel_rfl) rfl (by simp only [List.map_toArray, List.map_cons, List.map_nil]; rfl) (madeLC (yss := R) (by kernel_rfl) fun w₁ o => by rw [HR.out]; exact mixS_any _ _ _ xs _ _ _ ys w₁ (sp6.only o) (sq6.only o) nilp) ?_
          rintro v w7 M' ⟨rfl, own7, o7⟩
          obtain ⟨ad7, cd7, rfl, sd7⟩ := own7.sl
          have sp7 := sp6.only o7
          have sq7 := sq6.only o7
          have sg7 := sg6.only o7
          have p7 := p6.trans o7
          refine opsC_callF hS rfl rfl rfl Try.func37 (by kernel_rfl) rfl (by simp only [List.map_toArray, List.map_cons, List.map_nil]; rfl) (saysC (v := .bool true) (by kernel_rfl) fun w₁ o => says_tob (equalLists_any _ _ _ _ _ _ _ _ w₁ (sg7.only o) (sd7.only o)) (decide_eq_true rfl)) ?_
          rintro v w8 M' ⟨rfl, rfl, o8⟩
          have sp8 := sp7.only o8
          have sq8 := sq7.only o8
          have sg8 := sg7.only o8
          have p8 := p7.trans o8
          repeat first
            | refine opsC_moveA hS rfl rfl (.inl rfl) ?_
            | refine opsC_moveA hS rfl rfl (.inr rfl) ?_
            | refine opsC_binA hS rfl rfl rfl rfl rfl rfl ?_
            | refine opsC_lenA hS rfl rfl rfl (by kernel_rfl) rfl ?_
            | (refine opsC_plain hS rfl rfl fun _ K hK => ?_; go_simp; refine hK _ (by simp [go_sem, events_cap_slice, events_slice_hi, *]) ?_; clear hK K; try walk_nrm)
          refine opsC_nil hS ?_
          show WpN _ _ _ _ _ _ _
          refine wpN_ret hS ⟨rfl, _, resultsC_tmp rfl _, ?_⟩
          exact fun w₁ hr => ⟨rfl, p8.trans (Only.re hr)⟩
        · refine opsC_binA (v := .int .i64 (a + b)) hS rfl rfl rfl rfl rfl (by simp only [int2, hw]) ?_
          refine opsC_binA (v := .bool false) hS rfl rfl rfl rfl rfl (by simp [int2]; omega) ?_
          (refine opsC_plain hS rfl rfl fun _ K hK => ?_; go_simp; refine hK _ (by simp [go_sem, events_cap_slice, events_slice_hi, *]) ?_; clear hK K; try walk_nrm)
          refine opsC_nil hS ?_
          show WpN _ _ _ _ _ _ _
          repeat refine wpN_seq hS ?_
          refine wpN_cond (t := false) hS rfl ?_
          simp only [if_true, if_false, Bool.false_eq_true]
          refine wpN_skip hS ?_
          show WpN _ _ _ _ _ _ _
          have hf := mxF_ok hvp hvq (by rw [← Ha.out, ← Hb.out]; omega)
          rw [← HR.out] at hf
          have Hf := hid hf
          clear hf HR hvp hvq
          refine wpN_lone plain_prog (by kernel_rfl) (by kernel_rfl) rfl fun w7 hr7 => ?_
          have sp7 := sp6.only (Only.re hr7)
          have sq7 := sq6.only (Only.re hr7)
          have sg7 := sg6.only (Only.re hr7)
          have p7 := p6.trans (Only.re hr7)
          clear sp6 sq6 sg6 p6 hr7 sp1 sp2 sp3 sp4 sp5 sq1 sq2 sq3 sq4 sq5 sg2 sg3 sg4 sg5 sd3 own3 o1 o2 o3 o4 o5 o6 p2 p3 p4 p5
          have hR10 := Hf.out.len
          obtain ⟨N, hN⟩ : ∃ N, N = R.length := ⟨_, rfl⟩
          rw [← hN] at sg7 hR10 ⊢
          have HN := hid hN
          clear hN
          have hab5 : (a : Int) + b ≤ 5 := by omega
          have HP := hid sp7
          have HQ := hid sq7
          clear sp7 sq7
          go_wp2
          go_loopw [6] (fun i wr => ∃ t : Nat, t ≤ N ∧ i = .int .i64 t ∧ Below w7.heap.size w7 wr) (fun i _ => N - (intOf i).toNat)
          case atStart => exact ⟨0, Nat.zero_le _, rfl, Below.refl _ _⟩
          case round =>
            obtain ⟨t, ht, rfl, hbr⟩ := hrel
            obtain ⟨wo, hwo⟩ : ∃ wo, wo = wr := ⟨_, rfl⟩
            subst hwo
            by_cases htl : t < N
            · have hti : (t : Int) < (N : Int) := by omega
              have sD : SlL wo ag N cg R := sg7.later hbr
              have htR : t < R.length := by rw [← HN.out]; exact htl
              have Hmem := hid (show ell R t ∈ R by rw [ell_lt htR]; exact List.getElem_mem htR)
              obtain ⟨x, hx⟩ : ∃ x, x = ell R t := ⟨_, rfl⟩
              have hxl : x.length = a + b := by rw [hx, Ha.out, Hb.out]; exact Hf.out.lens _ Hmem.out
              have Hv : Hid (Valid x) := hid (by rw [hx]; exact Hf.out.ok _ Hmem.out)
              have Hlow : Hid (lowV a x = xs) := hid (by rw [hx, Ha.out]; exact Hf.out.low _ Hmem.out)
              have Hhig : Hid (higV a x = ys) := hid (by rw [hx, Ha.out]; exact Hf.out.hig _ Hmem.out)
              obtain ⟨bk, off, rfl, hblt, hc⟩ := sD.row (by omega)
              obtain ⟨ai, ci, hcell0, hsD⟩ := hc t htl
              rw [← hx] at hsD hcell0
              rw [hxl] at hcell0 hsD
              have HX := hid hx
              have Hxl := hid hxl
              have HsD := hid hsD
              have hcap := sD.le
              have hcap2 := sD.max
              unfold maxLen at hcap2
              have htc : t ≤ cg := by omega
              have Hblt := hid hblt
              have hsz0 := hbr.size
              clear hc hx hxl hsD sD hcap2
              obtain ⟨c, hcab⟩ : ∃ c, c = a + b := ⟨_, rfl⟩
              rw [← hcab] at hcell0 HsD Hxl
              have hc5 : c ≤ 5 := by omega
              have Hcab := hid hcab
              clear hcab
              go_wp2
              go_loopw [7, 8, 9] (fun u d i wi => ∃ (k m1 : Nat) (ao1 : Option Addr) (c1 m2 : Nat) (ao2 : Option Addr) (c2 : Nat), k ≤ c ∧ u = .slice ao1 m1 c1 ∧ d = .slice ao2 m2 c2 ∧ i = .int .i64 k ∧ Below wo.heap.size wo wi ∧ Own wi wo.heap.size (.slice ao1 m1 c1) (lowV a (x.take k)) ∧ Own wi wo.heap.size (.slice ao2 m2 c2) (higV a (x.take k)) ∧ Apart (.slice ao1 m1 c1) (.slice ao2 m2 c2))
                (fun _ _ i _ => c - (intOf i).toNat)
              case atStart => exact ⟨0, _, _, _, _, _, _, Nat.zero_le _, rfl, rfl, rfl, ((Below.refl _ _).alloc (Nat.le_refl _) _).alloc (by simp) _, World.ownsRow.alloc (own_lit wo) _, own_lit2 wo _, Or.inr (by simp [Value.ownBlock])⟩
              case round =>
                obtain ⟨k, m1, ao1, c1, m2, ao2, c2, hk, rfl, rfl, rfl, hbi, ho1, ho2, hap⟩ := hrel
                have hsz := hbi.size
                have hl1 : (lowV a (x.take k)).length ≤ 2000000 := by have h1 := lowV_len a (x.take k); have h2 := List.length_take_le k x; omega
                have hl2 : (higV a (x.take k)).length ≤ 2000000 := by have h1 := higV_len a (x.take k); have h2 := List.length_take_le k x; omega
                have hcellt := (hbi.cell (p := ⟨bk, off + t, none⟩) Hblt.out).trans hcell0
                by_cases hlt : k < c
                · have hki : (k : Int) < (c : Int) := by omega
                  have hkx : k < x.length := by rw [Hxl.out]; exact hlt
                  obtain ⟨bx, ox, rfl, hbx, hcx⟩ := HsD.out.row (by omega)
                  have hcellx := (hbi.cell (p := ⟨bx, ox + k, none⟩) hbx).trans (hcx k hlt)
                  have hcx2 := HsD.out.le
                  have hv0 := Hv.out.lo k hkx
                  have hv1 := Hv.out.hi k hkx
                  rw [Hxl.out] at hv1
                  clear hcx
                  by_cases he : el x k < (a : Int)
                  · have Hl := hid (low_yes hkx he)
                    have Hh := hid (hig_yes hkx he)
                    go_wp2_with (at_builtin; refine app_int2 _ _ rfl _ _ rfl wo.heap.size _ _ rfl ho1 rfl hl1 hsz ?_)
                    intro u' w' ho' hg' hk'
                    have hb' := below_app hbi ho1 hg'
                    have ho2' := ho2.kept hg' hap.symm
                    have hap' := hap.app ho2 hk'
                    rw [← Hl.out] at ho'
                    rw [← Hh.out] at ho2'
                    have hl' := hid (rfl : (lowV a (x.take (k + 1))).length = (lowV a (x.take (k + 1))).length)
                    obtain ⟨ao', cap', rfl, hs'⟩ := ho'.sl
                    go_wp2
                    go_roundw
                    case rel => exact ⟨k + 1, _, _, _, _, _, _, by omega, rfl, rfl, by go_num, hb', ho', ho2', hap'⟩
                    case measure => simp [intOf]; omega
                  · have Hl := hid (low_no hkx he)
                    have Hh := hid (hig_no hkx he)
                    go_wp2_with (at_builtin; refine app_int2 _ _ rfl _ _ rfl wo.heap.size _ _ rfl ho2 rfl hl2 hsz ?_)
                    intro u' w' ho' hg' hk'
                    have hb' := below_app hbi ho2 hg'
                    have ho1' := ho1.kept hg' hap
                    have hap' := (hap.symm.app ho1 hk').symm
                    rw [← Hh.out] at ho'
                    rw [← Hl.out] at ho1'
                    have hl' := hid (rfl : (higV a (x.take (k + 1))).length = (higV a (x.take (k + 1))).length)
                    obtain ⟨ao', cap', rfl, hs'⟩ := ho'.sl
                    go_wp2
                    go_roundw
                    case rel => exact ⟨k + 1, _, _, _, _, _, _, by omega, rfl, rfl, by go_num, hb', ho1', ho', hap'⟩
                    case measure => simp [intOf]; omega
                · obtain rfl : k = c := by omega
                  have htk : x.take k = x := by rw [← Hxl.out, List.take_length]
                  rw [htk, Hlow.out] at ho1
                  rw [htk, Hhig.out] at ho2
                  have hs1 := ho1.read
                  have hs2 := ho2.read
                  have hbw := hbr.trans (hbi.mono hbr.size)
                  have hp1 := HP.out.later hbw
                  have hq1 := HQ.out.later hbw
                  have hx1 := HsD.out.later hbi
                  clear htk hl1 hl2 hap ho1 ho2
                  go_wp2_with fail
                  refine (says_tob (equalInts_any _ _ _ xs _ _ _ xs _ hs1 hp1) (decide_eq_true rfl)).mono ?_
                  rintro e w8 ⟨rfl, b8⟩
                  have hs3 := hs2.later b8
                  have hq2 := hq1.later b8
                  have hx2 := hx1.later b8
                  have hcell8 := (b8.cell (p := ⟨bk, off + t, none⟩) (Nat.lt_of_lt_of_le Hblt.out hsz)).trans hcellt
                  have hb8 := hbw.trans (b8.mono hbw.size)
                  clear hs1 hp1 hq1 hx1 hcellt hbw
                  go_wp2_with fail
                  refine (says_tob (equalInts_any _ _ _ ys _ _ _ ys _ hs3 hq2) (decide_eq_true rfl)).mono ?_
                  rintro e w9 ⟨rfl, b9⟩
                  have hx3 := hx2.later b9
                  have hcell9 := (b9.cell (p := ⟨bk, off + t, none⟩) (Nat.lt_of_lt_of_le Hblt.out (Nat.le_trans hsz b8.size))).trans hcell8
                  have hb9 := hb8.trans (b9.mono hb8.size)
                  clear hx2 hs3 hq2 hcell8 hb8
                  go_wp2_with fail
                  refine (says_tob (validI_any _ _ _ x _ hx3) (decide_eq_true Hv.out)).mono ?_
                  rintro e w10 ⟨rfl, b10⟩
                  have hb10 := hb9.trans (b10.mono hb9.size)
                  clear hx3 hcell9 hb9
                  go_wp2
                  go_roundw
                  case rel => exact ⟨t + 1, by omega, by go_num, hb10⟩
                  case measure => simp [intOf]; omega
            · obtain rfl : t = N := by omega
              have Hnum : Hid ((t : Int) = chP ((a + b : Nat) : Int) a) := hid (by rw [HN.out, Ha.out, Hb.out]; exact Hf.out.num)
              have hwc : (a : Int) + (b : Int) = ((a + b : Nat) : Int) := by omega
              obtain ⟨c, hcab⟩ : ∃ c, c = a + b := ⟨_, rfl⟩
              rw [← hcab] at Hnum hwc
              have hc5 : c ≤ 5 := by omega
              have hac : a ≤ c := by omega
              have Hwc := hid hwc
              clear hwc hcab
              go_wp2_with fail
              rw [Hwc.out]
              refine (choose7_any c a _ (by omega) hac).mono ?_
              rintro e w9 ⟨rfl, rfl⟩
              rw [← Hnum.out]
              have hq : ∀ w₁, Re w9 w₁ → Only W w₁ := fun w₁ hr => (p7.trans (Only.of_re (Re.refl _) hbr)).trans (Only.re hr)
              go_wp2
              exact ⟨rfl, _, resultsC_tmp rfl _, fun w₁ hr => ⟨rfl, hq w₁ hr⟩⟩
      · refine opsC_callF hS rfl rfl rfl Try.func59 (by kernel_rfl) rfl (by simp only [List.map_toArray, List.map_cons, List.map_nil]; rfl) (saysC (v := .bool false) (by kernel_rfl) fun w₁ o => says_tob (validI_any _ _ _ ys w₁ (sq5.only o)) (decide_eq_false hvq)) ?_
        rintro v w6 M' ⟨rfl, rfl, o6⟩
        have sp6 := sp5.only o6
        have sq6 := sq5.only o6
        have sg6 := sg5.only o6
        have p6 := p5.trans o6
        (refine opsC_plain hS rfl rfl fun _ K hK => ?_; go_simp; refine hK _ (by simp [go_sem, events_cap_slice, events_slice_hi, *]) ?_; clear hK K; try walk_nrm)
        (refine opsC_plain hS rfl rfl fun _ K hK => ?_; go_simp; refine hK _ (by simp [go_sem, events_cap_slice, events_slice_hi, *]) ?_; clear hK K; try walk_nrm)
        first
          | refine opsC_moveA hS rfl rfl (.inl rfl) ?_
          | refine opsC_moveA hS rfl rfl (.inr rfl) ?_
          | refine opsC_binA hS rfl rfl rfl rfl rfl rfl ?_
          | refine opsC_lenA hS rfl rfl rfl (by kernel_rfl) rfl ?_
          | (refine opsC_plain hS rfl rfl fun _ K hK => ?_; go_simp; refine hK _ (by simp [go_sem, events_cap_slice, events_slice_hi, *]) ?_; clear hK K; try walk_nrm)
        refine opsC_unwanted hS rfl rfl ?_
        refine opsC_unwanted hS rfl rfl ?_
        refine opsC_unwanted hS rfl rfl ?_
        refine opsC_unwanted hS rfl rfl ?_
        refine opsC_unwanted hS rfl rfl ?_
        refine opsC_unwanted hS rfl rfl ?_
        (refine opsC_plain hS rfl rfl fun _ K hK => ?_; go_simp; refine hK _ (by simp [go_sem, events_cap_slice, events_slice_hi, *]) ?_; clear hK K; try walk_nrm)
        refine opsC_nil hS ?_
        show WpN _ _ _ _ _ _ _
        repeat refine wpN_seq hS ?_
        refine wpN_cond (t := true) hS rfl ?_
        simp only [if_true, if_false, Bool.false_eq_true]
        repeat refine wpN_seq hS ?_
        refine wpN_region hS ?_
        simp only [List.size_toArray, List.length_cons, List.length_nil, Nat.reduceAdd, Nat.zero_add, List.range, List.range.loop]
        first
          | refine opsC_moveA hS rfl rfl (.inl rfl) ?_
          | refine opsC_moveA hS rfl rfl (.inr rfl) ?_
          | refine opsC_binA hS rfl rfl rfl rfl rfl rfl ?_
          | refine opsC_lenA hS rfl rfl rfl (by kernel_rfl) rfl ?_
          | (refine opsC_plain hS rfl rfl fun _ K hK => ?_; go_simp; refine hK _ (by simp [go_sem, events_cap_slice, events_slice_hi, *]) ?_; clear hK K; try walk_nrm)
        first
          | refine opsC_moveA hS rfl rfl (.inl rfl) ?_
          | refine opsC_moveA hS rfl rfl (.inr rfl) ?_
          | refine opsC_binA hS rfl rfl rfl rfl rfl rfl ?_
          | refine opsC_lenA hS rfl rfl rfl (by kernel_rfl) rfl ?_
          | (refine opsC_plain hS rfl rfl fun _ K hK => ?_; go_simp; refine hK _ (by simp [go_sem, events_cap_slice, events_slice_hi, *]) ?_; clear hK K; try walk_nrm)
        first
          | refine opsC_moveA hS rfl rfl (.inl rfl) ?_
          | refine opsC_moveA hS rfl rfl (.inr rfl) ?_
          | refine opsC_binA hS rfl rfl rfl rfl rfl rfl ?_
          | refine opsC_lenA hS rfl rfl rfl (by kernel_rfl) rfl ?_
          | (refine opsC_plain hS rfl rfl fun _ K hK => ?_; go_simp; refine hK _ (by simp [go_sem, events_cap_slice, events_slice_hi, *]) ?_; clear hK K; try walk_nrm)
        refine opsC_callF hS rfl rfl rfl Try.func58 (by kernel_rfl) rfl (by simp only [List.map_toArray, List.map_cons, List.map_nil]; rfl) (madeLC (yss := R) (by kernel_rfl) fun w₁ o => by rw [HR.out]; exact mixS_any _ _ _ xs _ _ _ ys w₁ (sp6.only o) (sq6.only o) nilp) ?_
        rintro v w7 M' ⟨rfl, own7, o7⟩
        obtain ⟨ad7, cd7, rfl, sd7⟩ := own7.sl
        have sp7 := sp6.only o7
        have sq7 := sq6.only o7
        have sg7 := sg6.only o7
        have p7 := p6.trans o7
        refine opsC_callF hS rfl rfl rfl Try.func37 (by kernel_rfl) rfl (by simp only [List.map_toArray, List.map_cons, List.map_nil]; rfl) (saysC (v := .bool true) (by kernel_rfl) fun w₁ o => says_tob (equalLists_any _ _ _ _ _ _ _ _ w₁ (sg7.only o) (sd7.only o)) (decide_eq_true rfl)) ?_
        rintro v w8 M' ⟨rfl, rfl, o8⟩
        have sp8 := sp7.only o8
        have sq8 := sq7.only o8
        have sg8 := sg7.only o8
        have p8 := p7.trans o8
        repeat first
          | refine opsC_moveA hS rfl rfl (.inl rfl) ?_
          | refine opsC_moveA hS rfl rfl (.inr rfl) ?_
          | refine opsC_binA hS rfl rfl rfl rfl rfl rfl ?_
          | refine opsC_lenA hS rfl rfl rfl (by kernel_rfl) rfl ?_
          | (refine opsC_plain hS rfl rfl fun _ K hK => ?_; go_simp; refine hK _ (by simp [go_sem, events_cap_slice, events_slice_hi, *]) ?_; clear hK K; try walk_nrm)
        refine opsC_nil hS ?_
        show WpN _ _ _ _ _ _ _
        refine wpN_ret hS ⟨rfl, _, resultsC_tmp rfl _, ?_⟩
        exact fun w₁ hr => ⟨rfl, p8.trans (Only.re hr)⟩
    · refine opsC_callF hS rfl rfl rfl Try.func59 (by kernel_rfl) rfl (by simp only [List.map_toArray, List.map_cons, List.map_nil]; rfl) (saysC (v := .bool false) (by kernel_rfl) fun w₁ o => says_tob (validI_any _ _ _ xs w₁ (sp4.only o)) (decide_eq_false hvp)) ?_
      rintro v w5 M' ⟨rfl, rfl, o5⟩
      have sp5 := sp4.only o5
      have sq5 := sq4.only o5
      have sg5 := sg4.only o5
      have p5 := p4.trans o5
      (refine opsC_plain hS rfl rfl fun _ K hK => ?_; go_simp; refine hK _ (by simp [go_sem, events_cap_slice, events_slice_hi, *]) ?_; clear hK K; try walk_nrm)
      (refine opsC_plain hS rfl rfl fun _ K hK => ?_; go_simp; refine hK _ (by simp [go_sem, events_cap_slice, events_slice_hi, *]) ?_; clear hK K; try walk_nrm)
      first
        | refine opsC_moveA hS rfl rfl (.inl rfl) ?_
        | refine opsC_moveA hS rfl rfl (.inr rfl) ?_
        | refine opsC_binA hS rfl rfl rfl rfl rfl rfl ?_
        | refine opsC_lenA hS rfl rfl rfl (by kernel_rfl) rfl ?_
        | (refine opsC_plain hS rfl rfl fun _ K hK => ?_; go_simp; refine hK _ (by simp [go_sem, events_cap_slice, events_slice_hi, *]) ?_; clear hK K; try walk_nrm)
      refine opsC_unwanted hS rfl rfl ?_
      refine opsC_unwanted hS rfl rfl ?_
      refine opsC_unwanted hS rfl rfl ?_
      (refine opsC_plain hS rfl rfl fun _ K hK => ?_; go_simp; refine hK _ (by simp [go_sem, events_cap_slice, events_slice_hi, *]) ?_; clear hK K; try walk_nrm)
      first
        | refine opsC_moveA hS rfl rfl (.inl rfl) ?_
        | refine opsC_moveA hS rfl rfl (.inr rfl) ?_
        | refine opsC_binA hS rfl rfl rfl rfl rfl rfl ?_
        | refine opsC_lenA hS rfl rfl rfl (by kernel_rfl) rfl ?_
        | (refine opsC_plain hS rfl rfl fun _ K hK => ?_; go_simp; refine hK _ (by simp [go_sem, events_cap_slice, events_slice_hi, *]) ?_; clear hK K; try walk_nrm)
      refine opsC_unwanted hS rfl rfl ?_
      refine opsC_unwanted hS rfl rfl ?_
      refine opsC_unwanted hS rfl rfl ?_
      refine opsC_unwanted hS rfl rfl ?_
      refine opsC_unwanted hS rfl rfl ?_
      refine opsC_unwanted hS rfl rfl ?_
      (refine opsC_plain hS rfl rfl fun _ K hK => ?_; go_simp; refine hK _ (by simp [go_sem, events_cap_slice, events_slice_hi, *]) ?_; clear hK K; try walk_nrm)
      refine opsC_nil hS ?_
      show WpN _ _ _ _ _ _ _
      repeat refine wpN_seq hS ?_
      refine wpN_cond (t := true) hS rfl ?_
      simp only [if_true, if_false, Bool.false_eq_true]
      repeat refine wpN_seq hS ?_
      refine wpN_region hS ?_
      simp only [List.size_toArray, List.length_cons, List.length_nil, Nat.reduceAdd, Nat.zero_add, List.range, List.range.loop]
      first
        | refine opsC_moveA hS rfl rfl (.inl rfl) ?_
        | refine opsC_moveA hS rfl rfl (.inr rfl) ?_
        | refine opsC_binA hS rfl rfl rfl rfl rfl rfl ?_
        | refine opsC_lenA hS rfl rfl rfl (by kernel_rfl) rfl ?_
        | (refine opsC_plain hS rfl rfl fun _ K hK => ?_; go_simp; refine hK _ (by simp [go_sem, events_cap_slice, events_slice_hi, *]) ?_; clear hK K; try walk_nrm)
      first
        | refine opsC_moveA hS rfl rfl (.inl rfl) ?_
        | refine opsC_moveA hS rfl rfl (.inr rfl) ?_
        | refine opsC_binA hS rfl rfl rfl rfl rfl rfl ?_
        | refine opsC_lenA hS rfl rfl rfl (by kernel_rfl) rfl ?_
        | (refine opsC_plain hS rfl rfl fun _ K hK => ?_; go_simp; refine hK _ (by simp [go_sem, events_cap_slice, events_slice_hi, *]) ?_; clear hK K; try walk_nrm)
      first
        | refine opsC_moveA hS rfl rfl (.inl rfl) ?_
        | refine opsC_moveA hS rfl rfl (.inr rfl) ?_
        | refine opsC_binA hS rfl rfl rfl rfl rfl rfl ?_
        | refine opsC_lenA hS rfl rfl rfl (by kernel_rfl) rfl ?_
        | (refine opsC_plain hS rfl rfl fun _ K hK => ?_; go_simp; refine hK _ (by simp [go_sem, events_cap_slice, events_slice_hi, *]) ?_; clear hK K; try walk_nrm)
      refine opsC_callF hS rfl rfl rfl Try.func58 (by kernel_rfl) rfl (by simp only [List.map_toArray, List.map_cons, List.map_nil]; rfl) (madeLC (yss := R) (by kernel_rfl) fun w₁ o => by rw [HR.out]; exact mixS_any _ _ _ xs _ _ _ ys w₁ (sp5.only o) (sq5.only o) nilp) ?_
      rintro v w6 M' ⟨rfl, own6, o6⟩
      obtain ⟨ad6, cd6, rfl, sd6⟩ := own6.sl
      have sp6 := sp5.only o6
      have sq6 := sq5.only o6
      have sg6 := sg5.only o6
      have p6 := p5.trans o6
      refine opsC_callF hS rfl rfl rfl Try.func37 (by kernel_rfl) rfl (by simp only [List.map_toArray, List.map_cons, List.map_nil]; rfl) (saysC (v := .bool true) (by kernel_rfl) fun w₁ o => says_tob (equalLists_any _ _ _ _ _ _ _ _ w₁ (sg6.only o) (sd6.only o)) (decide_eq_true rfl)) ?_
      rintro v w7 M' ⟨rfl, rfl, o7⟩
      have sp7 := sp6.only o7
      have sq7 := sq6.only o7
      have sg7 := sg6.only o7
      have p7 := p6.trans o7
      repeat first
        | refine opsC_moveA hS rfl rfl (.inl rfl) ?_
        | refine opsC_moveA hS rfl rfl (.inr rfl) ?_
        | refine opsC_binA hS rfl rfl rfl rfl rfl rfl ?_
        | refine opsC_lenA hS rfl rfl rfl (by kernel_rfl) rfl ?_
        | (refine opsC_plain hS rfl rfl fun _ K hK => ?_; go_simp; refine hK _ (by simp [go_sem, events_cap_slice, events_slice_hi, *]) ?_; clear hK K; try walk_nrm)
      refine opsC_nil hS ?_
      show WpN _ _ _ _ _ _ _
      refine wpN_ret hS ⟨rfl, _, resultsC_tmp rfl _, ?_⟩
      exact fun w₁ hr => ⟨rfl, p7.trans (Only.re hr)⟩
  · repeat refine wpN_seq hS ?_
    refine wpN_region hS ?_
    simp only [List.size_toArray, List.length_cons, List.length_nil, Nat.reduceAdd, Nat.zero_add, List.range, List.range.loop]
    first
      | refine opsC_moveA hS rfl rfl (.inl rfl) ?_
      | refine opsC_moveA hS rfl rfl (.inr rfl) ?_
      | refine opsC_binA hS rfl rfl rfl rfl rfl rfl ?_
      | refine opsC_lenA hS rfl rfl rfl (by kernel_rfl) rfl ?_
      | (refine opsC_plain hS rfl rfl fun _ K hK => ?_; go_simp; refine hK _ (by simp [go_sem, events_cap_slice, events_slice_hi, *]) ?_; clear hK K; try walk_nrm)
    first
      | refine opsC_moveA hS rfl rfl (.inl rfl) ?_
      | refine opsC_moveA hS rfl rfl (.inr rfl) ?_
      | refine opsC_binA hS rfl rfl rfl rfl rfl rfl ?_
      | refine opsC_lenA hS rfl rfl rfl (by kernel_rfl) rfl ?_
      | (refine opsC_plain hS rfl rfl fun _ K hK => ?_; go_simp; refine hK _ (by simp [go_sem, events_cap_slice, events_slice_hi, *]) ?_; clear hK K; try walk_nrm)
    refine opsC_binA (v := .bool true) hS rfl rfl rfl rfl rfl (by simp [int2]; omega) ?_
    refine opsC_nil hS ?_
    show WpN _ _ _ _ _ _ _
    repeat refine wpN_seq hS ?_
    refine wpN_cond (t := true) hS rfl ?_
    simp only [if_true, if_false, Bool.false_eq_true]
    repeat refine wpN_seq hS ?_
    refine wpN_region hS ?_
    simp only [List.size_toArray, List.length_cons, List.length_nil, Nat.reduceAdd, Nat.zero_add, List.range, List.range.loop]
    repeat first
      | refine opsC_moveA hS rfl rfl (.inl rfl) ?_
      | refine opsC_moveA hS rfl rfl (.inr rfl) ?_
      | refine opsC_binA hS rfl rfl rfl rfl rfl rfl ?_
      | refine opsC_lenA hS rfl rfl rfl (by kernel_rfl) rfl ?_
      | (refine opsC_plain hS rfl rfl fun _ K hK => ?_; go_simp; refine hK _ (by simp [go_sem, events_cap_slice, events_slice_hi, *]) ?_; clear hK K; try walk_nrm)
    refine opsC_nil hS ?_
    show WpN _ _ _ _ _ _ _
    refine wpN_ret hS ⟨rfl, _, resultsC_tmp rfl _, ?_⟩
    exact fun w₁ hr => ⟨rfl, (Only.refl W).trans (Only.re hr)⟩

end Go.Proofs.Ytjphaphnmclbcaa
