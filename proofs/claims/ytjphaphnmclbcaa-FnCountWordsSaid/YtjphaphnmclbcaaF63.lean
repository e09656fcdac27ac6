/- The walk of the law of CountWords, beside leavers. Condition of the law's own: at most 2^20 bytes. -/
import Derived.Test.YtjphaphnmclbcaaMnT
import Derived.Test.YtjphaphnmclbcaaMnF
import Derived.Test.YtjphaphnmclbcaaTl
import Derived.Test.YtjphaphnmclbcaaCwd
import Derived.Test.YtjphaphnmclbcaaLawRow
namespace Go.Proofs.Ytjphaphnmclbcaa
open Go Go.Conc Go.RowKit

set_option linter.unusedSimpArgs false in
set_option maxHeartbeats 8000000 in
theorem fnCountWords_T (bo : Option Addr) (n cap : Nat) (cs : List Int) (W : World) (h : Slb W bo n cap cs) :
    ∃ N last o w' t', runNT Try.prog (N + 1) (solo (G (Frame.enter Try.prog 8 #[.slice bo n cap] .normal) []) W) #[] = (.ended o w', t') ∧ runN Try.prog N (solo (G (Frame.enter Try.prog 8 #[.slice bo n cap] .normal) []) W) = .next last ∧
      step Try.prog last = .ended o w' ∧ Go.Conc.Good Try.prog (fun v W' => v = .bool true ∧ Only W W') last o w' t' := by
  refine good_of_wpC Try.func8 rfl (by kernel_rfl) fun Stop => ?_
  have hS : Fam Try.prog true (fun _ => True) (TF Try.prog Stop) := fam_T
  simp only [Try.ntmps8, List.size_toArray, List.length_cons, List.length_nil, Nat.reduceAdd, Nat.reduceSub, Array.replicate_succ,
     Array.replicate_zero, List.push_toArray, List.append_toArray, List.nil_append, List.cons_append]
  repeat refine wpC_seq hS ?_
  refine wpC_region hS ?_
  simp only [List.size_toArray, List.length_cons, List.length_nil, Nat.reduceAdd, Nat.zero_add, List.range, List.range.loop]
  repeat first
    | refine opsC_moveA hS rfl rfl (.inl rfl) ?_
    | refine opsC_moveA hS rfl rfl (.inr rfl) ?_
    | refine opsC_binA hS rfl rfl rfl rfl rfl rfl ?_
    | refine opsC_lenA hS rfl rfl rfl (by kernel_rfl) rfl ?_
    | (refine opsC_plain hS rfl rfl fun _ K hK => ?_; go_simp; refine hK _ (by simp [go_sem, events_cap_slice, events_slice_hi, *]) ?_; clear hK K; try walk_nrm)
  refine opsC_nil hS ?_
  show WpC _ _ _ _ _ _ _
  by_cases hn : n ≤ 1048576
  · repeat refine wpC_seq hS ?_
    refine wpC_region hS ?_
    simp only [List.size_toArray, List.length_cons, List.length_nil, Nat.reduceAdd, Nat.zero_add, List.range, List.range.loop]
    first
      | refine opsC_moveA hS rfl rfl (.inl rfl) ?_
      | refine opsC_moveA hS rfl rfl (.inr rfl) ?_
      | refine opsC_binA hS rfl rfl rfl rfl rfl rfl ?_
      | refine opsC_lenA hS rfl rfl rfl (by kernel_rfl) rfl ?_
      | (refine opsC_plain hS rfl rfl fun _ K hK => ?_; go_simp; refine hK _ (by simp [go_sem, events_cap_slice, events_slice_hi, *]) ?_; clear hK K; try walk_nrm)
    first
      | refine opsC_moveA hS rfl rfl (.inl rfl) ?_
      | refine opsC_moveA hS rfl rfl (.inr rfl) ?_
      | refine opsC_binA hS rfl rfl rfl rfl rfl rfl ?_
      | refine opsC_lenA hS rfl rfl rfl (by kernel_rfl) rfl ?_
      | (refine opsC_plain hS rfl rfl fun _ K hK => ?_; go_simp; refine hK _ (by simp [go_sem, events_cap_slice, events_slice_hi, *]) ?_; clear hK K; try walk_nrm)
    refine opsC_binA (v := .bool false) hS rfl rfl rfl rfl rfl (by simp [int2]; omega) ?_
    refine opsC_nil hS ?_
    show WpC _ _ _ _ _ _ _
    repeat refine wpC_seq hS ?_
    refine wpC_cond (t := false) hS rfl ?_
    simp only [if_true, if_false, Bool.false_eq_true]
    refine wpC_skip hS ?_
    show WpC _ _ _ _ _ _ _
    repeat refine wpC_seq hS ?_
    refine wpC_region hS ?_
    simp only [List.size_toArray, List.length_cons, List.length_nil, Nat.reduceAdd, Nat.zero_add, List.range, List.range.loop]
    first
      | refine opsC_moveA hS rfl rfl (.inl rfl) ?_
      | refine opsC_moveA hS rfl rfl (.inr rfl) ?_
      | refine opsC_binA hS rfl rfl rfl rfl rfl rfl ?_
      | refine opsC_lenA hS rfl rfl rfl (by kernel_rfl) rfl ?_
      | (refine opsC_plain hS rfl rfl fun _ K hK => ?_; go_simp; refine hK _ (by simp [go_sem, events_cap_slice, events_slice_hi, *]) ?_; clear hK K; try walk_nrm)
    refine opsC_callF hS rfl rfl rfl Try.func42 (by kernel_rfl) rfl (by simp only [List.map_toArray, List.map_cons, List.map_nil]; rfl) (drawnVC (by kernel_rfl) fun w₁ o => drawCountWords_any _ _ _ cs w₁ (h.only o)) ?_
    rintro v w1 M' ⟨rfl, ap, m, cp, xs, rfl, sp1, hm20, o1⟩
    clear hn
    obtain ⟨V, hV⟩ : ∃ V, V = onCi xs (cwP xs 4) (-1) := ⟨_, rfl⟩
    have HV := hid hV
    clear hV
    repeat first
      | refine opsC_moveA hS rfl rfl (.inl rfl) ?_
      | refine opsC_moveA hS rfl rfl (.inr rfl) ?_
      | refine opsC_binA hS rfl rfl rfl rfl rfl rfl ?_
      | refine opsC_lenA hS rfl rfl rfl (by kernel_rfl) rfl ?_
      | (refine opsC_plain hS rfl rfl fun _ K hK => ?_; go_simp; refine hK _ (by simp [go_sem, events_cap_slice, events_slice_hi, *]) ?_; clear hK K; try walk_nrm)
    refine opsC_nil hS ?_
    show WpC _ _ _ _ _ _ _
    have p1 := o1
    repeat refine wpC_seq hS ?_
    refine wpC_region hS ?_
    simp only [List.size_toArray, List.length_cons, List.length_nil, Nat.reduceAdd, Nat.zero_add, List.range, List.range.loop]
    first
      | refine opsC_moveA hS rfl rfl (.inl rfl) ?_
      | refine opsC_moveA hS rfl rfl (.inr rfl) ?_
      | refine opsC_binA hS rfl rfl rfl rfl rfl rfl ?_
      | refine opsC_lenA hS rfl rfl rfl (by kernel_rfl) rfl ?_
      | (refine opsC_plain hS rfl rfl fun _ K hK => ?_; go_simp; refine hK _ (by simp [go_sem, events_cap_slice, events_slice_hi, *]) ?_; clear hK K; try walk_nrm)
    refine opsC_callF hS rfl rfl rfl Try.func33 (by kernel_rfl) rfl (by simp only [List.map_toArray, List.map_cons, List.map_nil]; rfl) (saysC (v := .int .i64 V) (by kernel_rfl) fun w₁ o => says_to (cwdI_any _ _ _ xs w₁ (sp1.only o)) HV.out.symm) ?_
    rintro v w2 M' ⟨rfl, rfl, o2⟩
    have sp2 := sp1.only o2
    have p2 := p1.trans o2
    repeat first
      | refine opsC_moveA hS rfl rfl (.inl rfl) ?_
      | refine opsC_moveA hS rfl rfl (.inr rfl) ?_
      | refine opsC_binA hS rfl rfl rfl rfl rfl rfl ?_
      | refine opsC_lenA hS rfl rfl rfl (by kernel_rfl) rfl ?_
      | (refine opsC_plain hS rfl rfl fun _ K hK => ?_; go_simp; refine hK _ (by simp [go_sem, events_cap_slice, events_slice_hi, *]) ?_; clear hK K; try walk_nrm)
    refine opsC_nil hS ?_
    show WpC _ _ _ _ _ _ _
    repeat refine wpC_seq hS ?_
    refine wpC_region hS ?_
    simp only [List.size_toArray, List.length_cons, List.length_nil, Nat.reduceAdd, Nat.zero_add, List.range, List.range.loop]
    first
      | refine opsC_moveA hS rfl rfl (.inl rfl) ?_
      | refine opsC_moveA hS rfl rfl (.inr rfl) ?_
      | refine opsC_binA hS rfl rfl rfl rfl rfl rfl ?_
      | refine opsC_lenA hS rfl rfl rfl (by kernel_rfl) rfl ?_
      | (refine opsC_plain hS rfl rfl fun _ K hK => ?_; go_simp; refine hK _ (by simp [go_sem, events_cap_slice, events_slice_hi, *]) ?_; clear hK K; try walk_nrm)
    first
      | refine opsC_moveA hS rfl rfl (.inl rfl) ?_
      | refine opsC_moveA hS rfl rfl (.inr rfl) ?_
      | refine opsC_binA hS rfl rfl rfl rfl rfl rfl ?_
      | refine opsC_lenA hS rfl rfl rfl (by kernel_rfl) rfl ?_
      | (refine opsC_plain hS rfl rfl fun _ K hK => ?_; go_simp; refine hK _ (by simp [go_sem, events_cap_slice, events_slice_hi, *]) ?_; clear hK K; try walk_nrm)
    refine opsC_callF hS rfl rfl rfl Try.func43 (by kernel_rfl) rfl (by simp only [List.map_toArray, List.map_cons, List.map_nil]; rfl) (saysC (v := .int .i64 V) (by kernel_rfl) fun w₁ o => says_to (cwdS_any _ _ _ xs w₁ (sp2.only o) (by omega)) HV.out.symm) ?_
    rintro v w3 M' ⟨rfl, rfl, o3⟩
    have sp3 := sp2.only o3
    have p3 := p2.trans o3
    refine opsC_binA (v := .bool false) hS rfl rfl rfl rfl rfl (by simp [int2]) ?_
    first
      | refine opsC_moveA hS rfl rfl (.inl rfl) ?_
      | refine opsC_moveA hS rfl rfl (.inr rfl) ?_
      | refine opsC_binA hS rfl rfl rfl rfl rfl rfl ?_
      | refine opsC_lenA hS rfl rfl rfl (by kernel_rfl) rfl ?_
      | (refine opsC_plain hS rfl rfl fun _ K hK => ?_; go_simp; refine hK _ (by simp [go_sem, events_cap_slice, events_slice_hi, *]) ?_; clear hK K; try walk_nrm)
    first
      | refine opsC_moveA hS rfl rfl (.inl rfl) ?_
      | refine opsC_moveA hS rfl rfl (.inr rfl) ?_
      | refine opsC_binA hS rfl rfl rfl rfl rfl rfl ?_
      | refine opsC_lenA hS rfl rfl rfl (by kernel_rfl) rfl ?_
      | (refine opsC_plain hS rfl rfl fun _ K hK => ?_; go_simp; refine hK _ (by simp [go_sem, events_cap_slice, events_slice_hi, *]) ?_; clear hK K; try walk_nrm)
    by_cases hv : VC xs
    · have hVc : V = cwP xs 4 := by rw [HV.out, onCi_yes hv]
      have hVp := cwP_pos hv
      rw [← hVc] at hVp
      have HVc := hid hVc
      have hm4 : m = 4 := by rw [← sp1.len]; exact hv.len
      have hf := mnF hv
      clear hVc
      subst hm4
      refine opsC_binA (v := .bool false) hS rfl rfl rfl rfl rfl (by simp [int2]; omega) ?_
      (refine opsC_plain hS rfl rfl fun _ K hK => ?_; go_simp; refine hK _ (by simp [go_sem, events_cap_slice, events_slice_hi, *]) ?_; clear hK K; try walk_nrm)
      refine opsC_nil hS ?_
      show WpC _ _ _ _ _ _ _
      repeat refine wpC_seq hS ?_
      refine wpC_cond (t := false) hS rfl ?_
      simp only [if_true, if_false, Bool.false_eq_true]
      refine wpC_skip hS ?_
      show WpC _ _ _ _ _ _ _
      repeat refine wpC_seq hS ?_
      refine wpC_region hS ?_
      simp only [List.size_toArray, List.length_cons, List.length_nil, Nat.reduceAdd, Nat.zero_add, List.range, List.range.loop]
      first
        | refine opsC_moveA hS rfl rfl (.inl rfl) ?_
        | refine opsC_moveA hS rfl rfl (.inr rfl) ?_
        | refine opsC_binA hS rfl rfl rfl rfl rfl rfl ?_
        | refine opsC_lenA hS rfl rfl rfl (by kernel_rfl) rfl ?_
        | (refine opsC_plain hS rfl rfl fun _ K hK => ?_; go_simp; refine hK _ (by simp [go_sem, events_cap_slice, events_slice_hi, *]) ?_; clear hK K; try walk_nrm)
      first
        | refine opsC_moveA hS rfl rfl (.inl rfl) ?_
        | refine opsC_moveA hS rfl rfl (.inr rfl) ?_
        | refine opsC_binA hS rfl rfl rfl rfl rfl rfl ?_
        | refine opsC_lenA hS rfl rfl rfl (by kernel_rfl) rfl ?_
        | (refine opsC_plain hS rfl rfl fun _ K hK => ?_; go_simp; refine hK _ (by simp [go_sem, events_cap_slice, events_slice_hi, *]) ?_; clear hK K; try walk_nrm)
      refine opsC_callF hS rfl rfl rfl Try.func44 (by kernel_rfl) rfl (by simp only [List.map_toArray, List.map_cons, List.map_nil]; rfl) (mnT ap 4 cp xs w3 sp3) ?_
      rintro vg w4 M' ⟨rfl, own4, o4⟩
      obtain ⟨R, hR⟩ : ∃ R, R = mnL xs := ⟨_, rfl⟩
      rw [← hR] at own4
      have HR := hid hR
      clear hR
      have hlen : R.length ≤ 30 := by rw [HR.out]; exact hf.len
      obtain ⟨a4, c4, rfl, s4⟩ := own4.sl
      have sp4 := sp3.only o4
      have p4 := p3.trans o4
      refine opsC_callF hS rfl rfl rfl Try.func32 (by kernel_rfl) rfl (by simp only [List.map_toArray, List.map_cons, List.map_nil]; rfl) (saysC (v := .int .i64 V) (by kernel_rfl) fun w₁ o => says_to (totalB_any _ _ _ R w₁ (s4.only o) (by omega) (by rw [HR.out]; exact hid hf.small)) (by rw [HR.out, hf.count, HVc.out])) ?_
      rintro v w5 M' ⟨rfl, rfl, o5⟩
      have sp5 := sp4.only o5
      have p5 := p4.trans o5
      refine opsC_binA (v := .bool true) hS rfl rfl rfl rfl rfl (by simp [int2]) ?_
      first
        | refine opsC_moveA hS rfl rfl (.inl rfl) ?_
        | refine opsC_moveA hS rfl rfl (.inr rfl) ?_
        | refine opsC_binA hS rfl rfl rfl rfl rfl rfl ?_
        | refine opsC_lenA hS rfl rfl rfl (by kernel_rfl) rfl ?_
        | (refine opsC_plain hS rfl rfl fun _ K hK => ?_; go_simp; refine hK _ (by simp [go_sem, events_cap_slice, events_slice_hi, *]) ?_; clear hK K; try walk_nrm)
      first
        | refine opsC_moveA hS rfl rfl (.inl rfl) ?_
        | refine opsC_moveA hS rfl rfl (.inr rfl) ?_
        | refine opsC_binA hS rfl rfl rfl rfl rfl rfl ?_
        | refine opsC_lenA hS rfl rfl rfl (by kernel_rfl) rfl ?_
        | (refine opsC_plain hS rfl rfl fun _ K hK => ?_; go_simp; refine hK _ (by simp [go_sem, events_cap_slice, events_slice_hi, *]) ?_; clear hK K; try walk_nrm)
      refine opsC_callF hS rfl rfl rfl Try.func45 (by kernel_rfl) rfl (by simp only [List.map_toArray, List.map_cons, List.map_nil]; rfl) (madeC (ys := turn xs) (by kernel_rfl) fun w₁ o => mirrored_any _ _ _ xs w₁ (sp5.only o) (by omega)) ?_
      rintro v w6 M' ⟨rfl, own6, o6⟩
      obtain ⟨a6, c6, rfl, s6⟩ := own6.sl
      have sp6 := sp5.only o6
      have p6 := p5.trans o6
      refine opsC_callF hS rfl rfl rfl Try.func33 (by kernel_rfl) rfl (by simp only [List.map_toArray, List.map_cons, List.map_nil]; rfl) (saysC (v := .int .i64 V) (by kernel_rfl) fun w₁ o => says_to (cwdI_any _ _ _ (turn xs) w₁ (s6.only o)) (by rw [onCi_yes hf.vt, hf.turned, HVc.out])) ?_
      rintro v w7 M' ⟨rfl, rfl, o7⟩
      have sp7 := sp6.only o7
      have p7 := p6.trans o7
      first
        | refine opsC_moveA hS rfl rfl (.inl rfl) ?_
        | refine opsC_moveA hS rfl rfl (.inr rfl) ?_
        | refine opsC_binA hS rfl rfl rfl rfl rfl rfl ?_
        | refine opsC_lenA hS rfl rfl rfl (by kernel_rfl) rfl ?_
        | (refine opsC_plain hS rfl rfl fun _ K hK => ?_; go_simp; refine hK _ (by simp [go_sem, events_cap_slice, events_slice_hi, *]) ?_; clear hK K; try walk_nrm)
      refine opsC_binA (v := .bool true) hS rfl rfl rfl rfl rfl (by simp [int2]) ?_
      (refine opsC_plain hS rfl rfl fun _ K hK => ?_; go_simp; refine hK _ (by simp [go_sem, events_cap_slice, events_slice_hi, *]) ?_; clear hK K; try walk_nrm)
      repeat first
        | refine opsC_moveA hS rfl rfl (.inl rfl) ?_
        | refine opsC_moveA hS rfl rfl (.inr rfl) ?_
        | refine opsC_binA hS rfl rfl rfl rfl rfl rfl ?_
        | refine opsC_lenA hS rfl rfl rfl (by kernel_rfl) rfl ?_
        | (refine opsC_plain hS rfl rfl fun _ K hK => ?_; go_simp; refine hK _ (by simp [go_sem, events_cap_slice, events_slice_hi, *]) ?_; clear hK K; try walk_nrm)
      refine opsC_nil hS ?_
      show WpC _ _ _ _ _ _ _
      refine wpC_ret hS ⟨rfl, _, resultsC_tmp rfl _, ?_⟩
      exact fun w₁ hr => ⟨rfl, p7.trans (Only.re hr)⟩
    · have hVc : V = -1 := by rw [HV.out, onCi_no hv]
      subst hVc
      refine opsC_binA (v := .bool true) hS rfl rfl rfl rfl rfl (by simp [int2]) ?_
      (refine opsC_plain hS rfl rfl fun _ K hK => ?_; go_simp; refine hK _ (by simp [go_sem, events_cap_slice, events_slice_hi, *]) ?_; clear hK K; try walk_nrm)
      refine opsC_nil hS ?_
      show WpC _ _ _ _ _ _ _
      repeat refine wpC_seq hS ?_
      refine wpC_cond (t := true) hS rfl ?_
      simp only [if_true, if_false, Bool.false_eq_true]
      repeat refine wpC_seq hS ?_
      refine wpC_region hS ?_
      simp only [List.size_toArray, List.length_cons, List.length_nil, Nat.reduceAdd, Nat.zero_add, List.range, List.range.loop]
      first
        | refine opsC_moveA hS rfl rfl (.inl rfl) ?_
        | refine opsC_moveA hS rfl rfl (.inr rfl) ?_
        | refine opsC_binA hS rfl rfl rfl rfl rfl rfl ?_
        | refine opsC_lenA hS rfl rfl rfl (by kernel_rfl) rfl ?_
        | (refine opsC_plain hS rfl rfl fun _ K hK => ?_; go_simp; refine hK _ (by simp [go_sem, events_cap_slice, events_slice_hi, *]) ?_; clear hK K; try walk_nrm)
      first
        | refine opsC_moveA hS rfl rfl (.inl rfl) ?_
        | refine opsC_moveA hS rfl rfl (.inr rfl) ?_
        | refine opsC_binA hS rfl rfl rfl rfl rfl rfl ?_
        | refine opsC_lenA hS rfl rfl rfl (by kernel_rfl) rfl ?_
        | (refine opsC_plain hS rfl rfl fun _ K hK => ?_; go_simp; refine hK _ (by simp [go_sem, events_cap_slice, events_slice_hi, *]) ?_; clear hK K; try walk_nrm)
      refine opsC_callF hS rfl rfl rfl Try.func43 (by kernel_rfl) rfl (by simp only [List.map_toArray, List.map_cons, List.map_nil]; rfl) (saysC (v := .int .i64 (-1)) (by kernel_rfl) fun w₁ o => says_to (cwdS_any _ _ _ xs w₁ (sp3.only o) (by omega)) HV.out.symm) ?_
      rintro v w4 M' ⟨rfl, rfl, o4⟩
      have sp4 := sp3.only o4
      have p4 := p3.trans o4
      refine opsC_binA (v := .bool true) hS rfl rfl rfl rfl rfl (by simp [int2]) ?_
      repeat first
        | refine opsC_moveA hS rfl rfl (.inl rfl) ?_
        | refine opsC_moveA hS rfl rfl (.inr rfl) ?_
        | refine opsC_binA hS rfl rfl rfl rfl rfl rfl ?_
        | refine opsC_lenA hS rfl rfl rfl (by kernel_rfl) rfl ?_
        | (refine opsC_plain hS rfl rfl fun _ K hK => ?_; go_simp; refine hK _ (by simp [go_sem, events_cap_slice, events_slice_hi, *]) ?_; clear hK K; try walk_nrm)
      refine opsC_nil hS ?_
      show WpC _ _ _ _ _ _ _
      refine wpC_ret hS ⟨rfl, _, resultsC_tmp rfl _, ?_⟩
      exact fun w₁ hr => ⟨rfl, p4.trans (Only.re hr)⟩
  · repeat refine wpC_seq hS ?_
    refine wpC_region hS ?_
    simp only [List.size_toArray, List.length_cons, List.length_nil, Nat.reduceAdd, Nat.zero_add, List.range, List.range.loop]
    first
      | refine opsC_moveA hS rfl rfl (.inl rfl) ?_
      | refine opsC_moveA hS rfl rfl (.inr rfl) ?_
      | refine opsC_binA hS rfl rfl rfl rfl rfl rfl ?_
      | refine opsC_lenA hS rfl rfl rfl (by kernel_rfl) rfl ?_
      | (refine opsC_plain hS rfl rfl fun _ K hK => ?_; go_simp; refine hK _ (by simp [go_sem, events_cap_slice, events_slice_hi, *]) ?_; clear hK K; try walk_nrm)
    first
      | refine opsC_moveA hS rfl rfl (.inl rfl) ?_
      | refine opsC_moveA hS rfl rfl (.inr rfl) ?_
      | refine opsC_binA hS rfl rfl rfl rfl rfl rfl ?_
      | refine opsC_lenA hS rfl rfl rfl (by kernel_rfl) rfl ?_
      | (refine opsC_plain hS rfl rfl fun _ K hK => ?_; go_simp; refine hK _ (by simp [go_sem, events_cap_slice, events_slice_hi, *]) ?_; clear hK K; try walk_nrm)
    refine opsC_binA (v := .bool true) hS rfl rfl rfl rfl rfl (by simp [int2]; omega) ?_
    refine opsC_nil hS ?_
    show WpC _ _ _ _ _ _ _
    repeat refine wpC_seq hS ?_
    refine wpC_cond (t := true) hS rfl ?_
    simp only [if_true, if_false, Bool.false_eq_true]
    repeat refine wpC_seq hS ?_
    refine wpC_region hS ?_
    simp only [List.size_toArray, List.length_cons, List.length_nil, Nat.reduceAdd, Nat.zero_add, List.range, List.range.loop]
    repeat first
      | refine opsC_moveA hS rfl rfl (.inl rfl) ?_
      | refine opsC_moveA hS rfl rfl (.inr rfl) ?_
      | refine opsC_binA hS rfl rfl rfl rfl rfl rfl ?_
      | refine opsC_lenA hS rfl rfl rfl (by kernel_rfl) rfl ?_
      | (refine opsC_plain hS rfl rfl fun _ K hK => ?_; go_simp; refine hK _ (by simp [go_sem, events_cap_slice, events_slice_hi, *]) ?_; clear hK K; try walk_nrm)
    refine opsC_nil hS ?_
    show WpC _ _ _ _ _ _ _
    refine wpC_ret hS ⟨rfl, _, resultsC_tmp rfl _, ?_⟩
    exact fun w₁ hr => ⟨rfl, (Only.refl W).trans (Only.re hr)⟩

end Go.Proofs.Ytjphaphnmclbcaa
