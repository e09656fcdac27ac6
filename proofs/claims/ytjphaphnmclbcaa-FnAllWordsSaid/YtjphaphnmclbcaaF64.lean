/- The walk of the law of AllWords, beside leavers. Condition of the law's own: at most 2^20 bytes. -/
import Derived.Test.YtjphaphnmclbcaaAwT
import Derived.Test.YtjphaphnmclbcaaWdA
import Derived.Test.YtjphaphnmclbcaaTl
import Derived.Test.YtjphaphnmclbcaaChNn
import Derived.Test.YtjphaphnmclbcaaOwnT
import Derived.Test.YtjphaphnmclbcaaLawL
import Derived.Test.YtjphaphnmclbcaaBnf
import Derived.Test.YtjphaphnmclbcaaCwd
import Derived.Test.YtjphaphnmclbcaaHldN
namespace Go.Proofs.Ytjphaphnmclbcaa
open Go Go.Conc Go.RowKit

def ndB : List (List Int) → Bool
  | [] => true
  | x :: l => l.all (fun y => decide (x ≠ y)) && ndB l
theorem ndB_pw : ∀ l : List (List Int), ndB l = true → l.Pairwise (· ≠ ·)
  | [], _ => List.Pairwise.nil
  | x :: l, h => by
    rw [ndB, Bool.and_eq_true, List.all_eq_true] at h
    exact List.Pairwise.cons (fun y hy => of_decide_eq_true (h.1 y hy)) (ndB_pw l h.2)
def chkA (c : List Int) : Bool := (awL c).all (fun x => decide (cont x = c)) && ndB (awL c) && (decide (5 < sumL c) || decide (((awL c).length : Int) = cwP c 4))
theorem chkA_all {c : List Int} (h : VC c) : chkA c = true := vc_all chkA (by decide +kernel) c h
structure AwF (c : List Int) (L : List (List Int)) : Prop where
  con : ∀ k, k < L.length → cont (ell L k) = c
  vw : ∀ k, k < L.length → VW (ell L k)
  apart : ∀ k, k < L.length → ∀ j, j < k → ell (L.take k) j ≠ ell L k
  count : (L.length : Int) = cwP c 4
  len : L.length ≤ 1000
theorem awF {c : List Int} (h : VC c) (h5 : sumL c ≤ 5) : AwF c (awL c) := by
  have h1 := chkA_all h
  simp only [chkA, Bool.and_eq_true, Bool.or_eq_true, List.all_eq_true, decide_eq_true_eq] at h1
  obtain ⟨⟨h1, h2⟩, h3⟩ := h1
  refine ⟨fun k hk => ?_, fun k hk => ?_, fun k hk j hj => ?_, ?_, awL_len⟩
  · rw [ell_lt hk]; exact h1 _ (List.getElem_mem hk)
  · rw [ell_lt hk]; exact awL_vw _ (List.getElem_mem hk)
  · have := List.pairwise_iff_getElem.1 (ndB_pw _ h2) j k (by omega) hk hj
    have e2 : ell ((awL c).take k) j = ell (awL c) j := by simp [ell, List.getD, hj]
    rw [e2, ell_lt hk, ell_lt (by omega)]
    exact this
  · rcases h3 with h3 | h3
    · omega
    · exact h3

set_option linter.unusedSimpArgs false in
set_option maxHeartbeats 8000000 in
theorem fnAllWords_T (bo : Option Addr) (n cap : Nat) (cs : List Int) (W : World) (h : Slb W bo n cap cs) :
    ∃ N last o w' t', runNT Try.prog (N + 1) (solo (G (Frame.enter Try.prog 6 #[.slice bo n cap] .normal) []) W) #[] = (.ended o w', t') ∧ runN Try.prog N (solo (G (Frame.enter Try.prog 6 #[.slice bo n cap] .normal) []) W) = .next last ∧
      step Try.prog last = .ended o w' ∧ Go.Conc.Good Try.prog (fun v W' => v = .bool true ∧ Only W W') last o w' t' := by
  refine good_of_wpN Try.func6 rfl (by kernel_rfl) fun Stop => ?_
  have hS : Fam Try.prog true (fun _ => True) (TF Try.prog Stop) := fam_T
  simp only [Try.ntmps6, List.size_toArray, List.length_cons, List.length_nil, Nat.reduceAdd, Nat.reduceSub, Array.replicate_succ,
     Array.replicate_zero, List.push_toArray, List.append_toArray, List.nil_append, List.cons_append]
  repeat refine wpN_seq hS ?_
  refine wpN_region hS ?_
  simp only [List.size_toArray, List.length_cons, List.length_nil, Nat.reduceAdd, Nat.zero_add, List.range, List.range.loop]
  repeat first
    | refine opsC_moveA hS rfl rfl (.inl rfl) ?_
    | refine opsC_moveA hS rfl rfl (.inr rfl) ?_
    | refine opsC_binA hS rfl rfl rfl rfl rfl rfl ?_
    | refine opsC_lenA hS rfl rfl rfl (by kernel_rfl) rfl ?_
    | (refine opsC_plain hS rfl rfl fun _ K hK => ?_; go_simp; refine hK _ (by simp [go_sem, events_cap_slice, events_slice_hi, *]) ?_; clear hK K; try walk_nrm)
  refine opsC_nil hS ?_
  show WpN _ _ _ _ _ _ _
  by_cases hn : n ≤ 1048576
  · repeat refine wpN_seq hS ?_
    refine wpN_region hS ?_
    simp only [List.size_toArray, List.length_cons, List.length_nil, Nat.reduceAdd, Nat.zero_add, List.range, List.range.loop]
    first
      | refine opsC_moveA hS rfl rfl (.inl rfl) ?_
      | refine opsC_moveA hS rfl rfl (.inr rfl) ?_
      | refine opsC_binA hS rfl rfl rfl rfl rfl rfl ?_
      | refine opsC_lenA hS rfl rfl rfl (by kernel_rfl) rfl ?_
      | (refine opsC_plain hS rfl rfl fun _ K hK => ?_; go_simp; refine hK _ (by simp [go_sem, events_cap_slice, events_slice_hi, *]) ?_; clear hK K; try walk_nrm)
    first
      | refine opsC_moveA hS rfl rfl (.inl rfl) ?_
      | refine opsC_moveA hS rfl rfl (.inr rfl) ?_
      | refine opsC_binA hS rfl rfl rfl rfl rfl rfl ?_
      | refine opsC_lenA hS rfl rfl rfl (by kernel_rfl) rfl ?_
      | (refine opsC_plain hS rfl rfl fun _ K hK => ?_; go_simp; refine hK _ (by simp [go_sem, events_cap_slice, events_slice_hi, *]) ?_; clear hK K; try walk_nrm)
    refine opsC_binA (v := .bool false) hS rfl rfl rfl rfl rfl (by simp [int2]; omega) ?_
    refine opsC_nil hS ?_
    show WpN _ _ _ _ _ _ _
    repeat refine wpN_seq hS ?_
    refine wpN_cond (t := false) hS rfl ?_
    simp only [if_true, if_false, Bool.false_eq_true]
    refine wpN_skip hS ?_
    show WpN _ _ _ _ _ _ _
    repeat refine wpN_seq hS ?_
    refine wpN_region hS ?_
    simp only [List.size_toArray, List.length_cons, List.length_nil, Nat.reduceAdd, Nat.zero_add, List.range, List.range.loop]
    first
      | refine opsC_moveA hS rfl rfl (.inl rfl) ?_
      | refine opsC_moveA hS rfl rfl (.inr rfl) ?_
      | refine opsC_binA hS rfl rfl rfl rfl rfl rfl ?_
      | refine opsC_lenA hS rfl rfl rfl (by kernel_rfl) rfl ?_
      | (refine opsC_plain hS rfl rfl fun _ K hK => ?_; go_simp; refine hK _ (by simp [go_sem, events_cap_slice, events_slice_hi, *]) ?_; clear hK K; try walk_nrm)
    refine opsC_callF hS rfl rfl rfl Try.func36 (by kernel_rfl) rfl (by simp only [List.map_toArray, List.map_cons, List.map_nil]; rfl) (drawnVC (by kernel_rfl) fun w₁ o => drawAllWords_any _ _ _ cs w₁ (h.only o)) ?_
    rintro v w1 M' ⟨rfl, ap, m, cp, xs, rfl, sp1, hm20, o1⟩
    clear hn
    obtain ⟨R, hR⟩ : ∃ R, R = awL xs := ⟨_, rfl⟩
    have HR := hid hR
    clear hR
    repeat first
      | refine opsC_moveA hS rfl rfl (.inl rfl) ?_
      | refine opsC_moveA hS rfl rfl (.inr rfl) ?_
      | refine opsC_binA hS rfl rfl rfl rfl rfl rfl ?_
      | refine opsC_lenA hS rfl rfl rfl (by kernel_rfl) rfl ?_
      | (refine opsC_plain hS rfl rfl fun _ K hK => ?_; go_simp; refine hK _ (by simp [go_sem, events_cap_slice, events_slice_hi, *]) ?_; clear hK K; try walk_nrm)
    refine opsC_nil hS ?_
    show WpN _ _ _ _ _ _ _
    repeat refine wpN_seq hS ?_
    refine wpN_region hS ?_
    simp only [List.size_toArray, List.length_cons, List.length_nil, Nat.reduceAdd, Nat.zero_add, List.range, List.range.loop]
    first
      | refine opsC_moveA hS rfl rfl (.inl rfl) ?_
      | refine opsC_moveA hS rfl rfl (.inr rfl) ?_
      | refine opsC_binA hS rfl rfl rfl rfl rfl rfl ?_
      | refine opsC_lenA hS rfl rfl rfl (by kernel_rfl) rfl ?_
      | (refine opsC_plain hS rfl rfl fun _ K hK => ?_; go_simp; refine hK _ (by simp [go_sem, events_cap_slice, events_slice_hi, *]) ?_; clear hK K; try walk_nrm)
    refine opsC_callF hS rfl rfl rfl Try.func35 (by kernel_rfl) rfl (by simp only [List.map_toArray, List.map_cons, List.map_nil]; rfl) (awT ap m cp xs w1 sp1) ?_
    rintro vg w2 M' ⟨rfl, own2, o2⟩
    rw [← HR.out] at own2
    have p2 := o1.trans o2
    have sp2 := sp1.only o2
    obtain ⟨ag, cg, rfl, sg2⟩ := own2.sl
    clear own2
    repeat first
      | refine opsC_moveA hS rfl rfl (.inl rfl) ?_
      | refine opsC_moveA hS rfl rfl (.inr rfl) ?_
      | refine opsC_binA hS rfl rfl rfl rfl rfl rfl ?_
      | refine opsC_lenA hS rfl rfl rfl (by kernel_rfl) rfl ?_
      | (refine opsC_plain hS rfl rfl fun _ K hK => ?_; go_simp; refine hK _ (by simp [go_sem, events_cap_slice, events_slice_hi, *]) ?_; clear hK K; try walk_nrm)
    refine opsC_nil hS ?_
    show WpN _ _ _ _ _ _ _
    repeat refine wpN_seq hS ?_
    refine wpN_region hS ?_
    simp only [List.size_toArray, List.length_cons, List.length_nil, Nat.reduceAdd, Nat.zero_add, List.range, List.range.loop]
    first
      | refine opsC_moveA hS rfl rfl (.inl rfl) ?_
      | refine opsC_moveA hS rfl rfl (.inr rfl) ?_
      | refine opsC_binA hS rfl rfl rfl rfl rfl rfl ?_
      | refine opsC_lenA hS rfl rfl rfl (by kernel_rfl) rfl ?_
      | (refine opsC_plain hS rfl rfl fun _ K hK => ?_; go_simp; refine hK _ (by simp [go_sem, events_cap_slice, events_slice_hi, *]) ?_; clear hK K; try walk_nrm)
    first
      | refine opsC_moveA hS rfl rfl (.inl rfl) ?_
      | refine opsC_moveA hS rfl rfl (.inr rfl) ?_
      | refine opsC_binA hS rfl rfl rfl rfl rfl rfl ?_
      | refine opsC_lenA hS rfl rfl rfl (by kernel_rfl) rfl ?_
      | (refine opsC_plain hS rfl rfl fun _ K hK => ?_; go_simp; refine hK _ (by simp [go_sem, events_cap_slice, events_slice_hi, *]) ?_; clear hK K; try walk_nrm)
    refine opsC_callF hS rfl rfl rfl Try.func38 (by kernel_rfl) rfl (by simp only [List.map_toArray, List.map_cons, List.map_nil]; rfl) (madeLC (yss := R) (by kernel_rfl) fun w₁ o => by rw [HR.out]; exact awS_any _ _ _ xs w₁ (sp2.only o) (by omega)) ?_
    rintro v w3 M' ⟨rfl, own3, o3⟩
    obtain ⟨ad3, cd3, rfl, sd3⟩ := own3.sl
    have sp3 := sp2.only o3
    have sg3 := sg2.only o3
    have p3 := p2.trans o3
    refine opsC_callF hS rfl rfl rfl Try.func37 (by kernel_rfl) rfl (by simp only [List.map_toArray, List.map_cons, List.map_nil]; rfl) (saysC (v := .bool true) (by kernel_rfl) fun w₁ o => says_tob (equalLists_any _ _ _ _ _ _ _ _ w₁ (sg3.only o) (sd3.only o)) (decide_eq_true rfl)) ?_
    rintro v w4 M' ⟨rfl, rfl, o4⟩
    have sp4 := sp3.only o4
    have sg4 := sg3.only o4
    have p4 := p3.trans o4
    (refine opsC_plain hS rfl rfl fun _ K hK => ?_; go_simp; refine hK _ (by simp [go_sem, events_cap_slice, events_slice_hi, *]) ?_; clear hK K; try walk_nrm)
    first
      | refine opsC_moveA hS rfl rfl (.inl rfl) ?_
      | refine opsC_moveA hS rfl rfl (.inr rfl) ?_
      | refine opsC_binA hS rfl rfl rfl rfl rfl rfl ?_
      | refine opsC_lenA hS rfl rfl rfl (by kernel_rfl) rfl ?_
      | (refine opsC_plain hS rfl rfl fun _ K hK => ?_; go_simp; refine hK _ (by simp [go_sem, events_cap_slice, events_slice_hi, *]) ?_; clear hK K; try walk_nrm)
    first
      | refine opsC_moveA hS rfl rfl (.inl rfl) ?_
      | refine opsC_moveA hS rfl rfl (.inr rfl) ?_
      | refine opsC_binA hS rfl rfl rfl rfl rfl rfl ?_
      | refine opsC_lenA hS rfl rfl rfl (by kernel_rfl) rfl ?_
      | (refine opsC_plain hS rfl rfl fun _ K hK => ?_; go_simp; refine hK _ (by simp [go_sem, events_cap_slice, events_slice_hi, *]) ?_; clear hK K; try walk_nrm)
    by_cases hv : VC xs
    · refine opsC_callF hS rfl rfl rfl Try.func33 (by kernel_rfl) rfl (by simp only [List.map_toArray, List.map_cons, List.map_nil]; rfl) (saysC (by kernel_rfl) fun w₁ o => says_to (cwdI_any _ _ _ xs w₁ (sp4.only o)) (onCi_yes hv)) ?_
      rintro v w5 M' ⟨rfl, rfl, o5⟩
      have sp5 := sp4.only o5
      have sg5 := sg4.only o5
      have p5 := p4.trans o5
      have hm4 : m = 4 := by rw [← sp1.len]; exact hv.len
      subst hm4
      clear sp1 sp2 sp3 sp4 sg2 sg3 sg4 sd3 own3 o1 o2 o3 o4 o5 p2 p3 p4
      have hcp := cwP_pos hv
      refine opsC_binA (v := .bool false) hS rfl rfl rfl rfl rfl (by simp [int2]; omega) ?_
      (refine opsC_plain hS rfl rfl fun _ K hK => ?_; go_simp; refine hK _ (by simp [go_sem, events_cap_slice, events_slice_hi, *]) ?_; clear hK K; try walk_nrm)
      first
        | refine opsC_moveA hS rfl rfl (.inl rfl) ?_
        | refine opsC_moveA hS rfl rfl (.inr rfl) ?_
        | refine opsC_binA hS rfl rfl rfl rfl rfl rfl ?_
        | refine opsC_lenA hS rfl rfl rfl (by kernel_rfl) rfl ?_
        | (refine opsC_plain hS rfl rfl fun _ K hK => ?_; go_simp; refine hK _ (by simp [go_sem, events_cap_slice, events_slice_hi, *]) ?_; clear hK K; try walk_nrm)
      first
        | refine opsC_moveA hS rfl rfl (.inl rfl) ?_
        | refine opsC_moveA hS rfl rfl (.inr rfl) ?_
        | refine opsC_binA hS rfl rfl rfl rfl rfl rfl ?_
        | refine opsC_lenA hS rfl rfl rfl (by kernel_rfl) rfl ?_
        | (refine opsC_plain hS rfl rfl fun _ K hK => ?_; go_simp; refine hK _ (by simp [go_sem, events_cap_slice, events_slice_hi, *]) ?_; clear hK K; try walk_nrm)
      refine opsC_callF hS rfl rfl rfl Try.func32 (by kernel_rfl) rfl (by simp only [List.map_toArray, List.map_cons, List.map_nil]; rfl) (saysC (v := .int .i64 (sumL xs)) (by kernel_rfl) fun w₁ o => total_any _ _ _ xs w₁ (sp5.only o) (by omega) (hid fun q hq => by have := hv.one (show q < 4 by rw [hv.len] at hq; exact hq); omega)) ?_
      rintro v w6 M' ⟨rfl, rfl, o6⟩
      have sp6 := sp5.only o6
      have sg6 := sg5.only o6
      have p6 := p5.trans o6
      clear o6 sp5 sg5 p5
      by_cases h5 : 5 < sumL xs
      · refine opsC_binA (v := .bool true) hS rfl rfl rfl rfl rfl (by simp [int2]; omega) ?_
        (refine opsC_plain hS rfl rfl fun _ K hK => ?_; go_simp; refine hK _ (by simp [go_sem, events_cap_slice, events_slice_hi, *]) ?_; clear hK K; try walk_nrm)
        refine opsC_nil hS ?_
        show WpN _ _ _ _ _ _ _
        repeat refine wpN_seq hS ?_
        refine wpN_cond (t := true) hS rfl ?_
        simp only [if_true, if_false, Bool.false_eq_true]
        repeat refine wpN_seq hS ?_
        refine wpN_region hS ?_
        simp only [List.size_toArray, List.length_cons, List.length_nil, Nat.reduceAdd, Nat.zero_add, List.range, List.range.loop]
        first
          | refine opsC_moveA hS rfl rfl (.inl rfl) ?_
          | refine opsC_moveA hS rfl rfl (.inr rfl) ?_
          | refine opsC_binA hS rfl rfl rfl rfl rfl rfl ?_
          | refine opsC_lenA hS rfl rfl rfl (by kernel_rfl) rfl ?_
          | (refine opsC_plain hS rfl rfl fun _ K hK => ?_; go_simp; refine hK _ (by simp [go_sem, events_cap_slice, events_slice_hi, *]) ?_; clear hK K; try walk_nrm)
        first
          | refine opsC_moveA hS rfl rfl (.inl rfl) ?_
          | refine opsC_moveA hS rfl rfl (.inr rfl) ?_
          | refine opsC_binA hS rfl rfl rfl rfl rfl rfl ?_
          | refine opsC_lenA hS rfl rfl rfl (by kernel_rfl) rfl ?_
          | (refine opsC_plain hS rfl rfl fun _ K hK => ?_; go_simp; refine hK _ (by simp [go_sem, events_cap_slice, events_slice_hi, *]) ?_; clear hK K; try walk_nrm)
        refine opsC_callF hS rfl rfl rfl Try.func38 (by kernel_rfl) rfl (by simp only [List.map_toArray, List.map_cons, List.map_nil]; rfl) (madeLC (yss := R) (by kernel_rfl) fun w₁ o => by rw [HR.out]; exact awS_any _ _ _ xs w₁ (sp6.only o) (by omega)) ?_
        rintro v w7 M' ⟨rfl, own7, o7⟩
        obtain ⟨ad7, cd7, rfl, sd7⟩ := own7.sl
        have sp7 := sp6.only o7
        have sg7 := sg6.only o7
        have p7 := p6.trans o7
        refine opsC_callF hS rfl rfl rfl Try.func37 (by kernel_rfl) rfl (by simp only [List.map_toArray, List.map_cons, List.map_nil]; rfl) (saysC (v := .bool true) (by kernel_rfl) fun w₁ o => says_tob (equalLists_any _ _ _ _ _ _ _ _ w₁ (sg7.only o) (sd7.only o)) (decide_eq_true rfl)) ?_
        rintro v w8 M' ⟨rfl, rfl, o8⟩
        have sp8 := sp7.only o8
        have sg8 := sg7.only o8
        have p8 := p7.trans o8
        repeat first
          | refine opsC_moveA hS rfl rfl (.inl rfl) ?_
          | refine opsC_moveA hS rfl rfl (.inr rfl) ?_
          | refine opsC_binA hS rfl rfl rfl rfl rfl rfl ?_
          | refine opsC_lenA hS rfl rfl rfl (by kernel_rfl) rfl ?_
          | (refine opsC_plain hS rfl rfl fun _ K hK => ?_; go_simp; refine hK _ (by simp [go_sem, events_cap_slice, events_slice_hi, *]) ?_; clear hK K; try walk_nrm)
        refine opsC_nil hS ?_
        show WpN _ _ _ _ _ _ _
        refine wpN_ret hS ⟨rfl, _, resultsC_tmp rfl _, ?_⟩
        exact fun w₁ hr => ⟨rfl, p8.trans (Only.re hr)⟩
      · refine opsC_binA (v := .bool false) hS rfl rfl rfl rfl rfl (by simp [int2]; omega) ?_
        (refine opsC_plain hS rfl rfl fun _ K hK => ?_; go_simp; refine hK _ (by simp [go_sem, events_cap_slice, events_slice_hi, *]) ?_; clear hK K; try walk_nrm)
        refine opsC_nil hS ?_
        show WpN _ _ _ _ _ _ _
        repeat refine wpN_seq hS ?_
        refine wpN_cond (t := false) hS rfl ?_
        simp only [if_true, if_false, Bool.false_eq_true]
        refine wpN_skip hS ?_
        show WpN _ _ _ _ _ _ _
        have hf := awF hv (by omega)
        rw [← HR.out] at hf
        have Hf := hid hf
        have Hv := hid hv
        have Hcp := hid hcp
        clear hf hv hcp HR
        refine wpN_lone plain_prog (by kernel_rfl) (by kernel_rfl) rfl fun w7 hr7 => ?_
        have sp7 := sp6.only (Only.re hr7)
        have sg7 := sg6.only (Only.re hr7)
        have p7 := p6.trans (Only.re hr7)
        clear sp6 sg6 p6 hr7
        have hR1000 := Hf.out.len
        obtain ⟨N, hN⟩ : ∃ N, N = R.length := ⟨_, rfl⟩
        rw [← hN] at sg7 hR1000 ⊢
        have HN := hid hN
        clear hN
        go_wp2
        go_loopw [5] (fun i wr => ∃ t : Nat, t ≤ N ∧ i = .int .i64 t ∧ Below w7.heap.size w7 wr) (fun i _ => N - (intOf i).toNat)
        case atStart => exact ⟨0, Nat.zero_le _, rfl, Below.refl _ _⟩
        case round =>
          obtain ⟨t, ht, rfl, hbr⟩ := hrel
          by_cases htl : t < N
          · have hti : (t : Int) < (N : Int) := by omega
            have sD : SlL wr.drew ag N cg R := sg7.later hbr.drew
            have spD : Sl wr.drew ap 4 cp xs := sp7.later hbr.drew
            have Hvw := hid (Hf.out.vw t (by rw [← HN.out]; exact htl))
            have Hcon := hid (Hf.out.con t (by rw [← HN.out]; exact htl))
            have Hne := hid (Hf.out.apart t (by rw [← HN.out]; exact htl))
            have hcap := sD.le
            have hcap2 := sD.max
            unfold maxLen at hcap2
            have htc : t ≤ cg := by omega
            have HD := hid sD
            have HP := hid spD
            obtain ⟨b, off, rfl, hblt, hc⟩ := sD.row (by omega)
            obtain ⟨ai, ci, hcellD, hsD⟩ := hc t htl
            have HsD := hid hsD
            have hbD := hbr.drew
            have Hblt := hid hblt
            clear hc hsD sD spD
            have Hct : Hid (∀ (e : Ending) (w' : World), MadeT 63 wr.drew (cont (ell R t)) e w' → ∃ au cu, e = .returned (.slice au 4 cu) ∧ Sl w' au 4 cu xs ∧ Below wr.drew.heap.size wr.drew w') := hid (by
              rintro e w' ⟨u, rfl, ho, hb⟩
              obtain ⟨au, cu, rfl, hs⟩ := ho.sl
              have h4 : (cont (ell R t)).length = 4 := ctP_len _ _
              rw [h4] at hs ⊢
              rw [Hcon.out] at hs
              exact ⟨au, cu, rfl, hs, hb⟩)
            go_wp2_with fail
            go_region_with (first
              | (go_at_call 34; refine (holdsL_no _ _ _ (R.take t) _ _ _ (ell R t) _ (S2.take (by omega)) s2 (by omega) Hne).mono ?_; rintro e v3 ⟨rfl, c3⟩; have hcell3 := (c3.cell (p := ⟨b, off + t, none⟩) (Nat.lt_of_lt_of_le Hblt.out (Nat.le_trans c1.size c2.size))).trans hcell2; have hb3 := hb2.trans (c3.mono hb2.size))
              | (go_at_call 20; refine (says_tob (equalInts_any _ _ _ xs _ _ _ xs _ sc1 sp1) (decide_eq_true rfl)).mono ?_; rintro e v2 ⟨rfl, c2⟩; have hcell2 := (c2.cell (p := ⟨b, off + t, none⟩) (Nat.lt_of_lt_of_le Hblt.out c1.size)).trans hcell1; have S2 := S1.later c2; have s2 := s1.later c2; have hb2 := hb1.trans (c2.mono hb1.size))
              | (go_at_call 29; refine (contI_any _ _ _ (ell R t) _ HsD.out Hvw).mono ?_; intro e v1 hm1; obtain ⟨au, cu, rfl, sc1, c1⟩ := Hct.out e v1 hm1; clear hm1; have hcell1 := (c1.cell (p := ⟨b, off + t, none⟩) Hblt.out).trans hcellD; have S1 := HD.out.later c1; have s1 := HsD.out.later c1; have sp1 := HP.out.later c1; have hb1 := hbD.trans (c1.mono hbD.size)))
            all_goals (
              go_wp2
              go_roundw
              case rel => exact ⟨t + 1, by omega, by go_num, hb3⟩
              case measure => simp [intOf]; omega)
          · obtain rfl : t = N := by omega
            have sp8 := sp7.later hbr
            have Hcnt : Hid (cwP xs 4 = (t : Int)) := hid (by rw [HN.out]; exact Hf.out.count.symm)
            clear sp7
            go_wp2_with fail
            refine (says_to (cwdI_any _ _ _ xs _ sp8) ((onCi_yes Hv.out).trans Hcnt.out)).mono ?_
            rintro e w9 ⟨rfl, b9⟩
            have hq : ∀ w₁, Re w9 w₁ → Only W w₁ := fun w₁ hr => (p7.trans (Only.of_re (Re.refl _) (hbr.trans (b9.mono hbr.size)))).trans (Only.re hr)
            go_wp2
            exact ⟨rfl, _, resultsC_tmp rfl _, fun w₁ hr => ⟨rfl, hq w₁ hr⟩⟩
    · refine opsC_callF hS rfl rfl rfl Try.func33 (by kernel_rfl) rfl (by simp only [List.map_toArray, List.map_cons, List.map_nil]; rfl) (saysC (by kernel_rfl) fun w₁ o => says_to (cwdI_any _ _ _ xs w₁ (sp4.only o)) (onCi_no hv)) ?_
      rintro v w5 M' ⟨rfl, rfl, o5⟩
      have sp5 := sp4.only o5
      have sg5 := sg4.only o5
      have p5 := p4.trans o5
      refine opsC_binA (v := .bool true) hS rfl rfl rfl rfl rfl (by simp [int2]) ?_
      (refine opsC_plain hS rfl rfl fun _ K hK => ?_; go_simp; refine hK _ (by simp [go_sem, events_cap_slice, events_slice_hi, *]) ?_; clear hK K; try walk_nrm)
      first
        | refine opsC_moveA hS rfl rfl (.inl rfl) ?_
        | refine opsC_moveA hS rfl rfl (.inr rfl) ?_
        | refine opsC_binA hS rfl rfl rfl rfl rfl rfl ?_
        | refine opsC_lenA hS rfl rfl rfl (by kernel_rfl) rfl ?_
        | (refine opsC_plain hS rfl rfl fun _ K hK => ?_; go_simp; refine hK _ (by simp [go_sem, events_cap_slice, events_slice_hi, *]) ?_; clear hK K; try walk_nrm)
      refine opsC_unwanted hS rfl rfl ?_
      refine opsC_unwanted hS rfl rfl ?_
      refine opsC_unwanted hS rfl rfl ?_
      (refine opsC_plain hS rfl rfl fun _ K hK => ?_; go_simp; refine hK _ (by simp [go_sem, events_cap_slice, events_slice_hi, *]) ?_; clear hK K; try walk_nrm)
      refine opsC_nil hS ?_
      show WpN _ _ _ _ _ _ _
      repeat refine wpN_seq hS ?_
      refine wpN_cond (t := true) hS rfl ?_
      simp only [if_true, if_false, Bool.false_eq_true]
      repeat refine wpN_seq hS ?_
      refine wpN_region hS ?_
      simp only [List.size_toArray, List.length_cons, List.length_nil, Nat.reduceAdd, Nat.zero_add, List.range, List.range.loop]
      first
        | refine opsC_moveA hS rfl rfl (.inl rfl) ?_
        | refine opsC_moveA hS rfl rfl (.inr rfl) ?_
        | refine opsC_binA hS rfl rfl rfl rfl rfl rfl ?_
        | refine opsC_lenA hS rfl rfl rfl (by kernel_rfl) rfl ?_
        | (refine opsC_plain hS rfl rfl fun _ K hK => ?_; go_simp; refine hK _ (by simp [go_sem, events_cap_slice, events_slice_hi, *]) ?_; clear hK K; try walk_nrm)
      first
        | refine opsC_moveA hS rfl rfl (.inl rfl) ?_
        | refine opsC_moveA hS rfl rfl (.inr rfl) ?_
        | refine opsC_binA hS rfl rfl rfl rfl rfl rfl ?_
        | refine opsC_lenA hS rfl rfl rfl (by kernel_rfl) rfl ?_
        | (refine opsC_plain hS rfl rfl fun _ K hK => ?_; go_simp; refine hK _ (by simp [go_sem, events_cap_slice, events_slice_hi, *]) ?_; clear hK K; try walk_nrm)
      refine opsC_callF hS rfl rfl rfl Try.func38 (by kernel_rfl) rfl (by simp only [List.map_toArray, List.map_cons, List.map_nil]; rfl) (madeLC (yss := R) (by kernel_rfl) fun w₁ o => by rw [HR.out]; exact awS_any _ _ _ xs w₁ (sp5.only o) (by omega)) ?_
      rintro v w6 M' ⟨rfl, own6, o6⟩
      obtain ⟨ad6, cd6, rfl, sd6⟩ := own6.sl
      have sp6 := sp5.only o6
      have sg6 := sg5.only o6
      have p6 := p5.trans o6
      refine opsC_callF hS rfl rfl rfl Try.func37 (by kernel_rfl) rfl (by simp only [List.map_toArray, List.map_cons, List.map_nil]; rfl) (saysC (v := .bool true) (by kernel_rfl) fun w₁ o => says_tob (equalLists_any _ _ _ _ _ _ _ _ w₁ (sg6.only o) (sd6.only o)) (decide_eq_true rfl)) ?_
      rintro v w7 M' ⟨rfl, rfl, o7⟩
      have sp7 := sp6.only o7
      have sg7 := sg6.only o7
      have p7 := p6.trans o7
      repeat first
        | refine opsC_moveA hS rfl rfl (.inl rfl) ?_
        | refine opsC_moveA hS rfl rfl (.inr rfl) ?_
        | refine opsC_binA hS rfl rfl rfl rfl rfl rfl ?_
        | refine opsC_lenA hS rfl rfl rfl (by kernel_rfl) rfl ?_
        | (refine opsC_plain hS rfl rfl fun _ K hK => ?_; go_simp; refine hK _ (by simp [go_sem, events_cap_slice, events_slice_hi, *]) ?_; clear hK K; try walk_nrm)
      refine opsC_nil hS ?_
      show WpN _ _ _ _ _ _ _
      refine wpN_ret hS ⟨rfl, _, resultsC_tmp rfl _, ?_⟩
      exact fun w₁ hr => ⟨rfl, p7.trans (Only.re hr)⟩
  · repeat refine wpN_seq hS ?_
    refine wpN_region hS ?_
    simp only [List.size_toArray, List.length_cons, List.length_nil, Nat.reduceAdd, Nat.zero_add, List.range, List.range.loop]
    first
      | refine opsC_moveA hS rfl rfl (.inl rfl) ?_
      | refine opsC_moveA hS rfl rfl (.inr rfl) ?_
      | refine opsC_binA hS rfl rfl rfl rfl rfl rfl ?_
      | refine opsC_lenA hS rfl rfl rfl (by kernel_rfl) rfl ?_
      | (refine opsC_plain hS rfl rfl fun _ K hK => ?_; go_simp; refine hK _ (by simp [go_sem, events_cap_slice, events_slice_hi, *]) ?_; clear hK K; try walk_nrm)
    first
      | refine opsC_moveA hS rfl rfl (.inl rfl) ?_
      | refine opsC_moveA hS rfl rfl (.inr rfl) ?_
      | refine opsC_binA hS rfl rfl rfl rfl rfl rfl ?_
      | refine opsC_lenA hS rfl rfl rfl (by kernel_rfl) rfl ?_
      | (refine opsC_plain hS rfl rfl fun _ K hK => ?_; go_simp; refine hK _ (by simp [go_sem, events_cap_slice, events_slice_hi, *]) ?_; clear hK K; try walk_nrm)
    refine opsC_binA (v := .bool true) hS rfl rfl rfl rfl rfl (by simp [int2]; omega) ?_
    refine opsC_nil hS ?_
    show WpN _ _ _ _ _ _ _
    repeat refine wpN_seq hS ?_
    refine wpN_cond (t := true) hS rfl ?_
    simp only [if_true, if_false, Bool.false_eq_true]
    repeat refine wpN_seq hS ?_
    refine wpN_region hS ?_
    simp only [List.size_toArray, List.length_cons, List.length_nil, Nat.reduceAdd, Nat.zero_add, List.range, List.range.loop]
    repeat first
      | refine opsC_moveA hS rfl rfl (.inl rfl) ?_
      | refine opsC_moveA hS rfl rfl (.inr rfl) ?_
      | refine opsC_binA hS rfl rfl rfl rfl rfl rfl ?_
      | refine opsC_lenA hS rfl rfl rfl (by kernel_rfl) rfl ?_
      | (refine opsC_plain hS rfl rfl fun _ K hK => ?_; go_simp; refine hK _ (by simp [go_sem, events_cap_slice, events_slice_hi, *]) ?_; clear hK K; try walk_nrm)
    refine opsC_nil hS ?_
    show WpN _ _ _ _ _ _ _
    refine wpN_ret hS ⟨rfl, _, resultsC_tmp rfl _, ?_⟩
    exact fun w₁ hr => ⟨rfl, (Only.refl W).trans (Only.re hr)⟩

end Go.Proofs.Ytjphaphnmclbcaa
