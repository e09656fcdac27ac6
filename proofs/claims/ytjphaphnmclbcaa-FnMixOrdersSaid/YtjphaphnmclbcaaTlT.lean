/- tally of the program over a function's value, beside leavers. Condition: the numbers lie from 0 to 100. -/
import Derived.Test.YtjphaphnmclbcaaChZ
import Derived.Test.YtjphaphnmclbcaaTk
import Derived.Test.YtjphaphnmclbcaaBne
import Derived.Test.YtjphaphnmclbcaaTalG
namespace Go.Proofs.Ytjphaphnmclbcaa
open Go Go.Conc Go.RowKit

theorem only_grown {w w₁ w' : World} {row : Option Nat} (o : Only w w₁) (hg : w₁.grownBy w' row) (hr : ∀ k, row = some k → w.heap.size ≤ k) : Only w w' :=
  ⟨hg.os.trans o.os, hg.output.trans o.output, Nat.le_trans o.size hg.size, fun k hk => (hg.block k (Nat.lt_of_lt_of_le hk o.size) fun e => by have := hr k e.symm; omega).trans (o.keep k hk)⟩
theorem only_alloc {w w₁ : World} (o : Only w w₁) (ob : Obj) : Only w (w₁.alloc ob) := only_grown (row := none) o (World.grownBy_alloc w₁ ob none) fun k h => by cases h
theorem ows_heap {w w' : World} {B g n cap : Nat} {ys : List Int} (h : OwS w B g n cap ys) (e : w'.heap = w.heap) : OwS w' B g n cap ys := by
  unfold OwS World.ownsRow at *
  rw [e]
  exact h
theorem fill1' (f : Nat → Value) (v : Value) (hv : v.cells = #[v]) : Instr.fill (fun i => some (i * 1, 1)) ((Array.range (1 * 1)).map f) [(0, v)] = some #[v] := by
  simp [Instr.fill, hv]
  apply Array.ext'
  simp [List.range, List.range.loop]

set_option linter.unusedSimpArgs false in
set_option maxHeartbeats 4000000 in
theorem tallyT {Stop : Goroutine → World → Prop} (f : FuncId) (fd : Func) (hf : Try.prog.funcs[f]? = some fd) (hname : (fd.name == "runtime.NumGoroutine") = false) (hb : fd.body.isNone = false) (ao : Option Addr) (n cap : Nat) (yss : List (List Int)) (l : List Int) (w : World) (h : SlL w ao n cap yss) (hn : n ≤ 100000)
    (Hl : Hid (l.length = n)) (Hv : Hid (∀ j, 0 ≤ el l j ∧ el l j ≤ 100)) (hc : ∀ (j : Nat) (ai : Option Addr) (m ci : Nat) (w₁ : World), j < n → Sl w₁ ai m ci (ell yss j) → CallsC Try.prog (TF Try.prog Stop) f #[.slice ai m ci] w₁ M00 (fun r w' M' => M' = M00 ∧ r = .int .i64 (el l j) ∧ Only w₁ w')) :
    CallsC Try.prog (TF Try.prog Stop) 63 #[.slice ao n cap, .func (.func f) #[] #[]] w M00 (fun r w' M' => M' = M00 ∧ ∃ u, r = .tuple #[u, .bool (decide (0 < n))] ∧ Own w' w.heap.size u (tal l) ∧ Only w w') := by
  have hS : Fam Try.prog true (fun _ => True) (TF Try.prog Stop) := fam_T
  refine callsC_of_wpC hS Try.func63 rfl ?_
  simp only [Try.ntmps63, List.size_toArray, List.length_cons, List.length_nil, Nat.reduceAdd, Nat.reduceSub, Array.replicate_succ,
     Array.replicate_zero, List.push_toArray, List.append_toArray, List.nil_append, List.cons_append]
  repeat refine wpC_seq hS ?_
  refine wpC_region hS ?_
  simp only [List.size_toArray, List.length_cons, List.length_nil, Nat.reduceAdd, Nat.zero_add, List.range, List.range.loop]
  repeat first
    | refine opsC_moveA hS rfl rfl (.inl rfl) ?_
    | refine opsC_moveA hS rfl rfl (.inr rfl) ?_
    | refine opsC_binA hS rfl rfl rfl rfl rfl rfl ?_
    | refine opsC_lenA hS rfl rfl rfl (by kernel_rfl) rfl ?_
    | (refine opsC_plain hS rfl rfl fun _ K hK => ?_; go_simp; refine hK _ (by simp [go_sem, events_cap_slice, events_slice_hi, *]) ?_; clear hK K; try walk_nrm)
  refine opsC_nil hS ?_
  show WpC _ _ _ _ _ _ _
  repeat refine wpC_seq hS ?_
  refine wpC_region hS ?_
  simp only [List.size_toArray, List.length_cons, List.length_nil, Nat.reduceAdd, Nat.zero_add, List.range, List.range.loop]
  repeat first
    | refine opsC_moveA hS rfl rfl (.inl rfl) ?_
    | refine opsC_moveA hS rfl rfl (.inr rfl) ?_
    | refine opsC_binA hS rfl rfl rfl rfl rfl rfl ?_
    | refine opsC_lenA hS rfl rfl rfl (by kernel_rfl) rfl ?_
    | (refine opsC_plain hS rfl rfl fun _ K hK => ?_; go_simp; refine hK _ (by simp [go_sem, events_cap_slice, events_slice_hi, *]) ?_; clear hK K; try walk_nrm)
  refine opsC_nil hS ?_
  show WpC _ _ _ _ _ _ _
  repeat refine wpC_seq hS ?_
  refine wpC_region hS ?_
  simp only [List.size_toArray, List.length_cons, List.length_nil, Nat.reduceAdd, Nat.zero_add, List.range, List.range.loop]
  repeat first
    | refine opsC_moveA hS rfl rfl (.inl rfl) ?_
    | refine opsC_moveA hS rfl rfl (.inr rfl) ?_
    | refine opsC_binA hS rfl rfl rfl rfl rfl rfl ?_
    | refine opsC_lenA hS rfl rfl rfl (by kernel_rfl) rfl ?_
    | (refine opsC_plain hS rfl rfl fun _ K hK => ?_; go_simp; refine hK _ (by simp [go_sem, events_cap_slice, events_slice_hi, *]) ?_; clear hK K; try walk_nrm)
  refine opsC_nil hS ?_
  show WpC _ _ _ _ _ _ _
  repeat refine wpC_seq hS ?_
  refine wpC_block hS ?_
  refine wpC_loop_of hS ?_
  refine loopC_count (fun k a wr M => M = M00 ∧ ∃ (ao' : Option Addr) (cap' : Nat) (x2 x3 x4 x5 x7 x8 x9 x13 x14 x15 x16 x17 x18 x19 x20 x21 x22 x23 x24 x25 x26 x27 x28 x29 x30 x31 x32 x33 x34 x35 x36 : Value), a = { tmps := #[.slice ao n cap, .func (.func f) #[] #[], x2, x3, x4, x5, .slice ao' (mxK l k) cap', x7, x8, x9, .slice ao n cap, .int .i64 (n : Int), .int .i64 (k : Int), x13, x14, x15, x16, x17, x18, x19, x20, x21, x22, x23, x24, x25, x26, x27, x28, x29, x30, x31, x32, x33, x34, x35, x36], defers := [] } ∧ Only w wr ∧ Own wr w.heap.size (.slice ao' (mxK l k) cap') (cntL (mxK l k) (l.take k))) n ?_ ?_ 0 (Nat.zero_le _) _ _ _ ⟨rfl, none, 0, _, _, _, _, _, _, _, _, _, _, _, _, _, _, _, _, _, _, _, _, _, _, _, _, _, _, _, _, _, _, _, rfl, Only.refl w, Own.nil⟩
  · rintro k _ wr _ hk ⟨rfl, ao', cap', x2, x3, x4, x5, x7, x8, x9, x13, x14, x15, x16, x17, x18, x19, x20, x21, x22, x23, x24, x25, x26, x27, x28, x29, x30, x31, x32, x33, x34, x35, x36, rfl, hbr, ho⟩ hN
    have hki : (k : Int) < n := by omega
    obtain ⟨b, off, rfl, hblt, hcr⟩ := (h.only hbr).row (by omega)
    obtain ⟨ai, ci, hcell, hsi⟩ := hcr k hk
    have hsi0 := hsi
    obtain ⟨v, hv⟩ : ∃ v : Nat, el l k = (v : Int) := ⟨(el l k).toNat, by have := Hv.out k; omega⟩
    have hv100 : v ≤ 100 := by have := Hv.out k; omega
    have hc' := fun w₁ => hc k ai (ell yss k).length ci w₁ hk
    rw [hv] at hc'
    have Hmk : mxK l k ≤ 101 := mxK_le Hv.out k
    have Hm1 : mxK l (k + 1) = max (mxK l k) (v + 1) := by rw [mxK, hv]; rfl
    have Hin : ∀ x ∈ l.take k, x < ((mxK l k : Nat) : Int) := mxK_mem Hv.out k
    have Hll : (l.take k).length ≤ 100000 := by rw [List.length_take]; omega
    have Hlt : l.take (k + 1) = l.take k ++ [(v : Int)] := by rw [← hv, take_el (by rw [Hl.out]; exact hk)]
    rw [Hm1, Hlt] at hN
    obtain ⟨m, hm⟩ : ∃ m, m = mxK l k := ⟨_, rfl⟩
    rw [← hm] at Hmk Hin ho hN ⊢
    obtain ⟨t, ht⟩ : ∃ t, t = l.take k := ⟨_, rfl⟩
    rw [← ht] at ho Hin Hll hN
    clear Hm1 Hlt hm ht hv hcr
    refine loopC_round hS ?_
    repeat refine wpC_seq hS ?_
    refine wpC_region hS ?_
    simp only [List.size_toArray, List.length_cons, List.length_nil, Nat.reduceAdd, Nat.zero_add, List.range, List.range.loop]
    refine opsC_binA (v := .bool true) hS rfl rfl rfl rfl rfl (by simp [int2]; omega) ?_
    refine opsC_nil hS ?_
    show WpC _ _ _ _ _ _ _
    repeat refine wpC_seq hS ?_
    refine wpC_cond (t := true) hS rfl ?_
    simp only [if_true, if_false, Bool.false_eq_true]
    refine wpC_skip hS ?_
    show WpC _ _ _ _ _ _ _
    repeat refine wpC_seq hS ?_
    refine wpC_block hS ?_
    repeat refine wpC_seq hS ?_
    refine wpC_region hS ?_
    simp only [List.size_toArray, List.length_cons, List.length_nil, Nat.reduceAdd, Nat.zero_add, List.range, List.range.loop]
    (refine opsC_plain hS rfl rfl fun _ K hK => ?_; go_simp; refine hK _ (by simp [go_sem, events_cap_slice, events_slice_hi, *]) ?_; clear hK K; try walk_nrm)
    refine opsC_load hS rfl rfl rfl (by kernel_rfl) rfl (.inl trivial) hcell ?_
    repeat first
      | refine opsC_moveA hS rfl rfl (.inl rfl) ?_
      | refine opsC_moveA hS rfl rfl (.inr rfl) ?_
      | refine opsC_binA hS rfl rfl rfl rfl rfl rfl ?_
      | refine opsC_lenA hS rfl rfl rfl (by kernel_rfl) rfl ?_
      | (refine opsC_plain hS rfl rfl fun _ K hK => ?_; go_simp; refine hK _ (by simp [go_sem, events_cap_slice, events_slice_hi, *]) ?_; clear hK K; try walk_nrm)
    refine opsC_nil hS ?_
    show WpC _ _ _ _ _ _ _
    repeat refine wpC_seq hS ?_
    refine wpC_region hS ?_
    simp only [List.size_toArray, List.length_cons, List.length_nil, Nat.reduceAdd, Nat.zero_add, List.range, List.range.loop]
    first
      | refine opsC_moveA hS rfl rfl (.inl rfl) ?_
      | refine opsC_moveA hS rfl rfl (.inr rfl) ?_
      | refine opsC_binA hS rfl rfl rfl rfl rfl rfl ?_
      | refine opsC_lenA hS rfl rfl rfl (by kernel_rfl) rfl ?_
      | (refine opsC_plain hS rfl rfl fun _ K hK => ?_; go_simp; refine hK _ (by simp [go_sem, events_cap_slice, events_slice_hi, *]) ?_; clear hK K; try walk_nrm)
    first
      | refine opsC_moveA hS rfl rfl (.inl rfl) ?_
      | refine opsC_moveA hS rfl rfl (.inr rfl) ?_
      | refine opsC_binA hS rfl rfl rfl rfl rfl rfl ?_
      | refine opsC_lenA hS rfl rfl rfl (by kernel_rfl) rfl ?_
      | (refine opsC_plain hS rfl rfl fun _ K hK => ?_; go_simp; refine hK _ (by simp [go_sem, events_cap_slice, events_slice_hi, *]) ?_; clear hK K; try walk_nrm)
    refine opsC_callV (f := f) (fd := fd) hS rfl rfl rfl rfl hf hname hb (by simp only [List.map_toArray, List.map_cons, List.map_nil]; rfl) (hc' _ hsi) ?_
    rintro _ wc _ ⟨rfl, rfl, oc⟩
    have hbc := hbr.trans oc
    have hoc := ho.only oc
    repeat first
      | refine opsC_moveA hS rfl rfl (.inl rfl) ?_
      | refine opsC_moveA hS rfl rfl (.inr rfl) ?_
      | refine opsC_binA hS rfl rfl rfl rfl rfl rfl ?_
      | refine opsC_lenA hS rfl rfl rfl (by kernel_rfl) rfl ?_
      | (refine opsC_plain hS rfl rfl fun _ K hK => ?_; go_simp; refine hK _ (by simp [go_sem, events_cap_slice, events_slice_hi, *]) ?_; clear hK K; try walk_nrm)
    refine opsC_nil hS ?_
    show WpC _ _ _ _ _ _ _
    repeat refine wpC_seq hS ?_
    refine wpC_block hS ?_
    refine wpC_loop_of hS ?_
    refine loopC_count (fun L a wq M => M = M00 ∧ m ≤ L ∧ ∃ (ao2 : Option Addr) (cap2 : Nat) (x2 x3 x4 x5 x7 x8 x13 x14 x15 x16 x17 x18 x19 x20 x21 x22 x23 x24 x25 x26 x27 x28 x29 x30 x31 x32 x33 x34 x35 x36 : Value), a = { tmps := #[.slice (some ⟨b, off, none⟩) n cap, .func (.func f) #[] #[], x2, x3, x4, x5, .slice ao2 L cap2, x7, x8, .int .i64 (v : Int), .slice (some ⟨b, off, none⟩) n cap, .int .i64 (n : Int), .int .i64 (k : Int), x13, x14, x15, x16, x17, x18, x19, x20, x21, x22, x23, x24, x25, x26, x27, x28, x29, x30, x31, x32, x33, x34, x35, x36], defers := [] } ∧ Only w wq ∧ Own wq w.heap.size (.slice ao2 L cap2) (cntL L t)) (max m (v + 1)) ?_ ?_ m (by omega) _ _ _ ⟨rfl, Nat.le_refl _, ao', cap', _, _, _, _, _, _, _, _, _, _, _, _, _, _, _, _, _, _, _, _, _, _, _, _, _, _, _, _, _, _, rfl, hbc, hoc⟩
    · rintro L _ wq _ hLm ⟨rfl, hmL, ao2, cap2, x2, x3, x4, x5, x7, x8, x13, x14, x15, x16, x17, x18, x19, x20, x21, x22, x23, x24, x25, x26, x27, x28, x29, x30, x31, x32, x33, x34, x35, x36, rfl, hbq, ho2⟩ hN2
      have hLv : (L : Int) ≤ v := by omega
      have hgr := cntL_grow (l := t) (L := L) (fun x hx => by have := Hin x hx; omega)
      refine loopC_round hS ?_
      repeat refine wpC_seq hS ?_
      refine wpC_region hS ?_
      simp only [List.size_toArray, List.length_cons, List.length_nil, Nat.reduceAdd, Nat.zero_add, List.range, List.range.loop]
      first
        | refine opsC_moveA hS rfl rfl (.inl rfl) ?_
        | refine opsC_moveA hS rfl rfl (.inr rfl) ?_
        | refine opsC_binA hS rfl rfl rfl rfl rfl rfl ?_
        | refine opsC_lenA hS rfl rfl rfl (by kernel_rfl) rfl ?_
        | (refine opsC_plain hS rfl rfl fun _ K hK => ?_; go_simp; refine hK _ (by simp [go_sem, events_cap_slice, events_slice_hi, *]) ?_; clear hK K; try walk_nrm)
      first
        | refine opsC_moveA hS rfl rfl (.inl rfl) ?_
        | refine opsC_moveA hS rfl rfl (.inr rfl) ?_
        | refine opsC_binA hS rfl rfl rfl rfl rfl rfl ?_
        | refine opsC_lenA hS rfl rfl rfl (by kernel_rfl) rfl ?_
        | (refine opsC_plain hS rfl rfl fun _ K hK => ?_; go_simp; refine hK _ (by simp [go_sem, events_cap_slice, events_slice_hi, *]) ?_; clear hK K; try walk_nrm)
      first
        | refine opsC_moveA hS rfl rfl (.inl rfl) ?_
        | refine opsC_moveA hS rfl rfl (.inr rfl) ?_
        | refine opsC_binA hS rfl rfl rfl rfl rfl rfl ?_
        | refine opsC_lenA hS rfl rfl rfl (by kernel_rfl) rfl ?_
        | (refine opsC_plain hS rfl rfl fun _ K hK => ?_; go_simp; refine hK _ (by simp [go_sem, events_cap_slice, events_slice_hi, *]) ?_; clear hK K; try walk_nrm)
      refine opsC_binA (v := .bool true) hS rfl rfl rfl rfl rfl (by simp [int2]; omega) ?_
      refine opsC_nil hS ?_
      show WpC _ _ _ _ _ _ _
      repeat refine wpC_seq hS ?_
      refine wpC_cond (t := true) hS rfl ?_
      simp only [if_true, if_false, Bool.false_eq_true]
      refine wpC_skip hS ?_
      show WpC _ _ _ _ _ _ _
      refine wpC_block hS ?_
      repeat refine wpC_seq hS ?_
      refine wpC_region hS ?_
      simp only [List.size_toArray, List.length_cons, List.length_nil, Nat.reduceAdd, Nat.zero_add, List.range, List.range.loop]
      first
        | refine opsC_moveA hS rfl rfl (.inl rfl) ?_
        | refine opsC_moveA hS rfl rfl (.inr rfl) ?_
        | refine opsC_binA hS rfl rfl rfl rfl rfl rfl ?_
        | refine opsC_lenA hS rfl rfl rfl (by kernel_rfl) rfl ?_
        | (refine opsC_plain hS rfl rfl fun _ K hK => ?_; go_simp; refine hK _ (by simp [go_sem, events_cap_slice, events_slice_hi, *]) ?_; clear hK K; try walk_nrm)
      obtain ⟨iI, hiI, zI0, zI1, zI2⟩ := info_parts infoI
      refine opsC_M (M1 := Mall) ?_
      refine opsC_buildSlice (cells := #[.int .i64 0]) hS rfl rfl rfl Try.underlying23 hiI zI0 zI1 (by omega) ?_ fun wa ha => ?_
      · refine (congrArg (Instr.fill _ _) (show _ = [(0, Value.int .i64 0)] from ?_)).trans (fill1' _ (.int .i64 0) rfl)
        simp only [List.map_toArray, List.map_cons, List.map_nil]
        rfl
      have oa : Only wq (wa.alloc (.cells #[.int .i64 0] 3)) := only_alloc (Only.re (rl_all ha)) _
      obtain ⟨wb, hwb⟩ : ∃ wb, wb = wa.alloc (.cells #[.int .i64 0] 3) := ⟨_, rfl⟩
      have hcb : wb.heap[wa.heap.size]? = some (.cells #[.int .i64 0] 3 (0, 0)) := by rw [hwb]; exact heap_alloc_new _ _
      rw [← hwb] at oa ⊢
      have hob := ho2.only oa
      have hwb2 := hbq.trans oa
      clear hwb
      refine opsC_M (M1 := Mall) ?_
      refine opsC_append hS rfl rfl _ _ 23 rfl w.heap.size 3 iI (.int .i64 0) Try.underlying23 hiI zI0 zI1 (by rw [zI2]; decide) rfl (.slice ao2 L cap2) (cntL L t).length ((cntL L t).map (Value.int .i64)) rfl hob (fun _ _ => trivial) ⟨wa.heap.size, 0, none⟩ 1 1 [.int .i64 0] rfl (.inl trivial) rfl
        (fun j y hj => ?_) (by intro y hy; simp at hy; subst hy; rfl) (by rw [cntL_len]; omega) hwb2.size ?_
      · match j, hj with
        | 0, hj => simp at hj; subst hj; rw [show (⟨wa.heap.size, 0, none⟩ : Addr).add 0 = ⟨wa.heap.size, 0, none⟩ from rfl, cell_of_row wb _ 0 _ _ _ hcb]; rfl
      intro w₁ u' w' h₁ hown _ hg _
      refine opsC_M (M1 := M00) ?_
      have ow : Only w w' := only_grown (hwb2.trans (Only.re (rl_all h₁))) hg fun k hk => (hob.blocks k hk).1
      have ho3 : Own w' w.heap.size u' (cntL (L + 1) t) := by
        rw [← hgr]
        unfold Own
        rw [List.length_append, List.map_append]
        exact hown
      obtain ⟨ao5, cp5, rfl, -⟩ := ho3.sl
      rw [cntL_len] at ho3 ⊢
      repeat first
        | refine opsC_moveA hS rfl rfl (.inl rfl) ?_
        | refine opsC_moveA hS rfl rfl (.inr rfl) ?_
        | refine opsC_binA hS rfl rfl rfl rfl rfl rfl ?_
        | refine opsC_lenA hS rfl rfl rfl (by kernel_rfl) rfl ?_
        | (refine opsC_plain hS rfl rfl fun _ K hK => ?_; go_simp; refine hK _ (by simp [go_sem, events_cap_slice, events_slice_hi, *]) ?_; clear hK K; try walk_nrm)
      refine opsC_nil hS ?_
      show LoopC _ _ _ _ _ _ _
      exact hN2 _ _ _ ⟨rfl, by omega, ao5, cp5, _, _, _, _, _, _, _, _, _, _, _, _, _, _, _, _, _, _, _, _, _, _, _, _, _, _, _, _, _, _, rfl, ow, ho3⟩
    · rintro _ wq _ ⟨rfl, hmL, ao2, cap2, x2, x3, x4, x5, x7, x8, x13, x14, x15, x16, x17, x18, x19, x20, x21, x22, x23, x24, x25, x26, x27, x28, x29, x30, x31, x32, x33, x34, x35, x36, rfl, hbq, ho2⟩
      have hLi : ¬ (((max m (v + 1) : Nat) : Int) ≤ v) := by omega
      obtain ⟨L, hL⟩ : ∃ L, L = max m (v + 1) := ⟨_, rfl⟩
      have hvL1 : v < L := by omega
      rw [← hL] at ho2 hN hLi hmL ⊢
      clear hL
      refine loopC_round hS ?_
      repeat refine wpC_seq hS ?_
      refine wpC_region hS ?_
      simp only [List.size_toArray, List.length_cons, List.length_nil, Nat.reduceAdd, Nat.zero_add, List.range, List.range.loop]
      first
        | refine opsC_moveA hS rfl rfl (.inl rfl) ?_
        | refine opsC_moveA hS rfl rfl (.inr rfl) ?_
        | refine opsC_binA hS rfl rfl rfl rfl rfl rfl ?_
        | refine opsC_lenA hS rfl rfl rfl (by kernel_rfl) rfl ?_
        | (refine opsC_plain hS rfl rfl fun _ K hK => ?_; go_simp; refine hK _ (by simp [go_sem, events_cap_slice, events_slice_hi, *]) ?_; clear hK K; try walk_nrm)
      first
        | refine opsC_moveA hS rfl rfl (.inl rfl) ?_
        | refine opsC_moveA hS rfl rfl (.inr rfl) ?_
        | refine opsC_binA hS rfl rfl rfl rfl rfl rfl ?_
        | refine opsC_lenA hS rfl rfl rfl (by kernel_rfl) rfl ?_
        | (refine opsC_plain hS rfl rfl fun _ K hK => ?_; go_simp; refine hK _ (by simp [go_sem, events_cap_slice, events_slice_hi, *]) ?_; clear hK K; try walk_nrm)
      first
        | refine opsC_moveA hS rfl rfl (.inl rfl) ?_
        | refine opsC_moveA hS rfl rfl (.inr rfl) ?_
        | refine opsC_binA hS rfl rfl rfl rfl rfl rfl ?_
        | refine opsC_lenA hS rfl rfl rfl (by kernel_rfl) rfl ?_
        | (refine opsC_plain hS rfl rfl fun _ K hK => ?_; go_simp; refine hK _ (by simp [go_sem, events_cap_slice, events_slice_hi, *]) ?_; clear hK K; try walk_nrm)
      refine opsC_binA (v := .bool false) hS rfl rfl rfl rfl rfl (by simp [int2]; omega) ?_
      refine opsC_nil hS ?_
      show WpC _ _ _ _ _ _ _
      repeat refine wpC_seq hS ?_
      refine wpC_cond (t := false) hS rfl ?_
      simp only [if_true, if_false, Bool.false_eq_true]
      refine wpC_exit hS ?_
      show WpC _ _ _ _ _ _ _
      rcases ho2.place with ⟨e1, e2⟩ | ⟨g, cp, e1, hs⟩
      · have := cntL_len L t
        rw [e2] at this
        simp at this
        omega
      rw [cntL_len] at e1 hs
      simp only [Value.slice.injEq, true_and] at e1
      obtain ⟨rfl, rfl⟩ := e1
      have hcc := hs.cell (j := v) (by omega)
      rw [el_cntL (by omega)] at hcc
      have hcl : t.count (v : Int) ≤ 100000 := Nat.le_trans List.count_le_length Hll
      obtain ⟨c, hc0⟩ : ∃ c : Nat, c = t.count (v : Int) := ⟨_, rfl⟩
      rw [← hc0] at hcc hcl
      have hfr := hs.frozen v
      have hset : (cntL L t).set v ((c : Int) + 1) = cntL L (t ++ [(v : Int)]) := by rw [hc0]; exact cntL_bump (by omega)
      clear hc0
      have hvL : (v : Int) < L := by omega
      have hwrap : IntKind.i64.wrap ((c : Int) + 1) = (c : Int) + 1 := by rw [IntKind.wrap_i64]; omega
      have hgB := hs.lt.1
      have hkw : IntKind.i64.wrap ((k : Int) + 1) = ((k + 1 : Nat) : Int) := by rw [IntKind.wrap_i64]; omega
      repeat refine wpC_seq hS ?_
      refine wpC_region hS ?_
      simp only [List.size_toArray, List.length_cons, List.length_nil, Nat.reduceAdd, Nat.zero_add, List.range, List.range.loop]
      first
        | refine opsC_moveA hS rfl rfl (.inl rfl) ?_
        | refine opsC_moveA hS rfl rfl (.inr rfl) ?_
        | refine opsC_binA hS rfl rfl rfl rfl rfl rfl ?_
        | refine opsC_lenA hS rfl rfl rfl (by kernel_rfl) rfl ?_
        | (refine opsC_plain hS rfl rfl fun _ K hK => ?_; go_simp; refine hK _ (by simp [go_sem, events_cap_slice, events_slice_hi, *]) ?_; clear hK K; try walk_nrm)
      first
        | refine opsC_moveA hS rfl rfl (.inl rfl) ?_
        | refine opsC_moveA hS rfl rfl (.inr rfl) ?_
        | refine opsC_binA hS rfl rfl rfl rfl rfl rfl ?_
        | refine opsC_lenA hS rfl rfl rfl (by kernel_rfl) rfl ?_
        | (refine opsC_plain hS rfl rfl fun _ K hK => ?_; go_simp; refine hK _ (by simp [go_sem, events_cap_slice, events_slice_hi, *]) ?_; clear hK K; try walk_nrm)
      (refine opsC_plain hS rfl rfl fun _ K hK => ?_; go_simp; refine hK _ (by simp [go_sem, events_cap_slice, events_slice_hi, *]) ?_; clear hK K; try walk_nrm)
      refine opsC_load hS rfl rfl rfl (by kernel_rfl) rfl (.inl trivial) hcc ?_
      refine opsC_binA (v := .int .i64 ((c : Int) + 1)) hS rfl rfl rfl rfl rfl (by simp [int2, hwrap]) ?_
      (refine opsC_plain hS rfl rfl fun _ K hK => ?_; go_simp; refine hK _ (by simp [go_sem, events_cap_slice, events_slice_hi, *]) ?_; clear hK K; try walk_nrm)
      refine opsC_M (M1 := Mall) ?_
      refine opsC_store (ad := ⟨g, v, none⟩) (v := .int .i64 ((c : Int) + 1)) (u := .int .i64 (c : Int)) hS rfl rfl rfl (by kernel_rfl) rfl rfl rfl rfl trivial hcc hfr fun wz hz => ?_
      refine opsC_M (M1 := M00) ?_
      have oz : Only wq wz := Only.re (rl_all hz)
      have hsz := ows_heap hs (re_heap (rl_all hz))
      have hs2 := hsz.set v ((c : Int) + 1)
      rw [hset] at hs2
      have oz2 : Only w (wz.setCell ⟨g, v, none⟩ (.int .i64 ((c : Int) + 1))) := only_grown (hbq.trans oz) (grownBy_setCell _ _ _) fun k hk => by cases hk; exact hgB
      repeat first
        | refine opsC_moveA hS rfl rfl (.inl rfl) ?_
        | refine opsC_moveA hS rfl rfl (.inr rfl) ?_
        | refine opsC_binA hS rfl rfl rfl rfl rfl rfl ?_
        | refine opsC_lenA hS rfl rfl rfl (by kernel_rfl) rfl ?_
        | (refine opsC_plain hS rfl rfl fun _ K hK => ?_; go_simp; refine hK _ (by simp [go_sem, events_cap_slice, events_slice_hi, *]) ?_; clear hK K; try walk_nrm)
      refine opsC_nil hS ?_
      show WpC _ _ _ _ _ _ _
      repeat refine wpC_seq hS ?_
      refine wpC_region hS ?_
      simp only [List.size_toArray, List.length_cons, List.length_nil, Nat.reduceAdd, Nat.zero_add, List.range, List.range.loop]
      refine opsC_binA (v := .int .i64 ((k + 1 : Nat) : Int)) hS rfl rfl rfl rfl rfl (by simp [int2, hkw]) ?_
      repeat first
        | refine opsC_moveA hS rfl rfl (.inl rfl) ?_
        | refine opsC_moveA hS rfl rfl (.inr rfl) ?_
        | refine opsC_binA hS rfl rfl rfl rfl rfl rfl ?_
        | refine opsC_lenA hS rfl rfl rfl (by kernel_rfl) rfl ?_
        | (refine opsC_plain hS rfl rfl fun _ K hK => ?_; go_simp; refine hK _ (by simp [go_sem, events_cap_slice, events_slice_hi, *]) ?_; clear hK K; try walk_nrm)
      refine opsC_nil hS ?_
      show LoopC _ _ _ _ _ _ _
      exact hN _ _ _ ⟨rfl, _, _, _, _, _, _, _, _, _, _, _, _, _, _, _, _, _, _, _, _, _, _, _, _, _, _, _, _, _, _, _, _, _, rfl, oz2, hs2.own⟩
  · rintro _ wr _ ⟨rfl, ao', cap', x2, x3, x4, x5, x7, x8, x9, x13, x14, x15, x16, x17, x18, x19, x20, x21, x22, x23, x24, x25, x26, x27, x28, x29, x30, x31, x32, x33, x34, x35, x36, rfl, hbr, ho⟩
    refine loopC_round hS ?_
    repeat refine wpC_seq hS ?_
    refine wpC_region hS ?_
    simp only [List.size_toArray, List.length_cons, List.length_nil, Nat.reduceAdd, Nat.zero_add, List.range, List.range.loop]
    refine opsC_binA (v := .bool false) hS rfl rfl rfl rfl rfl (by simp [int2]) ?_
    refine opsC_nil hS ?_
    show WpC _ _ _ _ _ _ _
    repeat refine wpC_seq hS ?_
    refine wpC_cond (t := false) hS rfl ?_
    simp only [if_true, if_false, Bool.false_eq_true]
    refine wpC_exit hS ?_
    show WpC _ _ _ _ _ _ _
    repeat refine wpC_seq hS ?_
    repeat refine wpC_seq hS ?_
    refine wpC_region hS ?_
    simp only [List.size_toArray, List.length_cons, List.length_nil, Nat.reduceAdd, Nat.zero_add, List.range, List.range.loop]
    first
      | refine opsC_moveA hS rfl rfl (.inl rfl) ?_
      | refine opsC_moveA hS rfl rfl (.inr rfl) ?_
      | refine opsC_binA hS rfl rfl rfl rfl rfl rfl ?_
      | refine opsC_lenA hS rfl rfl rfl (by kernel_rfl) rfl ?_
      | (refine opsC_plain hS rfl rfl fun _ K hK => ?_; go_simp; refine hK _ (by simp [go_sem, events_cap_slice, events_slice_hi, *]) ?_; clear hK K; try walk_nrm)
    first
      | refine opsC_moveA hS rfl rfl (.inl rfl) ?_
      | refine opsC_moveA hS rfl rfl (.inr rfl) ?_
      | refine opsC_binA hS rfl rfl rfl rfl rfl rfl ?_
      | refine opsC_lenA hS rfl rfl rfl (by kernel_rfl) rfl ?_
      | (refine opsC_plain hS rfl rfl fun _ K hK => ?_; go_simp; refine hK _ (by simp [go_sem, events_cap_slice, events_slice_hi, *]) ?_; clear hK K; try walk_nrm)
    first
      | refine opsC_moveA hS rfl rfl (.inl rfl) ?_
      | refine opsC_moveA hS rfl rfl (.inr rfl) ?_
      | refine opsC_binA hS rfl rfl rfl rfl rfl rfl ?_
      | refine opsC_lenA hS rfl rfl rfl (by kernel_rfl) rfl ?_
      | (refine opsC_plain hS rfl rfl fun _ K hK => ?_; go_simp; refine hK _ (by simp [go_sem, events_cap_slice, events_slice_hi, *]) ?_; clear hK K; try walk_nrm)
    refine opsC_binA (v := .bool (decide (0 < n))) hS rfl rfl rfl rfl rfl (by simp [int2]) ?_
    repeat first
      | refine opsC_moveA hS rfl rfl (.inl rfl) ?_
      | refine opsC_moveA hS rfl rfl (.inr rfl) ?_
      | refine opsC_binA hS rfl rfl rfl rfl rfl rfl ?_
      | refine opsC_lenA hS rfl rfl rfl (by kernel_rfl) rfl ?_
      | (refine opsC_plain hS rfl rfl fun _ K hK => ?_; go_simp; refine hK _ (by simp [go_sem, events_cap_slice, events_slice_hi, *]) ?_; clear hK K; try walk_nrm)
    refine opsC_nil hS ?_
    show WpC _ _ _ _ _ _ _
    refine wpC_ret hS ⟨rfl, _, resultsC_tmp2 rfl _, ?_⟩
    refine ⟨rfl, _, rfl, ?_, hbr⟩
    rw [tal, Hl.out]
    rw [List.take_of_length_le (by rw [Hl.out]; exact Nat.le_refl _)] at ho
    exact ho

end Go.Proofs.Ytjphaphnmclbcaa
