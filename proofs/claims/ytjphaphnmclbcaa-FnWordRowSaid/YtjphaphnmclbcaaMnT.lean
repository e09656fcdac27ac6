/- ManyRow of the program, beside leavers. Condition: the list's cells can be read. -/
import Derived.Test.YtjphaphnmclbcaaBnT
import Derived.Test.YtjphaphnmclbcaaMnP
import Derived.Test.YtjphaphnmclbcaaAwT
namespace Go.Proofs.Ytjphaphnmclbcaa
open Go Go.Conc Go.RowKit

/-- The blocks made since. -/
def Since (B : Nat) (w : World) (q : Nat) : Prop := B ≤ q ∧ q < w.heap.size
/-- The letters so far. -/
def psC (xs : List Int) : Nat → Int
  | 0 => 0
  | k + 1 => psC xs k + el xs k
theorem rowsOf_at {xs : List Int} (h : VC xs) {k : Nat} (hk : k < 4) : (rowsOf xs).take (k + 1) = (rowsOf xs).take k ++ [binL (psC xs (k + 1)) (el xs k)] ∧ 0 ≤ psC xs (k + 1) ∧ psC xs (k + 1) ≤ 7 := by
  obtain ⟨l0, l1, l2, l3, rfl, _, _⟩ := h.nat
  match k, hk with
  | 0, _ => simp [rowsOf, el, psC]; omega
  | 1, _ => simp [rowsOf, el, psC]; omega
  | 2, _ => simp [rowsOf, el, psC]; omega
  | 3, _ => simp [rowsOf, el, psC]; omega

set_option linter.unusedSimpArgs false in
set_option maxHeartbeats 4000000 in
theorem mnT {Stop : Goroutine → World → Prop} (ao : Option Addr) (n cap : Nat) (xs : List Int) (w : World) (h : Sl w ao n cap xs) :
    CallsC Try.prog (TF Try.prog Stop) 44 #[.slice ao n cap] w M00 (fun v w' M' => M' = M00 ∧ Own w' w.heap.size v (mnL xs) ∧ Only w w') := by
  have hS : Fam Try.prog true (fun _ => True) (TF Try.prog Stop) := fam_T
  refine callsC_of_wpC hS Try.func44 rfl ?_
  simp only [Try.ntmps44, List.size_toArray, List.length_cons, List.length_nil, Nat.reduceAdd, Nat.reduceSub, Array.replicate_succ,
     Array.replicate_zero, List.push_toArray, List.append_toArray, List.nil_append, List.cons_append]
  repeat refine wpC_seq hS ?_
  refine wpC_region hS ?_
  simp only [List.size_toArray, List.length_cons, List.length_nil, Nat.reduceAdd, Nat.zero_add, List.range, List.range.loop]
  repeat first
    | refine opsC_moveA hS rfl rfl (.inl rfl) ?_
    | refine opsC_moveA hS rfl rfl (.inr rfl) ?_
    | refine opsC_binA hS rfl rfl rfl rfl rfl rfl ?_
    | refine opsC_lenA hS rfl rfl rfl (by kernel_rfl) rfl ?_
    | (refine opsC_plain hS rfl rfl fun _ K hK => ?_; go_simp; refine hK _ (by simp [go_sem, events_cap_slice, events_slice_hi, *]) ?_; clear hK K; try walk_nrm)
  refine opsC_nil hS ?_
  show WpC _ _ _ _ _ _ _
  repeat refine wpC_seq hS ?_
  refine wpC_region hS ?_
  simp only [List.size_toArray, List.length_cons, List.length_nil, Nat.reduceAdd, Nat.zero_add, List.range, List.range.loop]
  first
    | refine opsC_moveA hS rfl rfl (.inl rfl) ?_
    | refine opsC_moveA hS rfl rfl (.inr rfl) ?_
    | refine opsC_binA hS rfl rfl rfl rfl rfl rfl ?_
    | refine opsC_lenA hS rfl rfl rfl (by kernel_rfl) rfl ?_
    | (refine opsC_plain hS rfl rfl fun _ K hK => ?_; go_simp; refine hK _ (by simp [go_sem, events_cap_slice, events_slice_hi, *]) ?_; clear hK K; try walk_nrm)
  refine opsC_callF hS rfl rfl rfl Try.func77 (by kernel_rfl) rfl (by simp only [List.map_toArray, List.map_cons, List.map_nil]; rfl) (saysC (by kernel_rfl) fun w₁ o => letI_any ao n cap xs w₁ (h.only o)) ?_
  rintro v w1 M' ⟨rfl, rfl, o1⟩
  by_cases hv : VC xs
  · obtain ⟨l0, l1, l2, l3, hx, hs7, hsum⟩ := hv.nat
    rw [onCi_yes hv, hsum]
    have hn4 : n = 4 := by rw [← h.len]; exact hv.len
    have e : mnL xs = prodQ (rowsOf xs) 4 := if_pos hv
    rw [e]
    clear e hx hsum
    subst hn4
    refine opsC_binA (v := .bool false) hS rfl rfl rfl rfl rfl (by simp [int2]; omega) ?_
    refine opsC_nil hS ?_
    show WpC _ _ _ _ _ _ _
    repeat refine wpC_seq hS ?_
    refine wpC_cond (t := false) hS rfl ?_
    simp only [if_true, if_false, Bool.false_eq_true]
    refine wpC_skip hS ?_
    show WpC _ _ _ _ _ _ _
    repeat refine wpC_seq hS ?_
    refine wpC_region hS ?_
    simp only [List.size_toArray, List.length_cons, List.length_nil, Nat.reduceAdd, Nat.zero_add, List.range, List.range.loop]
    obtain ⟨iL, hiL, zL0, zL1, zL2⟩ := info_parts infoL
    refine opsC_M (M1 := Mall) ?_
    refine opsC_buildSlice (cells := #[]) hS rfl rfl rfl Try.underlying38 hiL zL0 zL1 (by omega) (by first | (simp [Instr.fill]; done) | decide | kernel_rfl) fun wa ha => ?_
    refine opsC_M (M1 := M00) ?_
    have oa : Only w1 wa := Only.re (rl_all ha)
    obtain ⟨w2, hw2⟩ : ∃ w2, w2 = wa.alloc (.cells #[] 23) := ⟨_, rfl⟩
    have b2 : w2.heap[wa.heap.size]? = some (.cells #[] 23 (0, 0)) := by rw [hw2]; exact heap_alloc_new _ _
    have s2 : wa.heap.size < w2.heap.size := by rw [hw2, World.size_alloc]; exact Nat.lt_succ_self _
    have o2 : Only w w2 := by rw [hw2]; exact only_alloc (o1.trans oa) _
    have sa : w.heap.size ≤ wa.heap.size := (o1.trans oa).size
    rw [← hw2]
    clear hw2
    repeat first
      | refine opsC_moveA hS rfl rfl (.inl rfl) ?_
      | refine opsC_moveA hS rfl rfl (.inr rfl) ?_
      | refine opsC_binA hS rfl rfl rfl rfl rfl rfl ?_
      | refine opsC_lenA hS rfl rfl rfl (by kernel_rfl) rfl ?_
      | (refine opsC_plain hS rfl rfl fun _ K hK => ?_; go_simp; refine hK _ (by simp [go_sem, events_cap_slice, events_slice_hi, *]) ?_; clear hK K; try walk_nrm)
    refine opsC_nil hS ?_
    show WpC _ _ _ _ _ _ _
    repeat refine wpC_seq hS ?_
    refine wpC_region hS ?_
    simp only [List.size_toArray, List.length_cons, List.length_nil, Nat.reduceAdd, Nat.zero_add, List.range, List.range.loop]
    repeat first
      | refine opsC_moveA hS rfl rfl (.inl rfl) ?_
      | refine opsC_moveA hS rfl rfl (.inr rfl) ?_
      | refine opsC_binA hS rfl rfl rfl rfl rfl rfl ?_
      | refine opsC_lenA hS rfl rfl rfl (by kernel_rfl) rfl ?_
      | (refine opsC_plain hS rfl rfl fun _ K hK => ?_; go_simp; refine hK _ (by simp [go_sem, events_cap_slice, events_slice_hi, *]) ?_; clear hK K; try walk_nrm)
    refine opsC_nil hS ?_
    show WpC _ _ _ _ _ _ _
    repeat refine wpC_seq hS ?_
    refine wpC_region hS ?_
    simp only [List.size_toArray, List.length_cons, List.length_nil, Nat.reduceAdd, Nat.zero_add, List.range, List.range.loop]
    repeat first
      | refine opsC_moveA hS rfl rfl (.inl rfl) ?_
      | refine opsC_moveA hS rfl rfl (.inr rfl) ?_
      | refine opsC_binA hS rfl rfl rfl rfl rfl rfl ?_
      | refine opsC_lenA hS rfl rfl rfl (by kernel_rfl) rfl ?_
      | (refine opsC_plain hS rfl rfl fun _ K hK => ?_; go_simp; refine hK _ (by simp [go_sem, events_cap_slice, events_slice_hi, *]) ?_; clear hK K; try walk_nrm)
    refine opsC_nil hS ?_
    show WpC _ _ _ _ _ _ _
    repeat refine wpC_seq hS ?_
    refine wpC_block hS ?_
    refine wpC_loop_of hS ?_
    refine loopC_count (fun k a wr M => M = M00 ∧ ∃ (u : Value) (vs : List Value) (x1 x2 x5 x6 x7 x8 x9 x10 x14 x15 x16 x17 x18 x19 x20 x21 x22 x23 x24 x25 x26 x27 x28 : Value), a = { tmps := #[.slice ao 4 cap, x1, x2, u, .int .i64 (psC xs k), x5, x6, x7, x8, x9, x10, .slice ao 4 cap, .int .i64 (4 : Nat), .int .i64 (k : Int), x14, x15, x16, x17, x18, x19, x20, x21, x22, x23, x24, x25, x26, x27, x28], defers := [] } ∧ LoL w.heap.size wr (Since w.heap.size wr) u vs ((rowsOf xs).take k) ∧ Only w wr) 4 ?_ ?_ 0 (Nat.zero_le _) _ _ _ ⟨rfl, .slice (some ⟨wa.heap.size, 0, none⟩) 0 0, [], _, _, _, _, _, _, _, _, _, _, _, _, _, _, _, _, _, _, _, _, _, _, _, rfl, ⟨⟨rfl, .inr ⟨wa.heap.size, 0, #[], rfl, sa, b2, Nat.le_refl _, Nat.zero_le _, rfl, rfl⟩⟩, fun k hk => by cases hk; exact ⟨sa, s2⟩, fun j v hj => by simp at hj, fun i j v v' _ hj => by simp at hj⟩, o2⟩
    · rintro k _ wr _ hk ⟨rfl, u, vs, x1, x2, x5, x6, x7, x8, x9, x10, x14, x15, x16, x17, x18, x19, x20, x21, x22, x23, x24, x25, x26, x27, x28, rfl, hl, hbr⟩ hN
      obtain ⟨b, off, rfl, hblt, hcr⟩ := (h.only hbr).row (by omega)
      have hcell := hcr k hk
      obtain ⟨hta, hp0, hp7⟩ := rowsOf_at hv hk
      rw [hta] at hN
      have hki : (k : Int) < 4 := by omega
      have hsum : IntKind.i64.wrap (psC xs k + el xs k) = psC xs (k + 1) := by rw [IntKind.wrap_i64, psC]; rw [psC] at hp0 hp7; omega
      have hkw : IntKind.i64.wrap ((k : Int) + 1) = ((k + 1 : Nat) : Int) := by rw [IntKind.wrap_i64]; omega
      have hdl : ((rowsOf xs).take k).length ≤ 4 := by rw [List.length_take]; omega
      obtain ⟨done, hdn⟩ : ∃ done, done = (rowsOf xs).take k := ⟨_, rfl⟩
      rw [← hdn] at hl hN hdl
      clear hdn hta hcr
      refine loopC_round hS ?_
      repeat refine wpC_seq hS ?_
      refine wpC_region hS ?_
      simp only [List.size_toArray, List.length_cons, List.length_nil, Nat.reduceAdd, Nat.zero_add, List.range, List.range.loop]
      refine opsC_binA (v := .bool true) hS rfl rfl rfl rfl rfl (by simp [int2]; omega) ?_
      refine opsC_nil hS ?_
      show WpC _ _ _ _ _ _ _
      repeat refine wpC_seq hS ?_
      refine wpC_cond (t := true) hS rfl ?_
      simp only [if_true, if_false, Bool.false_eq_true]
      refine wpC_skip hS ?_
      show WpC _ _ _ _ _ _ _
      repeat refine wpC_seq hS ?_
      refine wpC_block hS ?_
      repeat refine wpC_seq hS ?_
      refine wpC_region hS ?_
      simp only [List.size_toArray, List.length_cons, List.length_nil, Nat.reduceAdd, Nat.zero_add, List.range, List.range.loop]
      (refine opsC_plain hS rfl rfl fun _ K hK => ?_; go_simp; refine hK _ (by simp [go_sem, events_cap_slice, events_slice_hi, *]) ?_; clear hK K; try walk_nrm)
      refine opsC_load hS rfl rfl rfl (by kernel_rfl) rfl (.inl trivial) hcell ?_
      repeat first
        | refine opsC_moveA hS rfl rfl (.inl rfl) ?_
        | refine opsC_moveA hS rfl rfl (.inr rfl) ?_
        | refine opsC_binA hS rfl rfl rfl rfl rfl rfl ?_
        | refine opsC_lenA hS rfl rfl rfl (by kernel_rfl) rfl ?_
        | (refine opsC_plain hS rfl rfl fun _ K hK => ?_; go_simp; refine hK _ (by simp [go_sem, events_cap_slice, events_slice_hi, *]) ?_; clear hK K; try walk_nrm)
      refine opsC_nil hS ?_
      show WpC _ _ _ _ _ _ _
      repeat refine wpC_seq hS ?_
      refine wpC_region hS ?_
      simp only [List.size_toArray, List.length_cons, List.length_nil, Nat.reduceAdd, Nat.zero_add, List.range, List.range.loop]
      first
        | refine opsC_moveA hS rfl rfl (.inl rfl) ?_
        | refine opsC_moveA hS rfl rfl (.inr rfl) ?_
        | refine opsC_binA hS rfl rfl rfl rfl rfl rfl ?_
        | refine opsC_lenA hS rfl rfl rfl (by kernel_rfl) rfl ?_
        | (refine opsC_plain hS rfl rfl fun _ K hK => ?_; go_simp; refine hK _ (by simp [go_sem, events_cap_slice, events_slice_hi, *]) ?_; clear hK K; try walk_nrm)
      first
        | refine opsC_moveA hS rfl rfl (.inl rfl) ?_
        | refine opsC_moveA hS rfl rfl (.inr rfl) ?_
        | refine opsC_binA hS rfl rfl rfl rfl rfl rfl ?_
        | refine opsC_lenA hS rfl rfl rfl (by kernel_rfl) rfl ?_
        | (refine opsC_plain hS rfl rfl fun _ K hK => ?_; go_simp; refine hK _ (by simp [go_sem, events_cap_slice, events_slice_hi, *]) ?_; clear hK K; try walk_nrm)
      refine opsC_binA (v := .int .i64 (psC xs (k + 1))) hS rfl rfl rfl rfl rfl (by simp [int2, hsum]) ?_
      repeat first
        | refine opsC_moveA hS rfl rfl (.inl rfl) ?_
        | refine opsC_moveA hS rfl rfl (.inr rfl) ?_
        | refine opsC_binA hS rfl rfl rfl rfl rfl rfl ?_
        | refine opsC_lenA hS rfl rfl rfl (by kernel_rfl) rfl ?_
        | (refine opsC_plain hS rfl rfl fun _ K hK => ?_; go_simp; refine hK _ (by simp [go_sem, events_cap_slice, events_slice_hi, *]) ?_; clear hK K; try walk_nrm)
      refine opsC_nil hS ?_
      show WpC _ _ _ _ _ _ _
      repeat refine wpC_seq hS ?_
      refine wpC_region hS ?_
      simp only [List.size_toArray, List.length_cons, List.length_nil, Nat.reduceAdd, Nat.zero_add, List.range, List.range.loop]
      first
        | refine opsC_moveA hS rfl rfl (.inl rfl) ?_
        | refine opsC_moveA hS rfl rfl (.inr rfl) ?_
        | refine opsC_binA hS rfl rfl rfl rfl rfl rfl ?_
        | refine opsC_lenA hS rfl rfl rfl (by kernel_rfl) rfl ?_
        | (refine opsC_plain hS rfl rfl fun _ K hK => ?_; go_simp; refine hK _ (by simp [go_sem, events_cap_slice, events_slice_hi, *]) ?_; clear hK K; try walk_nrm)
      first
        | refine opsC_moveA hS rfl rfl (.inl rfl) ?_
        | refine opsC_moveA hS rfl rfl (.inr rfl) ?_
        | refine opsC_binA hS rfl rfl rfl rfl rfl rfl ?_
        | refine opsC_lenA hS rfl rfl rfl (by kernel_rfl) rfl ?_
        | (refine opsC_plain hS rfl rfl fun _ K hK => ?_; go_simp; refine hK _ (by simp [go_sem, events_cap_slice, events_slice_hi, *]) ?_; clear hK K; try walk_nrm)
      first
        | refine opsC_moveA hS rfl rfl (.inl rfl) ?_
        | refine opsC_moveA hS rfl rfl (.inr rfl) ?_
        | refine opsC_binA hS rfl rfl rfl rfl rfl rfl ?_
        | refine opsC_lenA hS rfl rfl rfl (by kernel_rfl) rfl ?_
        | (refine opsC_plain hS rfl rfl fun _ K hK => ?_; go_simp; refine hK _ (by simp [go_sem, events_cap_slice, events_slice_hi, *]) ?_; clear hK K; try walk_nrm)
      refine opsC_callF hS rfl rfl rfl Try.func23 (by kernel_rfl) rfl (by simp only [List.map_toArray, List.map_cons, List.map_nil]; rfl) (binT _ _ wr) ?_
      rintro v wc _ ⟨rfl, hown, oc⟩
      have hlc := hl.chg (w' := wc) (M' := Since w.heap.size wr) (fun q hq => oc.keep q hq.2) (fun _ h => h)
      have hbc := hbr.trans oc
      have hsz := hbr.size
      have hov := fun q hq => hown.blocks q hq
      obtain ⟨iL, hiL, zL0, zL1, zL2⟩ := info_parts infoL
      refine opsC_M (M1 := Mall) ?_
      refine opsC_buildSlice (cells := #[v]) hS rfl rfl rfl Try.underlying38 hiL zL0 zL1 (by omega) ?_ fun wa ha => ?_
      · refine (congrArg (Instr.fill _ _) (show _ = [(0, v)] from ?_)).trans (fill1 _ v (own_cells hown))
        simp only [List.map_toArray, List.map_cons, List.map_nil]
        rfl
      have oa : Only wc (wa.alloc (.cells #[v] 23)) := only_alloc (Only.re (rl_all ha)) _
      have has : wa.heap.size = wc.heap.size := by rw [re_heap (rl_all ha)]
      obtain ⟨wb, hwb⟩ : ∃ wb, wb = wa.alloc (.cells #[v] 23) := ⟨_, rfl⟩
      have hcb : wb.heap[wa.heap.size]? = some (.cells #[v] 23 (0, 0)) := by rw [hwb]; exact heap_alloc_new _ _
      have hsb : wa.heap.size < wb.heap.size := by rw [hwb, World.size_alloc]; exact Nat.lt_succ_self _
      rw [← hwb] at oa ⊢
      clear hwb
      have hocs := oc.size
      have hlb := hlc.chg (w' := wb) (M' := Since w.heap.size wr) (fun q hq => oa.keep q (by have := hq.2; omega)) (fun _ h => h)
      have hvb := hown.only oa
      refine opsC_M (M1 := Mall) ?_
      refine opsC_append hS rfl rfl _ _ 38 rfl w.heap.size 23 iL (.slice none 0 0) Try.underlying38 hiL zL0 zL1 (by rw [zL2]; decide) rfl u done.length vs rfl hlb.row (fun _ _ => trivial) ⟨wa.heap.size, 0, none⟩ 1 1 [v] rfl (.inl trivial) rfl
        (fun j y hj => ?_) (by intro y hy; simp at hy; subst hy; exact hown.oneCell) (by omega) (by omega) ?_
      · match j, hj with
        | 0, hj => simp at hj; subst hj; rw [show (⟨wa.heap.size, 0, none⟩ : Addr).add 0 = ⟨wa.heap.size, 0, none⟩ from rfl, cell_of_row wb _ 0 _ _ _ hcb]; rfl
      intro wd u' we hd hrow hk' hg _
      refine opsC_M (M1 := M00) ?_
      have od : Only wb wd := Only.re (rl_all hd)
      have hds : wd.heap.size = wb.heap.size := by rw [re_heap (rl_all hd)]
      have hld := hlb.chg (w' := wd) (M' := Since w.heap.size wr) (fun q hq => od.keep q (by have := hq.2; omega)) (fun _ h => h)
      have hvd := hvb.only od
      have ow : Only w we := only_grown ((hbc.trans oa).trans od) hg fun q hq => (hl.ub q hq).1
      have hes := hg.size
      have hnew := hld.app (w' := we) (M' := Since w.heap.size we) (hvd.mono hsz) (fun q hq h2 => by have := (hov q hq).1; have := h2.2; omega) hrow (hk'.imp id fun e => ⟨wd.heap.size, e, fun h2 => by have := h2.2; omega, fun h2 => by have := (hov _ h2).2; omega⟩)
        (fun q hq hne => hg.block q (by rcases hq with h2 | h2
                                        · have := h2.2; omega
                                        · have := (hov q h2).2; omega) fun e => hne e.symm)
        (fun q hq => by
          rcases hq with h2 | h2 | h2
          · exact ⟨h2.1, by have := h2.2; omega⟩
          · exact ⟨by have := (hov q h2).1; omega, by have := (hov q h2).2; omega⟩
          · exact ⟨(hrow.lt q h2).1, (hrow.lt q h2).2⟩)
      repeat first
        | refine opsC_moveA hS rfl rfl (.inl rfl) ?_
        | refine opsC_moveA hS rfl rfl (.inr rfl) ?_
        | refine opsC_binA hS rfl rfl rfl rfl rfl rfl ?_
        | refine opsC_lenA hS rfl rfl rfl (by kernel_rfl) rfl ?_
        | (refine opsC_plain hS rfl rfl fun _ K hK => ?_; go_simp; refine hK _ (by simp [go_sem, events_cap_slice, events_slice_hi, *]) ?_; clear hK K; try walk_nrm)
      refine opsC_nil hS ?_
      show WpC _ _ _ _ _ _ _
      repeat refine wpC_seq hS ?_
      refine wpC_region hS ?_
      simp only [List.size_toArray, List.length_cons, List.length_nil, Nat.reduceAdd, Nat.zero_add, List.range, List.range.loop]
      refine opsC_binA (v := .int .i64 ((k + 1 : Nat) : Int)) hS rfl rfl rfl rfl rfl (by simp [int2, hkw]) ?_
      repeat first
        | refine opsC_moveA hS rfl rfl (.inl rfl) ?_
        | refine opsC_moveA hS rfl rfl (.inr rfl) ?_
        | refine opsC_binA hS rfl rfl rfl rfl rfl rfl ?_
        | refine opsC_lenA hS rfl rfl rfl (by kernel_rfl) rfl ?_
        | (refine opsC_plain hS rfl rfl fun _ K hK => ?_; go_simp; refine hK _ (by simp [go_sem, events_cap_slice, events_slice_hi, *]) ?_; clear hK K; try walk_nrm)
      refine opsC_nil hS ?_
      show LoopC _ _ _ _ _ _ _
      exact hN _ _ _ ⟨rfl, u', vs ++ [v], _, _, _, _, _, _, _, _, _, _, _, _, _, _, _, _, _, _, _, _, _, _, _, rfl, hnew, ow⟩
    · rintro _ wr _ ⟨rfl, u, vs, x1, x2, x5, x6, x7, x8, x9, x10, x14, x15, x16, x17, x18, x19, x20, x21, x22, x23, x24, x25, x26, x27, x28, rfl, hl, hbr⟩
      rw [show (rowsOf xs).take 4 = rowsOf xs from rfl] at hl
      have hol := hl.own hbr.size fun q hq => hq.2
      obtain ⟨al, cl, rfl, sl⟩ := hol.sl
      refine loopC_round hS ?_
      repeat refine wpC_seq hS ?_
      refine wpC_region hS ?_
      simp only [List.size_toArray, List.length_cons, List.length_nil, Nat.reduceAdd, Nat.zero_add, List.range, List.range.loop]
      refine opsC_binA (v := .bool false) hS rfl rfl rfl rfl rfl (by simp [int2]) ?_
      refine opsC_nil hS ?_
      show WpC _ _ _ _ _ _ _
      repeat refine wpC_seq hS ?_
      refine wpC_cond (t := false) hS rfl ?_
      simp only [if_true, if_false, Bool.false_eq_true]
      refine wpC_exit hS ?_
      show WpC _ _ _ _ _ _ _
      repeat refine wpC_seq hS ?_
      repeat refine wpC_seq hS ?_
      refine wpC_region hS ?_
      simp only [List.size_toArray, List.length_cons, List.length_nil, Nat.reduceAdd, Nat.zero_add, List.range, List.range.loop]
      first
        | refine opsC_moveA hS rfl rfl (.inl rfl) ?_
        | refine opsC_moveA hS rfl rfl (.inr rfl) ?_
        | refine opsC_binA hS rfl rfl rfl rfl rfl rfl ?_
        | refine opsC_lenA hS rfl rfl rfl (by kernel_rfl) rfl ?_
        | (refine opsC_plain hS rfl rfl fun _ K hK => ?_; go_simp; refine hK _ (by simp [go_sem, events_cap_slice, events_slice_hi, *]) ?_; clear hK K; try walk_nrm)
      refine opsC_callF hS rfl rfl rfl Try.func84 (by kernel_rfl) rfl (by simp only [List.map_toArray, List.map_cons, List.map_nil]; rfl) (madeC (ys := prodQ (rowsOf xs) 4) (by kernel_rfl) fun w₁ o => prodOfC_any _ 4 _ (rowsOf xs) w₁ (sl.only o) (by omega) rfl (by omega) (hid fun j hj => (rows_ok hv hj).1) (hid fun j hj => (rows_ok hv hj).2)) ?_
      rintro v w3 _ ⟨rfl, own3, o3⟩
      repeat first
        | refine opsC_moveA hS rfl rfl (.inl rfl) ?_
        | refine opsC_moveA hS rfl rfl (.inr rfl) ?_
        | refine opsC_binA hS rfl rfl rfl rfl rfl rfl ?_
        | refine opsC_lenA hS rfl rfl rfl (by kernel_rfl) rfl ?_
        | (refine opsC_plain hS rfl rfl fun _ K hK => ?_; go_simp; refine hK _ (by simp [go_sem, events_cap_slice, events_slice_hi, *]) ?_; clear hK K; try walk_nrm)
      refine opsC_nil hS ?_
      show WpC _ _ _ _ _ _ _
      refine wpC_ret hS ⟨rfl, _, resultsC_tmp rfl _, ?_⟩
      exact ⟨rfl, own3.mono hbr.size, hbr.trans o3⟩
  · have e : mnL xs = [] := if_neg hv
    rw [onCi_no hv, e]
    refine opsC_binA (v := .bool true) hS rfl rfl rfl rfl rfl (rfl) ?_
    refine opsC_nil hS ?_
    show WpC _ _ _ _ _ _ _
    repeat refine wpC_seq hS ?_
    refine wpC_cond (t := true) hS rfl ?_
    simp only [if_true, if_false, Bool.false_eq_true]
    repeat refine wpC_seq hS ?_
    refine wpC_region hS ?_
    simp only [List.size_toArray, List.length_cons, List.length_nil, Nat.reduceAdd, Nat.zero_add, List.range, List.range.loop]
    repeat first
      | refine opsC_moveA hS rfl rfl (.inl rfl) ?_
      | refine opsC_moveA hS rfl rfl (.inr rfl) ?_
      | refine opsC_binA hS rfl rfl rfl rfl rfl rfl ?_
      | refine opsC_lenA hS rfl rfl rfl (by kernel_rfl) rfl ?_
      | (refine opsC_plain hS rfl rfl fun _ K hK => ?_; go_simp; refine hK _ (by simp [go_sem, events_cap_slice, events_slice_hi, *]) ?_; clear hK K; try walk_nrm)
    refine opsC_nil hS ?_
    show WpC _ _ _ _ _ _ _
    refine wpC_ret hS ⟨rfl, _, resultsC_tmp rfl _, ?_⟩
    exact ⟨rfl, Own.nil, o1⟩

end Go.Proofs.Ytjphaphnmclbcaa
