/- sendWords: it sends the words that go on from a beginning, in order. No condition. -/
import Derived.Test.YtjphaphnmclbcaaSw9
import Derived.Test.YtjphaphnmclbcaaEq4
namespace Go.Proofs.Ytjphaphnmclbcaa
open Go Go.Conc Go.RowKit

def kzS : Nat → Int
  | 0 => 0
  | 1 => 1
  | 2 => 2
  | 3 => 3
  | _ => 4
/-- What goes on with the letters from k on. -/
def wrem (t : Nat) (b : List Int) (c : List Nat) (k : Nat) : List (List Int) := (List.range' k (4 - k)).flatMap fun k => if c.getD k 0 = 0 then [] else wgo t (b ++ [(k : Int)]) (c.set k (c.getD k 0 - 1))
theorem wrem0 (t : Nat) (b : List Int) (c : List Nat) : wgo (t + 1) b c = wrem t b c 0 := by
  simp only [wgo, wrem, List.range_eq_range']

/-- At the head of sendWords' loop. -/
structure InvS (Sh : Nat → Prop) (c : Nat) (u : Value) (b : List Int) (t gb : Nat) (l0 l1 l2 l3 : Nat) (xs : List (List Int)) (w0 : World) (M0 : Gh (List (List Int))) (k : Nat) (a : Act) (w : World) (M : Gh (List (List Int))) : Prop where
  act : ∃ x2 x3 x4 x6 x7 x8 x9 x10 x11 x12 x13 x16 x17 x18 x19 x20 x21 x22 x23 x24 x25 x26 x27 x28 x29 x30 x31 x32 x33 x34 x35 : Value, a = { tmps := #[.chan (some c), u, x2, x3, x4, .pointer (some ⟨gb, 0, none⟩), x6, x7, x8, x9, x10, x11, x12, x13, .agg #[.int .i64 (l0 : Int), .int .i64 (l1 : Int), .int .i64 (l2 : Int), .int .i64 (l3 : Int)], .int .i64 (kzS k), x16, x17, x18, x19, x20, x21, x22, x23, x24, x25, x26, x27, x28, x29, x30, x31, x32, x33, x34, x35], defers := [] }
  ix : M.1 = wrem t b [l0, l1, l2, l3] k ++ xs
  up : Up Sh w0 M0 w M
  there : There Sh w M

theorem wrem_zero (t : Nat) (b : List Int) (c : List Nat) (k : Nat) (hk : k < 4) (h : c.getD k 0 = 0) : wrem t b c k = wrem t b c (k + 1) := by
  unfold wrem
  rw [show 4 - k = (4 - (k + 1)) + 1 by omega, List.range'_succ, List.flatMap_cons, if_pos h, List.nil_append]
theorem wrem_pos (t : Nat) (b : List Int) (c : List Nat) (k : Nat) (hk : k < 4) (h : c.getD k 0 ≠ 0) : wrem t b c k = wgo t (b ++ [(k : Int)]) (c.set k (c.getD k 0 - 1)) ++ wrem t b c (k + 1) := by
  conv => lhs; unfold wrem
  rw [show 4 - k = (4 - (k + 1)) + 1 by omega, List.range'_succ, List.flatMap_cons, if_neg h]
  rfl

theorem infoA : (Try.prog.info? 63).map (fun i => (i.zero, i.size)) = some (some (.agg #[.int .i64 0, .int .i64 0, .int .i64 0, .int .i64 0]), 4) := by kernel_rfl

theorem one4 (a b c d : Int) : (#[Value.int .i64 a, .int .i64 b, .int .i64 c, .int .i64 d] : Array Value).all (·.oneCell') = true := by simp [Value.oneCell']

theorem cellsOf4 (l0 l1 l2 l3 : Nat) : cellsOf [l0, l1, l2, l3] = #[.int .i64 l0, .int .i64 l1, .int .i64 l2, .int .i64 l3] := rfl

set_option linter.unusedSimpArgs false in
set_option maxHeartbeats 4000000 in
theorem send_step {c B : Nat} {Sh : Nat → Prop} (t : Nat) (ih : ∀ t', t = t' + 1 → SendOK c B Sh t') : SendOK c B Sh t := by
  intro b L u w M xs hL hsum hbt hSh hB hth0 hu
  obtain ⟨l0, l1, l2, l3, rfl⟩ : ∃ l0 l1 l2 l3, L = [l0, l1, l2, l3] := by
    match L, hL with
    | [a, b, c, d], _ => exact ⟨a, b, c, d, rfl⟩
  have hS : Fam Try.prog false Sh (SndF Try.prog c Sh (PhiW B)) := fam_snd (phiW_keeps B)
  rw [cellsOf4]
  refine callsC_of_wpC hS Try.func105 rfl ?_
  simp only [Try.ntmps105, List.size_toArray, List.length_cons, List.length_nil, Nat.reduceAdd, Nat.reduceSub, Array.replicate_succ,
     Array.replicate_zero, List.push_toArray, List.append_toArray, List.nil_append, List.cons_append]
  refine wpC_seq hS ?_
  refine wpC_region hS ?_
  simp only [List.size_toArray, List.length_cons, List.length_nil, Nat.reduceAdd, Nat.zero_add, List.range, List.range.loop]
  refine opsC_box (v := .agg #[.int .i64 (l0 : Int), .int .i64 (l1 : Int), .int .i64 (l2 : Int), .int .i64 (l3 : Int)]) hS rfl rfl rfl rfl fun w₁ h₁ => ?_
  obtain ⟨w2, hw2⟩ : ∃ w2, w2 = w₁.alloc (.cells (Value.cells (.agg #[.int .i64 (l0 : Int), .int .i64 (l1 : Int), .int .i64 (l2 : Int), .int .i64 (l3 : Int)])) 63) := ⟨_, rfl⟩
  have hgb : w₁.grownBy w2 none := by rw [hw2]; exact World.grownBy_alloc _ _ _
  have hsz : w₁.heap.size < w2.heap.size := by rw [hw2, World.size_alloc]; exact Nat.lt_succ_self _
  have hcb : w2.heap[w₁.heap.size]? = some (.cells #[.int .i64 (l0 : Int), .int .i64 (l1 : Int), .int .i64 (l2 : Int), .int .i64 (l3 : Int)] 63 (0, 0)) := by rw [hw2]; exact heap_alloc_new _ _
  have up2 := ((Fwd.refl Sh w _).grown h₁ hgb (fun k hk => by cases hk) hth0).to_up
  have th2 := hth0.grown h₁ hgb.size
  have hm2 : grow M w₁ w2 w₁.heap.size := .inr ⟨Nat.le_refl _, hsz⟩
  rw [← hw2]
  simp only [] at up2 th2 ⊢
  obtain ⟨gb, hgbe⟩ : ∃ gb, gb = w₁.heap.size := ⟨_, rfl⟩
  rw [← hgbe] at hcb hm2 ⊢
  obtain ⟨M2, hM2⟩ : ∃ M2, M2 = grow M w₁ w2 := ⟨_, rfl⟩
  rw [← hM2] at hm2 up2 th2 ⊢
  clear hw2 hgb hsz hgbe hM2 h₁
  refine opsC_nil hS ?_
  show WpC _ _ _ _ _ _ _
  refine wpC_seq hS ?_
  refine wpC_seq hS ?_
  refine wpC_region hS ?_
  simp only [List.size_toArray, List.length_cons, List.length_nil, Nat.reduceAdd, Nat.zero_add, List.range, List.range.loop]
  refine opsC_loadrow hS rfl rfl rfl (by kernel_rfl) (cs := #[.int .i64 (l0 : Int), .int .i64 (l1 : Int), .int .i64 (l2 : Int), .int .i64 (l3 : Int)]) info4 rfl (.inr hm2) hcb ?_
  (refine opsC_plain hS rfl rfl fun _ K hK => ?_; go_simp; refine hK _ (by simp [go_sem, events_cap_slice, events_slice_hi, *]) ?_; clear hK K; try walk_nrm)
  refine opsC_eq4 hS rfl rfl rfl rfl rfl (by (with_reducible simp only [Act.put, Act.eval, Array.getD_eq_getD_getElem?, List.getElem?_toArray, List.getElem_toArray, List.getElem_cons_zero, List.getElem_cons_succ, List.getElem?_cons_zero, List.getElem?_cons_succ, Option.getD_some, List.setIfInBounds_toArray, List.set_cons_zero, List.set_cons_succ]); exact rfl) ?_
  refine opsC_nil hS ?_
  show WpC _ _ _ _ _ _ _
  cases t with
  | zero =>
    obtain ⟨rfl, rfl, rfl, rfl⟩ : l0 = 0 ∧ l1 = 0 ∧ l2 = 0 ∧ l3 = 0 := by simp at hsum; omega
    refine wpC_cond (t := true) hS rfl ?_
    simp only [if_true, if_false, Bool.false_eq_true]
    refine wpC_seq hS ?_
    refine wpC_region hS ?_
    simp only [List.size_toArray, List.length_cons, List.length_nil, Nat.reduceAdd, Nat.zero_add, List.range, List.range.loop]
    first
      | refine opsC_moveA hS rfl rfl (.inl rfl) ?_
      | refine opsC_moveA hS rfl rfl (.inr rfl) ?_
      | refine opsC_binA hS rfl rfl rfl rfl rfl rfl ?_
      | refine opsC_lenA hS rfl rfl rfl (by kernel_rfl) rfl ?_
      | (refine opsC_plain hS rfl rfl fun _ K hK => ?_; go_simp; refine hK _ (by simp [go_sem, events_cap_slice, events_slice_hi, *]) ?_; clear hK K; try walk_nrm)
    first
      | refine opsC_moveA hS rfl rfl (.inl rfl) ?_
      | refine opsC_moveA hS rfl rfl (.inr rfl) ?_
      | refine opsC_binA hS rfl rfl rfl rfl rfl rfl ?_
      | refine opsC_lenA hS rfl rfl rfl (by kernel_rfl) rfl ?_
      | (refine opsC_plain hS rfl rfl fun _ K hK => ?_; go_simp; refine hK _ (by simp [go_sem, events_cap_slice, events_slice_hi, *]) ?_; clear hK K; try walk_nrm)
    refine opsC_send (phiW_keeps B) rfl rfl rfl rfl rfl (V := fun k => u.ownBlock = some k) (fun k hk => up2.up k (hu.mine k hk)) ⟨(hu.up up2).own, rfl⟩ ?_
    refine opsC_nil hS ?_
    show WpC _ _ _ _ _ _ _
    refine wpC_ret hS ⟨rfl, _, resultsC_none rfl _, ?_⟩
    refine ⟨rfl, fun k hk hne => ⟨up2.up k hk, hne⟩, up2.rl.mono fun k hk => hk.1, fun k hk => th2 k (hk.imp id fun x => x.1)⟩
  | succ t =>
    have hne : ((l0 : Int) == 0 && (l1 : Int) == 0 && (l2 : Int) == 0 && (l3 : Int) == 0) = false := by
      simp at hsum ⊢
      omega
    refine wpC_cond (t := false) hS (congrArg Value.bool hne) ?_
    simp only [if_true, if_false, Bool.false_eq_true]
    refine wpC_skip hS ?_
    show WpC _ _ _ _ _ _ _
    refine wpC_seq hS ?_
    refine wpC_region hS ?_
    simp only [List.size_toArray, List.length_cons, List.length_nil, Nat.reduceAdd, Nat.zero_add, List.range, List.range.loop]
    refine opsC_loadrow hS rfl rfl rfl (by kernel_rfl) (cs := #[.int .i64 (l0 : Int), .int .i64 (l1 : Int), .int .i64 (l2 : Int), .int .i64 (l3 : Int)]) info4 rfl (.inr hm2) hcb ?_
    repeat first
      | refine opsC_moveA hS rfl rfl (.inl rfl) ?_
      | refine opsC_moveA hS rfl rfl (.inr rfl) ?_
      | refine opsC_binA hS rfl rfl rfl rfl rfl rfl ?_
      | refine opsC_lenA hS rfl rfl rfl (by kernel_rfl) rfl ?_
      | (refine opsC_plain hS rfl rfl fun _ K hK => ?_; go_simp; refine hK _ (by simp [go_sem, events_cap_slice, events_slice_hi, *]) ?_; clear hK K; try walk_nrm)
    refine opsC_nil hS ?_
    show WpC _ _ _ _ _ _ _
    refine wpC_block hS ?_
    refine wpC_loop_of hS ?_
    refine loopC_count (InvS Sh c u b t gb l0 l1 l2 l3 xs w2 (wgo (t + 1) b [l0, l1, l2, l3] ++ xs, M2)) 4 ?_ ?_ 0 (by omega) _ _ _ ⟨⟨_, _, _, _, _, _, _, _, _, _, _, _, _, _, _, _, _, _, _, _, _, _, _, _, _, _, _, _, _, _, _, rfl⟩, by rw [wrem0], Up.refl _ _ _, th2⟩
    · intro k a w M hk hI hN
      obtain ⟨⟨x2, x3, x4, x6, x7, x8, x9, x10, x11, x12, x13, x16, x17, x18, x19, x20, x21, x22, x23, x24, x25, x26, x27, x28, x29, x30, x31, x32, x33, x34, x35, rfl⟩, hix, hup, hth⟩ := hI
      rcases (show k = 0 ∨ k = 1 ∨ k = 2 ∨ k = 3 by omega) with rfl | rfl | rfl | rfl
      · simp only [kzS]
        refine loopC_round hS ?_
        refine wpC_seq hS ?_
        refine wpC_region hS ?_
        simp only [List.size_toArray, List.length_cons, List.length_nil, Nat.reduceAdd, Nat.zero_add, List.range, List.range.loop]
        repeat first
          | refine opsC_moveA hS rfl rfl (.inl rfl) ?_
          | refine opsC_moveA hS rfl rfl (.inr rfl) ?_
          | refine opsC_binA hS rfl rfl rfl rfl rfl rfl ?_
          | refine opsC_lenA hS rfl rfl rfl (by kernel_rfl) rfl ?_
          | (refine opsC_plain hS rfl rfl fun _ K hK => ?_; go_simp; refine hK _ (by simp [go_sem, events_cap_slice, events_slice_hi, *]) ?_; clear hK K; try walk_nrm)
        refine opsC_nil hS ?_
        show WpC _ _ _ _ _ _ _
        refine wpC_seq hS ?_
        refine wpC_cond (t := true) hS rfl ?_
        simp only [if_true, if_false, Bool.false_eq_true]
        refine wpC_skip hS ?_
        show WpC _ _ _ _ _ _ _
        refine wpC_seq hS ?_
        refine wpC_block hS ?_
        refine wpC_seq hS ?_
        refine wpC_region hS ?_
        simp only [List.size_toArray, List.length_cons, List.length_nil, Nat.reduceAdd, Nat.zero_add, List.range, List.range.loop]
        first
          | refine opsC_moveA hS rfl rfl (.inl rfl) ?_
          | refine opsC_moveA hS rfl rfl (.inr rfl) ?_
          | refine opsC_binA hS rfl rfl rfl rfl rfl rfl ?_
          | refine opsC_lenA hS rfl rfl rfl (by kernel_rfl) rfl ?_
          | (refine opsC_plain hS rfl rfl fun _ K hK => ?_; go_simp; refine hK _ (by simp [go_sem, events_cap_slice, events_slice_hi, *]) ?_; clear hK K; try walk_nrm)
        refine opsC_index4 (v := .int .i64 (l0 : Int)) hS rfl rfl rfl rfl rfl (by decide) rfl (by (with_reducible simp only [Act.put, Act.eval, Array.getD_eq_getD_getElem?, List.getElem?_toArray, List.getElem_toArray, List.getElem_cons_zero, List.getElem_cons_succ, List.getElem?_cons_zero, List.getElem?_cons_succ, Option.getD_some, List.setIfInBounds_toArray, List.set_cons_zero, List.set_cons_succ]); exact rfl) ?_
        repeat first
          | refine opsC_moveA hS rfl rfl (.inl rfl) ?_
          | refine opsC_moveA hS rfl rfl (.inr rfl) ?_
          | refine opsC_binA hS rfl rfl rfl rfl rfl rfl ?_
          | refine opsC_lenA hS rfl rfl rfl (by kernel_rfl) rfl ?_
          | (refine opsC_plain hS rfl rfl fun _ K hK => ?_; go_simp; refine hK _ (by simp [go_sem, events_cap_slice, events_slice_hi, *]) ?_; clear hK K; try walk_nrm)
        refine opsC_nil hS ?_
        show WpC _ _ _ _ _ _ _
        refine wpC_seq hS ?_
        refine wpC_seq hS ?_
        refine wpC_region hS ?_
        simp only [List.size_toArray, List.length_cons, List.length_nil, Nat.reduceAdd, Nat.zero_add, List.range, List.range.loop]
        repeat first
          | refine opsC_moveA hS rfl rfl (.inl rfl) ?_
          | refine opsC_moveA hS rfl rfl (.inr rfl) ?_
          | refine opsC_binA hS rfl rfl rfl rfl rfl rfl ?_
          | refine opsC_lenA hS rfl rfl rfl (by kernel_rfl) rfl ?_
          | (refine opsC_plain hS rfl rfl fun _ K hK => ?_; go_simp; refine hK _ (by simp [go_sem, events_cap_slice, events_slice_hi, *]) ?_; clear hK K; try walk_nrm)
        refine opsC_nil hS ?_
        show WpC _ _ _ _ _ _ _
        by_cases hz : l0 = 0
        · subst hz
          refine wpC_cond (t := true) hS rfl ?_
          simp only [if_true, if_false, Bool.false_eq_true]
          refine wpC_exit hS ?_
          show WpC _ _ _ _ _ _ _
          refine wpC_region hS ?_
          simp only [List.size_toArray, List.length_cons, List.length_nil, Nat.reduceAdd, Nat.zero_add, List.range, List.range.loop]
          repeat first
            | refine opsC_moveA hS rfl rfl (.inl rfl) ?_
            | refine opsC_moveA hS rfl rfl (.inr rfl) ?_
            | refine opsC_binA hS rfl rfl rfl rfl rfl rfl ?_
            | refine opsC_lenA hS rfl rfl rfl (by kernel_rfl) rfl ?_
            | (refine opsC_plain hS rfl rfl fun _ K hK => ?_; go_simp; refine hK _ (by simp [go_sem, events_cap_slice, events_slice_hi, *]) ?_; clear hK K; try walk_nrm)
          refine opsC_nil hS ?_
          show LoopC _ _ _ _ _ _ _
          refine hN _ _ _ ⟨⟨_, _, _, _, _, _, _, _, _, _, _, _, _, _, _, _, _, _, _, _, _, _, _, _, _, _, _, _, _, _, _, rfl⟩, hix.trans (congrArg (· ++ xs) (wrem_zero t b [0, l1, l2, l3] 0 (by omega) rfl)), hup, hth⟩
        · have hz' : ((l0 : Int) == 0) = false := by simp; omega
          refine wpC_cond (t := false) hS (congrArg Value.bool hz') ?_
          simp only [if_true, if_false, Bool.false_eq_true]
          refine wpC_skip hS ?_
          show WpC _ _ _ _ _ _ _
          refine wpC_seq hS ?_
          refine wpC_region hS ?_
          simp only [List.size_toArray, List.length_cons, List.length_nil, Nat.reduceAdd, Nat.zero_add, List.range, List.range.loop]
          refine opsC_loadrow hS rfl rfl rfl (by kernel_rfl) (cs := #[.int .i64 (l0 : Int), .int .i64 (l1 : Int), .int .i64 (l2 : Int), .int .i64 (l3 : Int)]) info4 rfl (.inr (hup.up gb hm2)) ((hup.rl.keep gb (.inr hm2)).trans hcb) ?_
          obtain ⟨iA, hiA, hpA⟩ := Option.map_eq_some_iff.1 infoA
          simp only [Prod.mk.injEq] at hpA
          refine opsC_alloc hS rfl rfl rfl hiA hpA.1 fun wa ha => ?_
          refine opsC_storerow (old := #[.int .i64 0, .int .i64 0, .int .i64 0, .int .i64 0]) (cs := #[.int .i64 (l0 : Int), .int .i64 (l1 : Int), .int .i64 (l2 : Int), .int .i64 (l3 : Int)]) (g := wa.heap.size) (t := 63) hS rfl rfl rfl info4 rfl (one4 _ _ _ _) rfl rfl (.inr ⟨Nat.le_refl _, by rw [World.size_alloc]; exact Nat.lt_succ_self _⟩) (heap_alloc_new _ _) fun wb hb => ?_
          obtain ⟨gr, hgr⟩ : ∃ gr, gr = wa.heap.size := ⟨_, rfl⟩
          rw [← hgr]
          obtain ⟨w3, hw3⟩ : ∃ w3, w3 = wb.setRow gr #[.int .i64 (l0 : Int), .int .i64 (l1 : Int), .int .i64 (l2 : Int), .int .i64 (l3 : Int)] := ⟨_, rfl⟩
          rw [← hw3]
          have hgA : wa.grownBy (wa.alloc (.cells (Value.cells (.agg #[.int .i64 0, .int .i64 0, .int .i64 0, .int .i64 0])) 63)) none := World.grownBy_alloc _ _ _
          obtain ⟨wz, hwz⟩ : ∃ wz, wz = wa.alloc (.cells (Value.cells (.agg #[.int .i64 0, .int .i64 0, .int .i64 0, .int .i64 0])) 63) := ⟨_, rfl⟩
          have hcz : wz.heap[gr]? = some (.cells #[.int .i64 0, .int .i64 0, .int .i64 0, .int .i64 0] 63 (0, 0)) := by rw [hwz, hgr]; exact heap_alloc_new _ _
          have hsz : wa.heap.size < wz.heap.size := by rw [hwz, World.size_alloc]; exact Nat.lt_succ_self _
          rw [← hwz] at hb hgA ⊢
          have fw3 := (Fwd.refl Sh w M).grown ha hgA (fun k hk => by cases hk) hth
          have th3 := hth.grown ha hgA.size
          have mgr : grow M.2 wa wz gr := .inr ⟨by omega, by omega⟩
          obtain ⟨M3, hM3⟩ : ∃ M3, M3 = grow M.2 wa wz := ⟨_, rfl⟩
          rw [← hM3] at hb fw3 th3 mgr ⊢
          have hcb3 : wb.heap[gr]? = some (.cells #[.int .i64 0, .int .i64 0, .int .i64 0, .int .i64 0] 63 (0, 0)) := (hb.keep gr (.inr mgr)).trans hcz
          have hc3 : w3.heap[gr]? = some (.cells #[.int .i64 (l0 : Int), .int .i64 (l1 : Int), .int .i64 (l2 : Int), .int .i64 (l3 : Int)] 63 (0, 0)) := by rw [hw3]; exact setRow_heap _ _ _ _ _ _ hcb3
          have gs3 : wb.grownBy w3 (some gr) := by rw [hw3]; exact grownBy_setRow _ _ _
          have es3 : w3.heap.size = wb.heap.size := by rw [hw3]; simp [World.setRow]
          have ha' := ha.size
          have fw3' := fw3.grown hb gs3 (fun k hk => by cases hk; have := ha.size; omega) hth
          have th3' : There Sh w3 ((M.1, M3) : Gh (List (List Int))) := fun k hk => by have := th3 k hk; have := hb.size; omega
          rw [grow_self _ wb w3 es3] at fw3'
          clear hwz hw3 hM3 gs3 es3 hcb3 hsz hgA fw3 hcz hb ha th3
          refine opsC_nil hS ?_
          show WpC _ _ _ _ _ _ _
          refine wpC_seq hS ?_
          refine wpC_region hS ?_
          simp only [List.size_toArray, List.length_cons, List.length_nil, Nat.reduceAdd, Nat.zero_add, List.range, List.range.loop]
          first
            | refine opsC_moveA hS rfl rfl (.inl rfl) ?_
            | refine opsC_moveA hS rfl rfl (.inr rfl) ?_
            | refine opsC_binA hS rfl rfl rfl rfl rfl rfl ?_
            | refine opsC_lenA hS rfl rfl rfl (by kernel_rfl) rfl ?_
            | (refine opsC_plain hS rfl rfl fun _ K hK => ?_; go_simp; refine hK _ (by simp [go_sem, events_cap_slice, events_slice_hi, *]) ?_; clear hK K; try walk_nrm)
          refine opsC_indexP4 (g := gr) (j := 0) hS rfl rfl rfl rfl rfl rfl (by omega) (by (with_reducible simp only [Act.put, Act.eval, Array.getD_eq_getD_getElem?, List.getElem?_toArray, List.getElem_toArray, List.getElem_cons_zero, List.getElem_cons_succ, List.getElem?_cons_zero, List.getElem?_cons_succ, Option.getD_some, List.setIfInBounds_toArray, List.set_cons_zero, List.set_cons_succ]); exact rfl) ?_
          refine opsC_load (ad := ⟨gr, 0, none⟩) (v := .int .i64 (l0 : Int)) hS rfl rfl rfl (by kernel_rfl) rfl (.inr mgr) (by rw [cell_of_row w3 gr 0 _ _ _ hc3]; rfl) ?_
          have ew : IntKind.i64.wrap ((l0 : Int) - 1) = ((l0 - 1 : Nat) : Int) := by
            have : l0 ≤ 100 := by simp at hsum; omega
            rw [IntKind.wrap_i64]; omega
          first
            | refine opsC_moveA hS rfl rfl (.inl rfl) ?_
            | refine opsC_moveA hS rfl rfl (.inr rfl) ?_
            | refine opsC_binA hS rfl rfl rfl rfl rfl rfl ?_
            | refine opsC_lenA hS rfl rfl rfl (by kernel_rfl) rfl ?_
            | (refine opsC_plain hS rfl rfl fun _ K hK => ?_; go_simp; refine hK _ (by simp [go_sem, events_cap_slice, events_slice_hi, *]) ?_; clear hK K; try walk_nrm)
          rw [ew]
          refine opsC_indexP4 (g := gr) (j := 0) hS rfl rfl rfl rfl rfl rfl (by omega) (by (with_reducible simp only [Act.put, Act.eval, Array.getD_eq_getD_getElem?, List.getElem?_toArray, List.getElem_toArray, List.getElem_cons_zero, List.getElem_cons_succ, List.getElem?_cons_zero, List.getElem?_cons_succ, Option.getD_some, List.setIfInBounds_toArray, List.set_cons_zero, List.set_cons_succ]); exact rfl) ?_
          refine opsC_store (ad := ⟨gr, 0, none⟩) (v := .int .i64 ((l0 - 1 : Nat) : Int)) (u := .int .i64 (l0 : Int)) hS rfl rfl rfl (by kernel_rfl) rfl rfl rfl rfl mgr (by rw [cell_of_row w3 gr 0 _ _ _ hc3]; rfl) (by simp [World.frozen?, hc3]) fun wc hc => ?_
          obtain ⟨w4, hw4⟩ : ∃ w4, w4 = wc.setCell ⟨gr, 0, none⟩ (.int .i64 ((l0 - 1 : Nat) : Int)) := ⟨_, rfl⟩
          rw [← hw4]
          have hcc : wc.heap[gr]? = some (.cells #[.int .i64 (l0 : Int), .int .i64 (l1 : Int), .int .i64 (l2 : Int), .int .i64 (l3 : Int)] 63 (0, 0)) := (hc.keep gr (.inr mgr)).trans hc3
          have hc4 : w4.heap[gr]? = some (.cells (cellsOf [l0 - 1, l1, l2, l3]) 63 (0, 0)) := by
            rw [hw4, setCell_eq_setRow wc gr 0 _ _ _ _ hcc]
            exact setRow_heap _ _ _ _ _ _ hcc
          have gs4 : wc.grownBy w4 (some gr) := by rw [hw4]; exact grownBy_setCell _ _ _
          have es4 : w4.heap.size = wc.heap.size := by rw [hw4]; exact setCell_size _ _ _
          have hgw : w.heap.size ≤ gr := by have := ha'; omega
          have fw4 := fw3'.grown hc gs4 (fun k hk => by cases hk; exact hgw) hth
          have th4 : There Sh w4 ((M.1, M3) : Gh (List (List Int))) := fun k hk => by have := th3' k hk; have := hc.size; omega
          rw [grow_self _ wc w4 es4] at fw4
          clear hw4 gs4 es4 hcc hc
          refine opsC_nil hS ?_
          show WpC _ _ _ _ _ _ _
          have ex : M.1 = wgo t (b ++ [(0 : Int)]) [l0 - 1, l1, l2, l3] ++ (wrem t b [l0, l1, l2, l3] (0 + 1) ++ xs) := by
            rw [hix, wrem_pos t b [l0, l1, l2, l3] 0 (by omega) hz, List.append_assoc]
            rfl
          rw [ex] at fw4 th4 ⊢
          have ow4 := (hu.up (up2.trans hup)).up fw4.to_up
          refine reg9 (u := u) (b := b) (x := 0) (gr := gr) (L' := [l0 - 1, l1, l2, l3]) (by have := hup.rl.size; have := up2.rl.size; have := fw4.rl.size; omega) th4 ⟨rfl, ⟨_, rfl, rfl, rfl, rfl⟩, ⟨_, rfl, rfl, rfl, rfl⟩, ⟨_, rfl, rfl, rfl, rfl⟩, ⟨_, rfl, rfl, rfl, rfl, ?_⟩, ⟨_, rfl, rfl, rfl, rfl, ?_, ?_⟩, ⟨_, rfl, rfl, rfl, rfl, ?_⟩, ⟨_, rfl, rfl, rfl, rfl⟩, ⟨_, rfl, rfl, ⟨_, rfl⟩, ?_, ?_, ?_, ?_⟩⟩ (by omega) rfl ?_ (fun wq Mq uq hBq htq huq => ih t rfl (b ++ [(0 : Int)]) [l0 - 1, l1, l2, l3] uq wq Mq _ rfl (by simp at hsum ⊢; omega) (by simp; omega) hSh hBq htq huq) rfl rfl rfl rfl rfl rfl ow4 mgr hc4 ?_
          · first | exact ⟨_, Array.mem_of_getElem? (i := 0) rfl, rfl, rfl⟩ | exact ⟨_, Array.mem_of_getElem? (i := 1) rfl, rfl, rfl⟩ | exact ⟨_, Array.mem_of_getElem? (i := 2) rfl, rfl, rfl⟩ | exact ⟨_, Array.mem_of_getElem? (i := 3) rfl, rfl, rfl⟩
          · first | exact ⟨_, Array.mem_of_getElem? (i := 0) rfl, rfl, rfl⟩ | exact ⟨_, Array.mem_of_getElem? (i := 1) rfl, rfl, rfl⟩ | exact ⟨_, Array.mem_of_getElem? (i := 2) rfl, rfl, rfl⟩ | exact ⟨_, Array.mem_of_getElem? (i := 3) rfl, rfl, rfl⟩
          · first | exact ⟨_, Array.mem_of_getElem? (i := 0) rfl, rfl, rfl⟩ | exact ⟨_, Array.mem_of_getElem? (i := 1) rfl, rfl, rfl⟩ | exact ⟨_, Array.mem_of_getElem? (i := 2) rfl, rfl, rfl⟩ | exact ⟨_, Array.mem_of_getElem? (i := 3) rfl, rfl, rfl⟩
          · first | exact ⟨_, Array.mem_of_getElem? (i := 0) rfl, rfl, rfl⟩ | exact ⟨_, Array.mem_of_getElem? (i := 1) rfl, rfl, rfl⟩ | exact ⟨_, Array.mem_of_getElem? (i := 2) rfl, rfl, rfl⟩ | exact ⟨_, Array.mem_of_getElem? (i := 3) rfl, rfl, rfl⟩
          · first | exact ⟨_, Array.mem_of_getElem? (i := 0) rfl, rfl, rfl⟩ | exact ⟨_, Array.mem_of_getElem? (i := 1) rfl, rfl, rfl⟩ | exact ⟨_, Array.mem_of_getElem? (i := 2) rfl, rfl, rfl⟩ | exact ⟨_, Array.mem_of_getElem? (i := 3) rfl, rfl, rfl⟩
          · first | exact ⟨_, Array.mem_of_getElem? (i := 0) rfl, rfl, rfl⟩ | exact ⟨_, Array.mem_of_getElem? (i := 1) rfl, rfl, rfl⟩ | exact ⟨_, Array.mem_of_getElem? (i := 2) rfl, rfl, rfl⟩ | exact ⟨_, Array.mem_of_getElem? (i := 3) rfl, rfl, rfl⟩
          · first | exact ⟨_, Array.mem_of_getElem? (i := 0) rfl, rfl, rfl⟩ | exact ⟨_, Array.mem_of_getElem? (i := 1) rfl, rfl, rfl⟩ | exact ⟨_, Array.mem_of_getElem? (i := 2) rfl, rfl, rfl⟩ | exact ⟨_, Array.mem_of_getElem? (i := 3) rfl, rfl, rfl⟩
          · first | exact .inl rfl | exact .inr rfl
          · intro L hL
            obtain ⟨b0, b1, b2, b3, b4, b5, b6, b7, rfl⟩ := arr8 hL
            clear hL
            revert b0 b1 b2 b3 b4 b5 b6 b7
            exact of_decide_eq_true (by kernel_rfl)
          · intro a w' M' hsz hdf heq hix' hup' hrl hth'
            obtain ⟨tm, df⟩ := a
            simp only at hsz hdf
            subst hdf
            obtain ⟨y0, y1, y2, y3, y4, y5, y6, y7, y8, y9, y10, y11, y12, y13, y14, y15, y16, y17, y18, y19, y20, y21, y22, y23, y24, y25, y26, y27, y28, y29, y30, y31, y32, y33, y34, y35, rfl⟩ := arr36 hsz
            have q0 : y0 = .chan (some c) := heq 0 (by omega)
            have q1 : y1 = u := heq 1 (by omega)
            have q5 : y5 = .pointer (some ⟨gb, 0, none⟩) := heq 5 (by omega)
            have q14 : y14 = .agg #[.int .i64 (l0 : Int), .int .i64 (l1 : Int), .int .i64 (l2 : Int), .int .i64 (l3 : Int)] := heq 14 (by omega)
            have q15 : y15 = .int .i64 0 := heq 15 (by omega)
            clear heq
            subst q0 q1 q5 q14 q15
            show WpC _ _ _ _ _ _ _
            refine wpC_region hS ?_
            simp only [List.size_toArray, List.length_cons, List.length_nil, Nat.reduceAdd, Nat.zero_add, List.range, List.range.loop]
            repeat first
              | refine opsC_moveA hS rfl rfl (.inl rfl) ?_
              | refine opsC_moveA hS rfl rfl (.inr rfl) ?_
              | refine opsC_binA hS rfl rfl rfl rfl rfl rfl ?_
              | refine opsC_lenA hS rfl rfl rfl (by kernel_rfl) rfl ?_
              | (refine opsC_plain hS rfl rfl fun _ K hK => ?_; go_simp; refine hK _ (by simp [go_sem, events_cap_slice, events_slice_hi, *]) ?_; clear hK K; try walk_nrm)
            refine opsC_nil hS ?_
            show LoopC _ _ _ _ _ _ _
            exact hN _ _ _ ⟨⟨_, _, _, _, _, _, _, _, _, _, _, _, _, _, _, _, _, _, _, _, _, _, _, _, _, _, _, _, _, _, _, rfl⟩, hix', ⟨fun k hk => hup' k (fw4.up k (hup.up k hk)), hup.rl.trans ((fw4.rl.trans (hrl.mono fw4.up)).mono hup.up)⟩, hth'⟩
      · simp only [kzS]
        refine loopC_round hS ?_
        refine wpC_seq hS ?_
        refine wpC_region hS ?_
        simp only [List.size_toArray, List.length_cons, List.length_nil, Nat.reduceAdd, Nat.zero_add, List.range, List.range.loop]
        repeat first
          | refine opsC_moveA hS rfl rfl (.inl rfl) ?_
          | refine opsC_moveA hS rfl rfl (.inr rfl) ?_
          | refine opsC_binA hS rfl rfl rfl rfl rfl rfl ?_
          | refine opsC_lenA hS rfl rfl rfl (by kernel_rfl) rfl ?_
          | (refine opsC_plain hS rfl rfl fun _ K hK => ?_; go_simp; refine hK _ (by simp [go_sem, events_cap_slice, events_slice_hi, *]) ?_; clear hK K; try walk_nrm)
        refine opsC_nil hS ?_
        show WpC _ _ _ _ _ _ _
        refine wpC_seq hS ?_
        refine wpC_cond (t := true) hS rfl ?_
        simp only [if_true, if_false, Bool.false_eq_true]
        refine wpC_skip hS ?_
        show WpC _ _ _ _ _ _ _
        refine wpC_seq hS ?_
        refine wpC_block hS ?_
        refine wpC_seq hS ?_
        refine wpC_region hS ?_
        simp only [List.size_toArray, List.length_cons, List.length_nil, Nat.reduceAdd, Nat.zero_add, List.range, List.range.loop]
        first
          | refine opsC_moveA hS rfl rfl (.inl rfl) ?_
          | refine opsC_moveA hS rfl rfl (.inr rfl) ?_
          | refine opsC_binA hS rfl rfl rfl rfl rfl rfl ?_
          | refine opsC_lenA hS rfl rfl rfl (by kernel_rfl) rfl ?_
          | (refine opsC_plain hS rfl rfl fun _ K hK => ?_; go_simp; refine hK _ (by simp [go_sem, events_cap_slice, events_slice_hi, *]) ?_; clear hK K; try walk_nrm)
        refine opsC_index4 (v := .int .i64 (l1 : Int)) hS rfl rfl rfl rfl rfl (by decide) rfl (by (with_reducible simp only [Act.put, Act.eval, Array.getD_eq_getD_getElem?, List.getElem?_toArray, List.getElem_toArray, List.getElem_cons_zero, List.getElem_cons_succ, List.getElem?_cons_zero, List.getElem?_cons_succ, Option.getD_some, List.setIfInBounds_toArray, List.set_cons_zero, List.set_cons_succ]); exact rfl) ?_
        repeat first
          | refine opsC_moveA hS rfl rfl (.inl rfl) ?_
          | refine opsC_moveA hS rfl rfl (.inr rfl) ?_
          | refine opsC_binA hS rfl rfl rfl rfl rfl rfl ?_
          | refine opsC_lenA hS rfl rfl rfl (by kernel_rfl) rfl ?_
          | (refine opsC_plain hS rfl rfl fun _ K hK => ?_; go_simp; refine hK _ (by simp [go_sem, events_cap_slice, events_slice_hi, *]) ?_; clear hK K; try walk_nrm)
        refine opsC_nil hS ?_
        show WpC _ _ _ _ _ _ _
        refine wpC_seq hS ?_
        refine wpC_seq hS ?_
        refine wpC_region hS ?_
        simp only [List.size_toArray, List.length_cons, List.length_nil, Nat.reduceAdd, Nat.zero_add, List.range, List.range.loop]
        repeat first
          | refine opsC_moveA hS rfl rfl (.inl rfl) ?_
          | refine opsC_moveA hS rfl rfl (.inr rfl) ?_
          | refine opsC_binA hS rfl rfl rfl rfl rfl rfl ?_
          | refine opsC_lenA hS rfl rfl rfl (by kernel_rfl) rfl ?_
          | (refine opsC_plain hS rfl rfl fun _ K hK => ?_; go_simp; refine hK _ (by simp [go_sem, events_cap_slice, events_slice_hi, *]) ?_; clear hK K; try walk_nrm)
        refine opsC_nil hS ?_
        show WpC _ _ _ _ _ _ _
        by_cases hz : l1 = 0
        · subst hz
          refine wpC_cond (t := true) hS rfl ?_
          simp only [if_true, if_false, Bool.false_eq_true]
          refine wpC_exit hS ?_
          show WpC _ _ _ _ _ _ _
          refine wpC_region hS ?_
          simp only [List.size_toArray, List.length_cons, List.length_nil, Nat.reduceAdd, Nat.zero_add, List.range, List.range.loop]
          repeat first
            | refine opsC_moveA hS rfl rfl (.inl rfl) ?_
            | refine opsC_moveA hS rfl rfl (.inr rfl) ?_
            | refine opsC_binA hS rfl rfl rfl rfl rfl rfl ?_
            | refine opsC_lenA hS rfl rfl rfl (by kernel_rfl) rfl ?_
            | (refine opsC_plain hS rfl rfl fun _ K hK => ?_; go_simp; refine hK _ (by simp [go_sem, events_cap_slice, events_slice_hi, *]) ?_; clear hK K; try walk_nrm)
          refine opsC_nil hS ?_
          show LoopC _ _ _ _ _ _ _
          refine hN _ _ _ ⟨⟨_, _, _, _, _, _, _, _, _, _, _, _, _, _, _, _, _, _, _, _, _, _, _, _, _, _, _, _, _, _, _, rfl⟩, hix.trans (congrArg (· ++ xs) (wrem_zero t b [l0, 0, l2, l3] 1 (by omega) rfl)), hup, hth⟩
        · have hz' : ((l1 : Int) == 0) = false := by simp; omega
          refine wpC_cond (t := false) hS (congrArg Value.bool hz') ?_
          simp only [if_true, if_false, Bool.false_eq_true]
          refine wpC_skip hS ?_
          show WpC _ _ _ _ _ _ _
          refine wpC_seq hS ?_
          refine wpC_region hS ?_
          simp only [List.size_toArray, List.length_cons, List.length_nil, Nat.reduceAdd, Nat.zero_add, List.range, List.range.loop]
          refine opsC_loadrow hS rfl rfl rfl (by kernel_rfl) (cs := #[.int .i64 (l0 : Int), .int .i64 (l1 : Int), .int .i64 (l2 : Int), .int .i64 (l3 : Int)]) info4 rfl (.inr (hup.up gb hm2)) ((hup.rl.keep gb (.inr hm2)).trans hcb) ?_
          obtain ⟨iA, hiA, hpA⟩ := Option.map_eq_some_iff.1 infoA
          simp only [Prod.mk.injEq] at hpA
          refine opsC_alloc hS rfl rfl rfl hiA hpA.1 fun wa ha => ?_
          refine opsC_storerow (old := #[.int .i64 0, .int .i64 0, .int .i64 0, .int .i64 0]) (cs := #[.int .i64 (l0 : Int), .int .i64 (l1 : Int), .int .i64 (l2 : Int), .int .i64 (l3 : Int)]) (g := wa.heap.size) (t := 63) hS rfl rfl rfl info4 rfl (one4 _ _ _ _) rfl rfl (.inr ⟨Nat.le_refl _, by rw [World.size_alloc]; exact Nat.lt_succ_self _⟩) (heap_alloc_new _ _) fun wb hb => ?_
          obtain ⟨gr, hgr⟩ : ∃ gr, gr = wa.heap.size := ⟨_, rfl⟩
          rw [← hgr]
          obtain ⟨w3, hw3⟩ : ∃ w3, w3 = wb.setRow gr #[.int .i64 (l0 : Int), .int .i64 (l1 : Int), .int .i64 (l2 : Int), .int .i64 (l3 : Int)] := ⟨_, rfl⟩
          rw [← hw3]
          have hgA : wa.grownBy (wa.alloc (.cells (Value.cells (.agg #[.int .i64 0, .int .i64 0, .int .i64 0, .int .i64 0])) 63)) none := World.grownBy_alloc _ _ _
          obtain ⟨wz, hwz⟩ : ∃ wz, wz = wa.alloc (.cells (Value.cells (.agg #[.int .i64 0, .int .i64 0, .int .i64 0, .int .i64 0])) 63) := ⟨_, rfl⟩
          have hcz : wz.heap[gr]? = some (.cells #[.int .i64 0, .int .i64 0, .int .i64 0, .int .i64 0] 63 (0, 0)) := by rw [hwz, hgr]; exact heap_alloc_new _ _
          have hsz : wa.heap.size < wz.heap.size := by rw [hwz, World.size_alloc]; exact Nat.lt_succ_self _
          rw [← hwz] at hb hgA ⊢
          have fw3 := (Fwd.refl Sh w M).grown ha hgA (fun k hk => by cases hk) hth
          have th3 := hth.grown ha hgA.size
          have mgr : grow M.2 wa wz gr := .inr ⟨by omega, by omega⟩
          obtain ⟨M3, hM3⟩ : ∃ M3, M3 = grow M.2 wa wz := ⟨_, rfl⟩
          rw [← hM3] at hb fw3 th3 mgr ⊢
          have hcb3 : wb.heap[gr]? = some (.cells #[.int .i64 0, .int .i64 0, .int .i64 0, .int .i64 0] 63 (0, 0)) := (hb.keep gr (.inr mgr)).trans hcz
          have hc3 : w3.heap[gr]? = some (.cells #[.int .i64 (l0 : Int), .int .i64 (l1 : Int), .int .i64 (l2 : Int), .int .i64 (l3 : Int)] 63 (0, 0)) := by rw [hw3]; exact setRow_heap _ _ _ _ _ _ hcb3
          have gs3 : wb.grownBy w3 (some gr) := by rw [hw3]; exact grownBy_setRow _ _ _
          have es3 : w3.heap.size = wb.heap.size := by rw [hw3]; simp [World.setRow]
          have ha' := ha.size
          have fw3' := fw3.grown hb gs3 (fun k hk => by cases hk; have := ha.size; omega) hth
          have th3' : There Sh w3 ((M.1, M3) : Gh (List (List Int))) := fun k hk => by have := th3 k hk; have := hb.size; omega
          rw [grow_self _ wb w3 es3] at fw3'
          clear hwz hw3 hM3 gs3 es3 hcb3 hsz hgA fw3 hcz hb ha th3
          refine opsC_nil hS ?_
          show WpC _ _ _ _ _ _ _
          refine wpC_seq hS ?_
          refine wpC_region hS ?_
          simp only [List.size_toArray, List.length_cons, List.length_nil, Nat.reduceAdd, Nat.zero_add, List.range, List.range.loop]
          first
            | refine opsC_moveA hS rfl rfl (.inl rfl) ?_
            | refine opsC_moveA hS rfl rfl (.inr rfl) ?_
            | refine opsC_binA hS rfl rfl rfl rfl rfl rfl ?_
            | refine opsC_lenA hS rfl rfl rfl (by kernel_rfl) rfl ?_
            | (refine opsC_plain hS rfl rfl fun _ K hK => ?_; go_simp; refine hK _ (by simp [go_sem, events_cap_slice, events_slice_hi, *]) ?_; clear hK K; try walk_nrm)
          refine opsC_indexP4 (g := gr) (j := 1) hS rfl rfl rfl rfl rfl rfl (by omega) (by (with_reducible simp only [Act.put, Act.eval, Array.getD_eq_getD_getElem?, List.getElem?_toArray, List.getElem_toArray, List.getElem_cons_zero, List.getElem_cons_succ, List.getElem?_cons_zero, List.getElem?_cons_succ, Option.getD_some, List.setIfInBounds_toArray, List.set_cons_zero, List.set_cons_succ]); exact rfl) ?_
          refine opsC_load (ad := ⟨gr, 1, none⟩) (v := .int .i64 (l1 : Int)) hS rfl rfl rfl (by kernel_rfl) rfl (.inr mgr) (by rw [cell_of_row w3 gr 1 _ _ _ hc3]; rfl) ?_
          have ew : IntKind.i64.wrap ((l1 : Int) - 1) = ((l1 - 1 : Nat) : Int) := by
            have : l1 ≤ 100 := by simp at hsum; omega
            rw [IntKind.wrap_i64]; omega
          first
            | refine opsC_moveA hS rfl rfl (.inl rfl) ?_
            | refine opsC_moveA hS rfl rfl (.inr rfl) ?_
            | refine opsC_binA hS rfl rfl rfl rfl rfl rfl ?_
            | refine opsC_lenA hS rfl rfl rfl (by kernel_rfl) rfl ?_
            | (refine opsC_plain hS rfl rfl fun _ K hK => ?_; go_simp; refine hK _ (by simp [go_sem, events_cap_slice, events_slice_hi, *]) ?_; clear hK K; try walk_nrm)
          rw [ew]
          refine opsC_indexP4 (g := gr) (j := 1) hS rfl rfl rfl rfl rfl rfl (by omega) (by (with_reducible simp only [Act.put, Act.eval, Array.getD_eq_getD_getElem?, List.getElem?_toArray, List.getElem_toArray, List.getElem_cons_zero, List.getElem_cons_succ, List.getElem?_cons_zero, List.getElem?_cons_succ, Option.getD_some, List.setIfInBounds_toArray, List.set_cons_zero, List.set_cons_succ]); exact rfl) ?_
          refine opsC_store (ad := ⟨gr, 1, none⟩) (v := .int .i64 ((l1 - 1 : Nat) : Int)) (u := .int .i64 (l1 : Int)) hS rfl rfl rfl (by kernel_rfl) rfl rfl rfl rfl mgr (by rw [cell_of_row w3 gr 1 _ _ _ hc3]; rfl) (by simp [World.frozen?, hc3]) fun wc hc => ?_
          obtain ⟨w4, hw4⟩ : ∃ w4, w4 = wc.setCell ⟨gr, 1, none⟩ (.int .i64 ((l1 - 1 : Nat) : Int)) := ⟨_, rfl⟩
          rw [← hw4]
          have hcc : wc.heap[gr]? = some (.cells #[.int .i64 (l0 : Int), .int .i64 (l1 : Int), .int .i64 (l2 : Int), .int .i64 (l3 : Int)] 63 (0, 0)) := (hc.keep gr (.inr mgr)).trans hc3
          have hc4 : w4.heap[gr]? = some (.cells (cellsOf [l0, l1 - 1, l2, l3]) 63 (0, 0)) := by
            rw [hw4, setCell_eq_setRow wc gr 1 _ _ _ _ hcc]
            exact setRow_heap _ _ _ _ _ _ hcc
          have gs4 : wc.grownBy w4 (some gr) := by rw [hw4]; exact grownBy_setCell _ _ _
          have es4 : w4.heap.size = wc.heap.size := by rw [hw4]; exact setCell_size _ _ _
          have hgw : w.heap.size ≤ gr := by have := ha'; omega
          have fw4 := fw3'.grown hc gs4 (fun k hk => by cases hk; exact hgw) hth
          have th4 : There Sh w4 ((M.1, M3) : Gh (List (List Int))) := fun k hk => by have := th3' k hk; have := hc.size; omega
          rw [grow_self _ wc w4 es4] at fw4
          clear hw4 gs4 es4 hcc hc
          refine opsC_nil hS ?_
          show WpC _ _ _ _ _ _ _
          have ex : M.1 = wgo t (b ++ [(1 : Int)]) [l0, l1 - 1, l2, l3] ++ (wrem t b [l0, l1, l2, l3] (1 + 1) ++ xs) := by
            rw [hix, wrem_pos t b [l0, l1, l2, l3] 1 (by omega) hz, List.append_assoc]
            rfl
          rw [ex] at fw4 th4 ⊢
          have ow4 := (hu.up (up2.trans hup)).up fw4.to_up
          refine reg9 (u := u) (b := b) (x := 1) (gr := gr) (L' := [l0, l1 - 1, l2, l3]) (by have := hup.rl.size; have := up2.rl.size; have := fw4.rl.size; omega) th4 ⟨rfl, ⟨_, rfl, rfl, rfl, rfl⟩, ⟨_, rfl, rfl, rfl, rfl⟩, ⟨_, rfl, rfl, rfl, rfl⟩, ⟨_, rfl, rfl, rfl, rfl, ?_⟩, ⟨_, rfl, rfl, rfl, rfl, ?_, ?_⟩, ⟨_, rfl, rfl, rfl, rfl, ?_⟩, ⟨_, rfl, rfl, rfl, rfl⟩, ⟨_, rfl, rfl, ⟨_, rfl⟩, ?_, ?_, ?_, ?_⟩⟩ (by omega) rfl ?_ (fun wq Mq uq hBq htq huq => ih t rfl (b ++ [(1 : Int)]) [l0, l1 - 1, l2, l3] uq wq Mq _ rfl (by simp at hsum ⊢; omega) (by simp; omega) hSh hBq htq huq) rfl rfl rfl rfl rfl rfl ow4 mgr hc4 ?_
          · first | exact ⟨_, Array.mem_of_getElem? (i := 0) rfl, rfl, rfl⟩ | exact ⟨_, Array.mem_of_getElem? (i := 1) rfl, rfl, rfl⟩ | exact ⟨_, Array.mem_of_getElem? (i := 2) rfl, rfl, rfl⟩ | exact ⟨_, Array.mem_of_getElem? (i := 3) rfl, rfl, rfl⟩
          · first | exact ⟨_, Array.mem_of_getElem? (i := 0) rfl, rfl, rfl⟩ | exact ⟨_, Array.mem_of_getElem? (i := 1) rfl, rfl, rfl⟩ | exact ⟨_, Array.mem_of_getElem? (i := 2) rfl, rfl, rfl⟩ | exact ⟨_, Array.mem_of_getElem? (i := 3) rfl, rfl, rfl⟩
          · first | exact ⟨_, Array.mem_of_getElem? (i := 0) rfl, rfl, rfl⟩ | exact ⟨_, Array.mem_of_getElem? (i := 1) rfl, rfl, rfl⟩ | exact ⟨_, Array.mem_of_getElem? (i := 2) rfl, rfl, rfl⟩ | exact ⟨_, Array.mem_of_getElem? (i := 3) rfl, rfl, rfl⟩
          · first | exact ⟨_, Array.mem_of_getElem? (i := 0) rfl, rfl, rfl⟩ | exact ⟨_, Array.mem_of_getElem? (i := 1) rfl, rfl, rfl⟩ | exact ⟨_, Array.mem_of_getElem? (i := 2) rfl, rfl, rfl⟩ | exact ⟨_, Array.mem_of_getElem? (i := 3) rfl, rfl, rfl⟩
          · first | exact ⟨_, Array.mem_of_getElem? (i := 0) rfl, rfl, rfl⟩ | exact ⟨_, Array.mem_of_getElem? (i := 1) rfl, rfl, rfl⟩ | exact ⟨_, Array.mem_of_getElem? (i := 2) rfl, rfl, rfl⟩ | exact ⟨_, Array.mem_of_getElem? (i := 3) rfl, rfl, rfl⟩
          · first | exact ⟨_, Array.mem_of_getElem? (i := 0) rfl, rfl, rfl⟩ | exact ⟨_, Array.mem_of_getElem? (i := 1) rfl, rfl, rfl⟩ | exact ⟨_, Array.mem_of_getElem? (i := 2) rfl, rfl, rfl⟩ | exact ⟨_, Array.mem_of_getElem? (i := 3) rfl, rfl, rfl⟩
          · first | exact ⟨_, Array.mem_of_getElem? (i := 0) rfl, rfl, rfl⟩ | exact ⟨_, Array.mem_of_getElem? (i := 1) rfl, rfl, rfl⟩ | exact ⟨_, Array.mem_of_getElem? (i := 2) rfl, rfl, rfl⟩ | exact ⟨_, Array.mem_of_getElem? (i := 3) rfl, rfl, rfl⟩
          · first | exact .inl rfl | exact .inr rfl
          · intro L hL
            obtain ⟨b0, b1, b2, b3, b4, b5, b6, b7, rfl⟩ := arr8 hL
            clear hL
            revert b0 b1 b2 b3 b4 b5 b6 b7
            exact of_decide_eq_true (by kernel_rfl)
          · intro a w' M' hsz hdf heq hix' hup' hrl hth'
            obtain ⟨tm, df⟩ := a
            simp only at hsz hdf
            subst hdf
            obtain ⟨y0, y1, y2, y3, y4, y5, y6, y7, y8, y9, y10, y11, y12, y13, y14, y15, y16, y17, y18, y19, y20, y21, y22, y23, y24, y25, y26, y27, y28, y29, y30, y31, y32, y33, y34, y35, rfl⟩ := arr36 hsz
            have q0 : y0 = .chan (some c) := heq 0 (by omega)
            have q1 : y1 = u := heq 1 (by omega)
            have q5 : y5 = .pointer (some ⟨gb, 0, none⟩) := heq 5 (by omega)
            have q14 : y14 = .agg #[.int .i64 (l0 : Int), .int .i64 (l1 : Int), .int .i64 (l2 : Int), .int .i64 (l3 : Int)] := heq 14 (by omega)
            have q15 : y15 = .int .i64 1 := heq 15 (by omega)
            clear heq
            subst q0 q1 q5 q14 q15
            show WpC _ _ _ _ _ _ _
            refine wpC_region hS ?_
            simp only [List.size_toArray, List.length_cons, List.length_nil, Nat.reduceAdd, Nat.zero_add, List.range, List.range.loop]
            repeat first
              | refine opsC_moveA hS rfl rfl (.inl rfl) ?_
              | refine opsC_moveA hS rfl rfl (.inr rfl) ?_
              | refine opsC_binA hS rfl rfl rfl rfl rfl rfl ?_
              | refine opsC_lenA hS rfl rfl rfl (by kernel_rfl) rfl ?_
              | (refine opsC_plain hS rfl rfl fun _ K hK => ?_; go_simp; refine hK _ (by simp [go_sem, events_cap_slice, events_slice_hi, *]) ?_; clear hK K; try walk_nrm)
            refine opsC_nil hS ?_
            show LoopC _ _ _ _ _ _ _
            exact hN _ _ _ ⟨⟨_, _, _, _, _, _, _, _, _, _, _, _, _, _, _, _, _, _, _, _, _, _, _, _, _, _, _, _, _, _, _, rfl⟩, hix', ⟨fun k hk => hup' k (fw4.up k (hup.up k hk)), hup.rl.trans ((fw4.rl.trans (hrl.mono fw4.up)).mono hup.up)⟩, hth'⟩
      · simp only [kzS]
        refine loopC_round hS ?_
        refine wpC_seq hS ?_
        refine wpC_region hS ?_
        simp only [List.size_toArray, List.length_cons, List.length_nil, Nat.reduceAdd, Nat.zero_add, List.range, List.range.loop]
        repeat first
          | refine opsC_moveA hS rfl rfl (.inl rfl) ?_
          | refine opsC_moveA hS rfl rfl (.inr rfl) ?_
          | refine opsC_binA hS rfl rfl rfl rfl rfl rfl ?_
          | refine opsC_lenA hS rfl rfl rfl (by kernel_rfl) rfl ?_
          | (refine opsC_plain hS rfl rfl fun _ K hK => ?_; go_simp; refine hK _ (by simp [go_sem, events_cap_slice, events_slice_hi, *]) ?_; clear hK K; try walk_nrm)
        refine opsC_nil hS ?_
        show WpC _ _ _ _ _ _ _
        refine wpC_seq hS ?_
        refine wpC_cond (t := true) hS rfl ?_
        simp only [if_true, if_false, Bool.false_eq_true]
        refine wpC_skip hS ?_
        show WpC _ _ _ _ _ _ _
        refine wpC_seq hS ?_
        refine wpC_block hS ?_
        refine wpC_seq hS ?_
        refine wpC_region hS ?_
        simp only [List.size_toArray, List.length_cons, List.length_nil, Nat.reduceAdd, Nat.zero_add, List.range, List.range.loop]
        first
          | refine opsC_moveA hS rfl rfl (.inl rfl) ?_
          | refine opsC_moveA hS rfl rfl (.inr rfl) ?_
          | refine opsC_binA hS rfl rfl rfl rfl rfl rfl ?_
          | refine opsC_lenA hS rfl rfl rfl (by kernel_rfl) rfl ?_
          | (refine opsC_plain hS rfl rfl fun _ K hK => ?_; go_simp; refine hK _ (by simp [go_sem, events_cap_slice, events_slice_hi, *]) ?_; clear hK K; try walk_nrm)
        refine opsC_index4 (v := .int .i64 (l2 : Int)) hS rfl rfl rfl rfl rfl (by decide) rfl (by (with_reducible simp only [Act.put, Act.eval, Array.getD_eq_getD_getElem?, List.getElem?_toArray, List.getElem_toArray, List.getElem_cons_zero, List.getElem_cons_succ, List.getElem?_cons_zero, List.getElem?_cons_succ, Option.getD_some, List.setIfInBounds_toArray, List.set_cons_zero, List.set_cons_succ]); exact rfl) ?_
        repeat first
          | refine opsC_moveA hS rfl rfl (.inl rfl) ?_
          | refine opsC_moveA hS rfl rfl (.inr rfl) ?_
          | refine opsC_binA hS rfl rfl rfl rfl rfl rfl ?_
          | refine opsC_lenA hS rfl rfl rfl (by kernel_rfl) rfl ?_
          | (refine opsC_plain hS rfl rfl fun _ K hK => ?_; go_simp; refine hK _ (by simp [go_sem, events_cap_slice, events_slice_hi, *]) ?_; clear hK K; try walk_nrm)
        refine opsC_nil hS ?_
        show WpC _ _ _ _ _ _ _
        refine wpC_seq hS ?_
        refine wpC_seq hS ?_
        refine wpC_region hS ?_
        simp only [List.size_toArray, List.length_cons, List.length_nil, Nat.reduceAdd, Nat.zero_add, List.range, List.range.loop]
        repeat first
          | refine opsC_moveA hS rfl rfl (.inl rfl) ?_
          | refine opsC_moveA hS rfl rfl (.inr rfl) ?_
          | refine opsC_binA hS rfl rfl rfl rfl rfl rfl ?_
          | refine opsC_lenA hS rfl rfl rfl (by kernel_rfl) rfl ?_
          | (refine opsC_plain hS rfl rfl fun _ K hK => ?_; go_simp; refine hK _ (by simp [go_sem, events_cap_slice, events_slice_hi, *]) ?_; clear hK K; try walk_nrm)
        refine opsC_nil hS ?_
        show WpC _ _ _ _ _ _ _
        by_cases hz : l2 = 0
        · subst hz
          refine wpC_cond (t := true) hS rfl ?_
          simp only [if_true, if_false, Bool.false_eq_true]
          refine wpC_exit hS ?_
          show WpC _ _ _ _ _ _ _
          refine wpC_region hS ?_
          simp only [List.size_toArray, List.length_cons, List.length_nil, Nat.reduceAdd, Nat.zero_add, List.range, List.range.loop]
          repeat first
            | refine opsC_moveA hS rfl rfl (.inl rfl) ?_
            | refine opsC_moveA hS rfl rfl (.inr rfl) ?_
            | refine opsC_binA hS rfl rfl rfl rfl rfl rfl ?_
            | refine opsC_lenA hS rfl rfl rfl (by kernel_rfl) rfl ?_
            | (refine opsC_plain hS rfl rfl fun _ K hK => ?_; go_simp; refine hK _ (by simp [go_sem, events_cap_slice, events_slice_hi, *]) ?_; clear hK K; try walk_nrm)
          refine opsC_nil hS ?_
          show LoopC _ _ _ _ _ _ _
          refine hN _ _ _ ⟨⟨_, _, _, _, _, _, _, _, _, _, _, _, _, _, _, _, _, _, _, _, _, _, _, _, _, _, _, _, _, _, _, rfl⟩, hix.trans (congrArg (· ++ xs) (wrem_zero t b [l0, l1, 0, l3] 2 (by omega) rfl)), hup, hth⟩
        · have hz' : ((l2 : Int) == 0) = false := by simp; omega
          refine wpC_cond (t := false) hS (congrArg Value.bool hz') ?_
          simp only [if_true, if_false, Bool.false_eq_true]
          refine wpC_skip hS ?_
          show WpC _ _ _ _ _ _ _
          refine wpC_seq hS ?_
          refine wpC_region hS ?_
          simp only [List.size_toArray, List.length_cons, List.length_nil, Nat.reduceAdd, Nat.zero_add, List.range, List.range.loop]
          refine opsC_loadrow hS rfl rfl rfl (by kernel_rfl) (cs := #[.int .i64 (l0 : Int), .int .i64 (l1 : Int), .int .i64 (l2 : Int), .int .i64 (l3 : Int)]) info4 rfl (.inr (hup.up gb hm2)) ((hup.rl.keep gb (.inr hm2)).trans hcb) ?_
          obtain ⟨iA, hiA, hpA⟩ := Option.map_eq_some_iff.1 infoA
          simp only [Prod.mk.injEq] at hpA
          refine opsC_alloc hS rfl rfl rfl hiA hpA.1 fun wa ha => ?_
          refine opsC_storerow (old := #[.int .i64 0, .int .i64 0, .int .i64 0, .int .i64 0]) (cs := #[.int .i64 (l0 : Int), .int .i64 (l1 : Int), .int .i64 (l2 : Int), .int .i64 (l3 : Int)]) (g := wa.heap.size) (t := 63) hS rfl rfl rfl info4 rfl (one4 _ _ _ _) rfl rfl (.inr ⟨Nat.le_refl _, by rw [World.size_alloc]; exact Nat.lt_succ_self _⟩) (heap_alloc_new _ _) fun wb hb => ?_
          obtain ⟨gr, hgr⟩ : ∃ gr, gr = wa.heap.size := ⟨_, rfl⟩
          rw [← hgr]
          obtain ⟨w3, hw3⟩ : ∃ w3, w3 = wb.setRow gr #[.int .i64 (l0 : Int), .int .i64 (l1 : Int), .int .i64 (l2 : Int), .int .i64 (l3 : Int)] := ⟨_, rfl⟩
          rw [← hw3]
          have hgA : wa.grownBy (wa.alloc (.cells (Value.cells (.agg #[.int .i64 0, .int .i64 0, .int .i64 0, .int .i64 0])) 63)) none := World.grownBy_alloc _ _ _
          obtain ⟨wz, hwz⟩ : ∃ wz, wz = wa.alloc (.cells (Value.cells (.agg #[.int .i64 0, .int .i64 0, .int .i64 0, .int .i64 0])) 63) := ⟨_, rfl⟩
          have hcz : wz.heap[gr]? = some (.cells #[.int .i64 0, .int .i64 0, .int .i64 0, .int .i64 0] 63 (0, 0)) := by rw [hwz, hgr]; exact heap_alloc_new _ _
          have hsz : wa.heap.size < wz.heap.size := by rw [hwz, World.size_alloc]; exact Nat.lt_succ_self _
          rw [← hwz] at hb hgA ⊢
          have fw3 := (Fwd.refl Sh w M).grown ha hgA (fun k hk => by cases hk) hth
          have th3 := hth.grown ha hgA.size
          have mgr : grow M.2 wa wz gr := .inr ⟨by omega, by omega⟩
          obtain ⟨M3, hM3⟩ : ∃ M3, M3 = grow M.2 wa wz := ⟨_, rfl⟩
          rw [← hM3] at hb fw3 th3 mgr ⊢
          have hcb3 : wb.heap[gr]? = some (.cells #[.int .i64 0, .int .i64 0, .int .i64 0, .int .i64 0] 63 (0, 0)) := (hb.keep gr (.inr mgr)).trans hcz
          have hc3 : w3.heap[gr]? = some (.cells #[.int .i64 (l0 : Int), .int .i64 (l1 : Int), .int .i64 (l2 : Int), .int .i64 (l3 : Int)] 63 (0, 0)) := by rw [hw3]; exact setRow_heap _ _ _ _ _ _ hcb3
          have gs3 : wb.grownBy w3 (some gr) := by rw [hw3]; exact grownBy_setRow _ _ _
          have es3 : w3.heap.size = wb.heap.size := by rw [hw3]; simp [World.setRow]
          have ha' := ha.size
          have fw3' := fw3.grown hb gs3 (fun k hk => by cases hk; have := ha.size; omega) hth
          have th3' : There Sh w3 ((M.1, M3) : Gh (List (List Int))) := fun k hk => by have := th3 k hk; have := hb.size; omega
          rw [grow_self _ wb w3 es3] at fw3'
          clear hwz hw3 hM3 gs3 es3 hcb3 hsz hgA fw3 hcz hb ha th3
          refine opsC_nil hS ?_
          show WpC _ _ _ _ _ _ _
          refine wpC_seq hS ?_
          refine wpC_region hS ?_
          simp only [List.size_toArray, List.length_cons, List.length_nil, Nat.reduceAdd, Nat.zero_add, List.range, List.range.loop]
          first
            | refine opsC_moveA hS rfl rfl (.inl rfl) ?_
            | refine opsC_moveA hS rfl rfl (.inr rfl) ?_
            | refine opsC_binA hS rfl rfl rfl rfl rfl rfl ?_
            | refine opsC_lenA hS rfl rfl rfl (by kernel_rfl) rfl ?_
            | (refine opsC_plain hS rfl rfl fun _ K hK => ?_; go_simp; refine hK _ (by simp [go_sem, events_cap_slice, events_slice_hi, *]) ?_; clear hK K; try walk_nrm)
          refine opsC_indexP4 (g := gr) (j := 2) hS rfl rfl rfl rfl rfl rfl (by omega) (by (with_reducible simp only [Act.put, Act.eval, Array.getD_eq_getD_getElem?, List.getElem?_toArray, List.getElem_toArray, List.getElem_cons_zero, List.getElem_cons_succ, List.getElem?_cons_zero, List.getElem?_cons_succ, Option.getD_some, List.setIfInBounds_toArray, List.set_cons_zero, List.set_cons_succ]); exact rfl) ?_
          refine opsC_load (ad := ⟨gr, 2, none⟩) (v := .int .i64 (l2 : Int)) hS rfl rfl rfl (by kernel_rfl) rfl (.inr mgr) (by rw [cell_of_row w3 gr 2 _ _ _ hc3]; rfl) ?_
          have ew : IntKind.i64.wrap ((l2 : Int) - 1) = ((l2 - 1 : Nat) : Int) := by
            have : l2 ≤ 100 := by simp at hsum; omega
            rw [IntKind.wrap_i64]; omega
          first
            | refine opsC_moveA hS rfl rfl (.inl rfl) ?_
            | refine opsC_moveA hS rfl rfl (.inr rfl) ?_
            | refine opsC_binA hS rfl rfl rfl rfl rfl rfl ?_
            | refine opsC_lenA hS rfl rfl rfl (by kernel_rfl) rfl ?_
            | (refine opsC_plain hS rfl rfl fun _ K hK => ?_; go_simp; refine hK _ (by simp [go_sem, events_cap_slice, events_slice_hi, *]) ?_; clear hK K; try walk_nrm)
          rw [ew]
          refine opsC_indexP4 (g := gr) (j := 2) hS rfl rfl rfl rfl rfl rfl (by omega) (by (with_reducible simp only [Act.put, Act.eval, Array.getD_eq_getD_getElem?, List.getElem?_toArray, List.getElem_toArray, List.getElem_cons_zero, List.getElem_cons_succ, List.getElem?_cons_zero, List.getElem?_cons_succ, Option.getD_some, List.setIfInBounds_toArray, List.set_cons_zero, List.set_cons_succ]); exact rfl) ?_
          refine opsC_store (ad := ⟨gr, 2, none⟩) (v := .int .i64 ((l2 - 1 : Nat) : Int)) (u := .int .i64 (l2 : Int)) hS rfl rfl rfl (by kernel_rfl) rfl rfl rfl rfl mgr (by rw [cell_of_row w3 gr 2 _ _ _ hc3]; rfl) (by simp [World.frozen?, hc3]) fun wc hc => ?_
          obtain ⟨w4, hw4⟩ : ∃ w4, w4 = wc.setCell ⟨gr, 2, none⟩ (.int .i64 ((l2 - 1 : Nat) : Int)) := ⟨_, rfl⟩
          rw [← hw4]
          have hcc : wc.heap[gr]? = some (.cells #[.int .i64 (l0 : Int), .int .i64 (l1 : Int), .int .i64 (l2 : Int), .int .i64 (l3 : Int)] 63 (0, 0)) := (hc.keep gr (.inr mgr)).trans hc3
          have hc4 : w4.heap[gr]? = some (.cells (cellsOf [l0, l1, l2 - 1, l3]) 63 (0, 0)) := by
            rw [hw4, setCell_eq_setRow wc gr 2 _ _ _ _ hcc]
            exact setRow_heap _ _ _ _ _ _ hcc
          have gs4 : wc.grownBy w4 (some gr) := by rw [hw4]; exact grownBy_setCell _ _ _
          have es4 : w4.heap.size = wc.heap.size := by rw [hw4]; exact setCell_size _ _ _
          have hgw : w.heap.size ≤ gr := by have := ha'; omega
          have fw4 := fw3'.grown hc gs4 (fun k hk => by cases hk; exact hgw) hth
          have th4 : There Sh w4 ((M.1, M3) : Gh (List (List Int))) := fun k hk => by have := th3' k hk; have := hc.size; omega
          rw [grow_self _ wc w4 es4] at fw4
          clear hw4 gs4 es4 hcc hc
          refine opsC_nil hS ?_
          show WpC _ _ _ _ _ _ _
          have ex : M.1 = wgo t (b ++ [(2 : Int)]) [l0, l1, l2 - 1, l3] ++ (wrem t b [l0, l1, l2, l3] (2 + 1) ++ xs) := by
            rw [hix, wrem_pos t b [l0, l1, l2, l3] 2 (by omega) hz, List.append_assoc]
            rfl
          rw [ex] at fw4 th4 ⊢
          have ow4 := (hu.up (up2.trans hup)).up fw4.to_up
          refine reg9 (u := u) (b := b) (x := 2) (gr := gr) (L' := [l0, l1, l2 - 1, l3]) (by have := hup.rl.size; have := up2.rl.size; have := fw4.rl.size; omega) th4 ⟨rfl, ⟨_, rfl, rfl, rfl, rfl⟩, ⟨_, rfl, rfl, rfl, rfl⟩, ⟨_, rfl, rfl, rfl, rfl⟩, ⟨_, rfl, rfl, rfl, rfl, ?_⟩, ⟨_, rfl, rfl, rfl, rfl, ?_, ?_⟩, ⟨_, rfl, rfl, rfl, rfl, ?_⟩, ⟨_, rfl, rfl, rfl, rfl⟩, ⟨_, rfl, rfl, ⟨_, rfl⟩, ?_, ?_, ?_, ?_⟩⟩ (by omega) rfl ?_ (fun wq Mq uq hBq htq huq => ih t rfl (b ++ [(2 : Int)]) [l0, l1, l2 - 1, l3] uq wq Mq _ rfl (by simp at hsum ⊢; omega) (by simp; omega) hSh hBq htq huq) rfl rfl rfl rfl rfl rfl ow4 mgr hc4 ?_
          · first | exact ⟨_, Array.mem_of_getElem? (i := 0) rfl, rfl, rfl⟩ | exact ⟨_, Array.mem_of_getElem? (i := 1) rfl, rfl, rfl⟩ | exact ⟨_, Array.mem_of_getElem? (i := 2) rfl, rfl, rfl⟩ | exact ⟨_, Array.mem_of_getElem? (i := 3) rfl, rfl, rfl⟩
          · first | exact ⟨_, Array.mem_of_getElem? (i := 0) rfl, rfl, rfl⟩ | exact ⟨_, Array.mem_of_getElem? (i := 1) rfl, rfl, rfl⟩ | exact ⟨_, Array.mem_of_getElem? (i := 2) rfl, rfl, rfl⟩ | exact ⟨_, Array.mem_of_getElem? (i := 3) rfl, rfl, rfl⟩
          · first | exact ⟨_, Array.mem_of_getElem? (i := 0) rfl, rfl, rfl⟩ | exact ⟨_, Array.mem_of_getElem? (i := 1) rfl, rfl, rfl⟩ | exact ⟨_, Array.mem_of_getElem? (i := 2) rfl, rfl, rfl⟩ | exact ⟨_, Array.mem_of_getElem? (i := 3) rfl, rfl, rfl⟩
          · first | exact ⟨_, Array.mem_of_getElem? (i := 0) rfl, rfl, rfl⟩ | exact ⟨_, Array.mem_of_getElem? (i := 1) rfl, rfl, rfl⟩ | exact ⟨_, Array.mem_of_getElem? (i := 2) rfl, rfl, rfl⟩ | exact ⟨_, Array.mem_of_getElem? (i := 3) rfl, rfl, rfl⟩
          · first | exact ⟨_, Array.mem_of_getElem? (i := 0) rfl, rfl, rfl⟩ | exact ⟨_, Array.mem_of_getElem? (i := 1) rfl, rfl, rfl⟩ | exact ⟨_, Array.mem_of_getElem? (i := 2) rfl, rfl, rfl⟩ | exact ⟨_, Array.mem_of_getElem? (i := 3) rfl, rfl, rfl⟩
          · first | exact ⟨_, Array.mem_of_getElem? (i := 0) rfl, rfl, rfl⟩ | exact ⟨_, Array.mem_of_getElem? (i := 1) rfl, rfl, rfl⟩ | exact ⟨_, Array.mem_of_getElem? (i := 2) rfl, rfl, rfl⟩ | exact ⟨_, Array.mem_of_getElem? (i := 3) rfl, rfl, rfl⟩
          · first | exact ⟨_, Array.mem_of_getElem? (i := 0) rfl, rfl, rfl⟩ | exact ⟨_, Array.mem_of_getElem? (i := 1) rfl, rfl, rfl⟩ | exact ⟨_, Array.mem_of_getElem? (i := 2) rfl, rfl, rfl⟩ | exact ⟨_, Array.mem_of_getElem? (i := 3) rfl, rfl, rfl⟩
          · first | exact .inl rfl | exact .inr rfl
          · intro L hL
            obtain ⟨b0, b1, b2, b3, b4, b5, b6, b7, rfl⟩ := arr8 hL
            clear hL
            revert b0 b1 b2 b3 b4 b5 b6 b7
            exact of_decide_eq_true (by kernel_rfl)
          · intro a w' M' hsz hdf heq hix' hup' hrl hth'
            obtain ⟨tm, df⟩ := a
            simp only at hsz hdf
            subst hdf
            obtain ⟨y0, y1, y2, y3, y4, y5, y6, y7, y8, y9, y10, y11, y12, y13, y14, y15, y16, y17, y18, y19, y20, y21, y22, y23, y24, y25, y26, y27, y28, y29, y30, y31, y32, y33, y34, y35, rfl⟩ := arr36 hsz
            have q0 : y0 = .chan (some c) := heq 0 (by omega)
            have q1 : y1 = u := heq 1 (by omega)
            have q5 : y5 = .pointer (some ⟨gb, 0, none⟩) := heq 5 (by omega)
            have q14 : y14 = .agg #[.int .i64 (l0 : Int), .int .i64 (l1 : Int), .int .i64 (l2 : Int), .int .i64 (l3 : Int)] := heq 14 (by omega)
            have q15 : y15 = .int .i64 2 := heq 15 (by omega)
            clear heq
            subst q0 q1 q5 q14 q15
            show WpC _ _ _ _ _ _ _
            refine wpC_region hS ?_
            simp only [List.size_toArray, List.length_cons, List.length_nil, Nat.reduceAdd, Nat.zero_add, List.range, List.range.loop]
            repeat first
              | refine opsC_moveA hS rfl rfl (.inl rfl) ?_
              | refine opsC_moveA hS rfl rfl (.inr rfl) ?_
              | refine opsC_binA hS rfl rfl rfl rfl rfl rfl ?_
              | refine opsC_lenA hS rfl rfl rfl (by kernel_rfl) rfl ?_
              | (refine opsC_plain hS rfl rfl fun _ K hK => ?_; go_simp; refine hK _ (by simp [go_sem, events_cap_slice, events_slice_hi, *]) ?_; clear hK K; try walk_nrm)
            refine opsC_nil hS ?_
            show LoopC _ _ _ _ _ _ _
            exact hN _ _ _ ⟨⟨_, _, _, _, _, _, _, _, _, _, _, _, _, _, _, _, _, _, _, _, _, _, _, _, _, _, _, _, _, _, _, rfl⟩, hix', ⟨fun k hk => hup' k (fw4.up k (hup.up k hk)), hup.rl.trans ((fw4.rl.trans (hrl.mono fw4.up)).mono hup.up)⟩, hth'⟩
      · simp only [kzS]
        refine loopC_round hS ?_
        refine wpC_seq hS ?_
        refine wpC_region hS ?_
        simp only [List.size_toArray, List.length_cons, List.length_nil, Nat.reduceAdd, Nat.zero_add, List.range, List.range.loop]
        repeat first
          | refine opsC_moveA hS rfl rfl (.inl rfl) ?_
          | refine opsC_moveA hS rfl rfl (.inr rfl) ?_
          | refine opsC_binA hS rfl rfl rfl rfl rfl rfl ?_
          | refine opsC_lenA hS rfl rfl rfl (by kernel_rfl) rfl ?_
          | (refine opsC_plain hS rfl rfl fun _ K hK => ?_; go_simp; refine hK _ (by simp [go_sem, events_cap_slice, events_slice_hi, *]) ?_; clear hK K; try walk_nrm)
        refine opsC_nil hS ?_
        show WpC _ _ _ _ _ _ _
        refine wpC_seq hS ?_
        refine wpC_cond (t := true) hS rfl ?_
        simp only [if_true, if_false, Bool.false_eq_true]
        refine wpC_skip hS ?_
        show WpC _ _ _ _ _ _ _
        refine wpC_seq hS ?_
        refine wpC_block hS ?_
        refine wpC_seq hS ?_
        refine wpC_region hS ?_
        simp only [List.size_toArray, List.length_cons, List.length_nil, Nat.reduceAdd, Nat.zero_add, List.range, List.range.loop]
        first
          | refine opsC_moveA hS rfl rfl (.inl rfl) ?_
          | refine opsC_moveA hS rfl rfl (.inr rfl) ?_
          | refine opsC_binA hS rfl rfl rfl rfl rfl rfl ?_
          | refine opsC_lenA hS rfl rfl rfl (by kernel_rfl) rfl ?_
          | (refine opsC_plain hS rfl rfl fun _ K hK => ?_; go_simp; refine hK _ (by simp [go_sem, events_cap_slice, events_slice_hi, *]) ?_; clear hK K; try walk_nrm)
        refine opsC_index4 (v := .int .i64 (l3 : Int)) hS rfl rfl rfl rfl rfl (by decide) rfl (by (with_reducible simp only [Act.put, Act.eval, Array.getD_eq_getD_getElem?, List.getElem?_toArray, List.getElem_toArray, List.getElem_cons_zero, List.getElem_cons_succ, List.getElem?_cons_zero, List.getElem?_cons_succ, Option.getD_some, List.setIfInBounds_toArray, List.set_cons_zero, List.set_cons_succ]); exact rfl) ?_
        repeat first
          | refine opsC_moveA hS rfl rfl (.inl rfl) ?_
          | refine opsC_moveA hS rfl rfl (.inr rfl) ?_
          | refine opsC_binA hS rfl rfl rfl rfl rfl rfl ?_
          | refine opsC_lenA hS rfl rfl rfl (by kernel_rfl) rfl ?_
          | (refine opsC_plain hS rfl rfl fun _ K hK => ?_; go_simp; refine hK _ (by simp [go_sem, events_cap_slice, events_slice_hi, *]) ?_; clear hK K; try walk_nrm)
        refine opsC_nil hS ?_
        show WpC _ _ _ _ _ _ _
        refine wpC_seq hS ?_
        refine wpC_seq hS ?_
        refine wpC_region hS ?_
        simp only [List.size_toArray, List.length_cons, List.length_nil, Nat.reduceAdd, Nat.zero_add, List.range, List.range.loop]
        repeat first
          | refine opsC_moveA hS rfl rfl (.inl rfl) ?_
          | refine opsC_moveA hS rfl rfl (.inr rfl) ?_
          | refine opsC_binA hS rfl rfl rfl rfl rfl rfl ?_
          | refine opsC_lenA hS rfl rfl rfl (by kernel_rfl) rfl ?_
          | (refine opsC_plain hS rfl rfl fun _ K hK => ?_; go_simp; refine hK _ (by simp [go_sem, events_cap_slice, events_slice_hi, *]) ?_; clear hK K; try walk_nrm)
        refine opsC_nil hS ?_
        show WpC _ _ _ _ _ _ _
        by_cases hz : l3 = 0
        · subst hz
          refine wpC_cond (t := true) hS rfl ?_
          simp only [if_true, if_false, Bool.false_eq_true]
          refine wpC_exit hS ?_
          show WpC _ _ _ _ _ _ _
          refine wpC_region hS ?_
          simp only [List.size_toArray, List.length_cons, List.length_nil, Nat.reduceAdd, Nat.zero_add, List.range, List.range.loop]
          repeat first
            | refine opsC_moveA hS rfl rfl (.inl rfl) ?_
            | refine opsC_moveA hS rfl rfl (.inr rfl) ?_
            | refine opsC_binA hS rfl rfl rfl rfl rfl rfl ?_
            | refine opsC_lenA hS rfl rfl rfl (by kernel_rfl) rfl ?_
            | (refine opsC_plain hS rfl rfl fun _ K hK => ?_; go_simp; refine hK _ (by simp [go_sem, events_cap_slice, events_slice_hi, *]) ?_; clear hK K; try walk_nrm)
          refine opsC_nil hS ?_
          show LoopC _ _ _ _ _ _ _
          refine hN _ _ _ ⟨⟨_, _, _, _, _, _, _, _, _, _, _, _, _, _, _, _, _, _, _, _, _, _, _, _, _, _, _, _, _, _, _, rfl⟩, hix.trans (congrArg (· ++ xs) (wrem_zero t b [l0, l1, l2, 0] 3 (by omega) rfl)), hup, hth⟩
        · have hz' : ((l3 : Int) == 0) = false := by simp; omega
          refine wpC_cond (t := false) hS (congrArg Value.bool hz') ?_
          simp only [if_true, if_false, Bool.false_eq_true]
          refine wpC_skip hS ?_
          show WpC _ _ _ _ _ _ _
          refine wpC_seq hS ?_
          refine wpC_region hS ?_
          simp only [List.size_toArray, List.length_cons, List.length_nil, Nat.reduceAdd, Nat.zero_add, List.range, List.range.loop]
          refine opsC_loadrow hS rfl rfl rfl (by kernel_rfl) (cs := #[.int .i64 (l0 : Int), .int .i64 (l1 : Int), .int .i64 (l2 : Int), .int .i64 (l3 : Int)]) info4 rfl (.inr (hup.up gb hm2)) ((hup.rl.keep gb (.inr hm2)).trans hcb) ?_
          obtain ⟨iA, hiA, hpA⟩ := Option.map_eq_some_iff.1 infoA
          simp only [Prod.mk.injEq] at hpA
          refine opsC_alloc hS rfl rfl rfl hiA hpA.1 fun wa ha => ?_
          refine opsC_storerow (old := #[.int .i64 0, .int .i64 0, .int .i64 0, .int .i64 0]) (cs := #[.int .i64 (l0 : Int), .int .i64 (l1 : Int), .int .i64 (l2 : Int), .int .i64 (l3 : Int)]) (g := wa.heap.size) (t := 63) hS rfl rfl rfl info4 rfl (one4 _ _ _ _) rfl rfl (.inr ⟨Nat.le_refl _, by rw [World.size_alloc]; exact Nat.lt_succ_self _⟩) (heap_alloc_new _ _) fun wb hb => ?_
          obtain ⟨gr, hgr⟩ : ∃ gr, gr = wa.heap.size := ⟨_, rfl⟩
          rw [← hgr]
          obtain ⟨w3, hw3⟩ : ∃ w3, w3 = wb.setRow gr #[.int .i64 (l0 : Int), .int .i64 (l1 : Int), .int .i64 (l2 : Int), .int .i64 (l3 : Int)] := ⟨_, rfl⟩
          rw [← hw3]
          have hgA : wa.grownBy (wa.alloc (.cells (Value.cells (.agg #[.int .i64 0, .int .i64 0, .int .i64 0, .int .i64 0])) 63)) none := World.grownBy_alloc _ _ _
          obtain ⟨wz, hwz⟩ : ∃ wz, wz = wa.alloc (.cells (Value.cells (.agg #[.int .i64 0, .int .i64 0, .int .i64 0, .int .i64 0])) 63) := ⟨_, rfl⟩
          have hcz : wz.heap[gr]? = some (.cells #[.int .i64 0, .int .i64 0, .int .i64 0, .int .i64 0] 63 (0, 0)) := by rw [hwz, hgr]; exact heap_alloc_new _ _
          have hsz : wa.heap.size < wz.heap.size := by rw [hwz, World.size_alloc]; exact Nat.lt_succ_self _
          rw [← hwz] at hb hgA ⊢
          have fw3 := (Fwd.refl Sh w M).grown ha hgA (fun k hk => by cases hk) hth
          have th3 := hth.grown ha hgA.size
          have mgr : grow M.2 wa wz gr := .inr ⟨by omega, by omega⟩
          obtain ⟨M3, hM3⟩ : ∃ M3, M3 = grow M.2 wa wz := ⟨_, rfl⟩
          rw [← hM3] at hb fw3 th3 mgr ⊢
          have hcb3 : wb.heap[gr]? = some (.cells #[.int .i64 0, .int .i64 0, .int .i64 0, .int .i64 0] 63 (0, 0)) := (hb.keep gr (.inr mgr)).trans hcz
          have hc3 : w3.heap[gr]? = some (.cells #[.int .i64 (l0 : Int), .int .i64 (l1 : Int), .int .i64 (l2 : Int), .int .i64 (l3 : Int)] 63 (0, 0)) := by rw [hw3]; exact setRow_heap _ _ _ _ _ _ hcb3
          have gs3 : wb.grownBy w3 (some gr) := by rw [hw3]; exact grownBy_setRow _ _ _
          have es3 : w3.heap.size = wb.heap.size := by rw [hw3]; simp [World.setRow]
          have ha' := ha.size
          have fw3' := fw3.grown hb gs3 (fun k hk => by cases hk; have := ha.size; omega) hth
          have th3' : There Sh w3 ((M.1, M3) : Gh (List (List Int))) := fun k hk => by have := th3 k hk; have := hb.size; omega
          rw [grow_self _ wb w3 es3] at fw3'
          clear hwz hw3 hM3 gs3 es3 hcb3 hsz hgA fw3 hcz hb ha th3
          refine opsC_nil hS ?_
          show WpC _ _ _ _ _ _ _
          refine wpC_seq hS ?_
          refine wpC_region hS ?_
          simp only [List.size_toArray, List.length_cons, List.length_nil, Nat.reduceAdd, Nat.zero_add, List.range, List.range.loop]
          first
            | refine opsC_moveA hS rfl rfl (.inl rfl) ?_
            | refine opsC_moveA hS rfl rfl (.inr rfl) ?_
            | refine opsC_binA hS rfl rfl rfl rfl rfl rfl ?_
            | refine opsC_lenA hS rfl rfl rfl (by kernel_rfl) rfl ?_
            | (refine opsC_plain hS rfl rfl fun _ K hK => ?_; go_simp; refine hK _ (by simp [go_sem, events_cap_slice, events_slice_hi, *]) ?_; clear hK K; try walk_nrm)
          refine opsC_indexP4 (g := gr) (j := 3) hS rfl rfl rfl rfl rfl rfl (by omega) (by (with_reducible simp only [Act.put, Act.eval, Array.getD_eq_getD_getElem?, List.getElem?_toArray, List.getElem_toArray, List.getElem_cons_zero, List.getElem_cons_succ, List.getElem?_cons_zero, List.getElem?_cons_succ, Option.getD_some, List.setIfInBounds_toArray, List.set_cons_zero, List.set_cons_succ]); exact rfl) ?_
          refine opsC_load (ad := ⟨gr, 3, none⟩) (v := .int .i64 (l3 : Int)) hS rfl rfl rfl (by kernel_rfl) rfl (.inr mgr) (by rw [cell_of_row w3 gr 3 _ _ _ hc3]; rfl) ?_
          have ew : IntKind.i64.wrap ((l3 : Int) - 1) = ((l3 - 1 : Nat) : Int) := by
            have : l3 ≤ 100 := by simp at hsum; omega
            rw [IntKind.wrap_i64]; omega
          first
            | refine opsC_moveA hS rfl rfl (.inl rfl) ?_
            | refine opsC_moveA hS rfl rfl (.inr rfl) ?_
            | refine opsC_binA hS rfl rfl rfl rfl rfl rfl ?_
            | refine opsC_lenA hS rfl rfl rfl (by kernel_rfl) rfl ?_
            | (refine opsC_plain hS rfl rfl fun _ K hK => ?_; go_simp; refine hK _ (by simp [go_sem, events_cap_slice, events_slice_hi, *]) ?_; clear hK K; try walk_nrm)
          rw [ew]
          refine opsC_indexP4 (g := gr) (j := 3) hS rfl rfl rfl rfl rfl rfl (by omega) (by (with_reducible simp only [Act.put, Act.eval, Array.getD_eq_getD_getElem?, List.getElem?_toArray, List.getElem_toArray, List.getElem_cons_zero, List.getElem_cons_succ, List.getElem?_cons_zero, List.getElem?_cons_succ, Option.getD_some, List.setIfInBounds_toArray, List.set_cons_zero, List.set_cons_succ]); exact rfl) ?_
          refine opsC_store (ad := ⟨gr, 3, none⟩) (v := .int .i64 ((l3 - 1 : Nat) : Int)) (u := .int .i64 (l3 : Int)) hS rfl rfl rfl (by kernel_rfl) rfl rfl rfl rfl mgr (by rw [cell_of_row w3 gr 3 _ _ _ hc3]; rfl) (by simp [World.frozen?, hc3]) fun wc hc => ?_
          obtain ⟨w4, hw4⟩ : ∃ w4, w4 = wc.setCell ⟨gr, 3, none⟩ (.int .i64 ((l3 - 1 : Nat) : Int)) := ⟨_, rfl⟩
          rw [← hw4]
          have hcc : wc.heap[gr]? = some (.cells #[.int .i64 (l0 : Int), .int .i64 (l1 : Int), .int .i64 (l2 : Int), .int .i64 (l3 : Int)] 63 (0, 0)) := (hc.keep gr (.inr mgr)).trans hc3
          have hc4 : w4.heap[gr]? = some (.cells (cellsOf [l0, l1, l2, l3 - 1]) 63 (0, 0)) := by
            rw [hw4, setCell_eq_setRow wc gr 3 _ _ _ _ hcc]
            exact setRow_heap _ _ _ _ _ _ hcc
          have gs4 : wc.grownBy w4 (some gr) := by rw [hw4]; exact grownBy_setCell _ _ _
          have es4 : w4.heap.size = wc.heap.size := by rw [hw4]; exact setCell_size _ _ _
          have hgw : w.heap.size ≤ gr := by have := ha'; omega
          have fw4 := fw3'.grown hc gs4 (fun k hk => by cases hk; exact hgw) hth
          have th4 : There Sh w4 ((M.1, M3) : Gh (List (List Int))) := fun k hk => by have := th3' k hk; have := hc.size; omega
          rw [grow_self _ wc w4 es4] at fw4
          clear hw4 gs4 es4 hcc hc
          refine opsC_nil hS ?_
          show WpC _ _ _ _ _ _ _
          have ex : M.1 = wgo t (b ++ [(3 : Int)]) [l0, l1, l2, l3 - 1] ++ (wrem t b [l0, l1, l2, l3] (3 + 1) ++ xs) := by
            rw [hix, wrem_pos t b [l0, l1, l2, l3] 3 (by omega) hz, List.append_assoc]
            rfl
          rw [ex] at fw4 th4 ⊢
          have ow4 := (hu.up (up2.trans hup)).up fw4.to_up
          refine reg9 (u := u) (b := b) (x := 3) (gr := gr) (L' := [l0, l1, l2, l3 - 1]) (by have := hup.rl.size; have := up2.rl.size; have := fw4.rl.size; omega) th4 ⟨rfl, ⟨_, rfl, rfl, rfl, rfl⟩, ⟨_, rfl, rfl, rfl, rfl⟩, ⟨_, rfl, rfl, rfl, rfl⟩, ⟨_, rfl, rfl, rfl, rfl, ?_⟩, ⟨_, rfl, rfl, rfl, rfl, ?_, ?_⟩, ⟨_, rfl, rfl, rfl, rfl, ?_⟩, ⟨_, rfl, rfl, rfl, rfl⟩, ⟨_, rfl, rfl, ⟨_, rfl⟩, ?_, ?_, ?_, ?_⟩⟩ (by omega) rfl ?_ (fun wq Mq uq hBq htq huq => ih t rfl (b ++ [(3 : Int)]) [l0, l1, l2, l3 - 1] uq wq Mq _ rfl (by simp at hsum ⊢; omega) (by simp; omega) hSh hBq htq huq) rfl rfl rfl rfl rfl rfl ow4 mgr hc4 ?_
          · first | exact ⟨_, Array.mem_of_getElem? (i := 0) rfl, rfl, rfl⟩ | exact ⟨_, Array.mem_of_getElem? (i := 1) rfl, rfl, rfl⟩ | exact ⟨_, Array.mem_of_getElem? (i := 2) rfl, rfl, rfl⟩ | exact ⟨_, Array.mem_of_getElem? (i := 3) rfl, rfl, rfl⟩
          · first | exact ⟨_, Array.mem_of_getElem? (i := 0) rfl, rfl, rfl⟩ | exact ⟨_, Array.mem_of_getElem? (i := 1) rfl, rfl, rfl⟩ | exact ⟨_, Array.mem_of_getElem? (i := 2) rfl, rfl, rfl⟩ | exact ⟨_, Array.mem_of_getElem? (i := 3) rfl, rfl, rfl⟩
          · first | exact ⟨_, Array.mem_of_getElem? (i := 0) rfl, rfl, rfl⟩ | exact ⟨_, Array.mem_of_getElem? (i := 1) rfl, rfl, rfl⟩ | exact ⟨_, Array.mem_of_getElem? (i := 2) rfl, rfl, rfl⟩ | exact ⟨_, Array.mem_of_getElem? (i := 3) rfl, rfl, rfl⟩
          · first | exact ⟨_, Array.mem_of_getElem? (i := 0) rfl, rfl, rfl⟩ | exact ⟨_, Array.mem_of_getElem? (i := 1) rfl, rfl, rfl⟩ | exact ⟨_, Array.mem_of_getElem? (i := 2) rfl, rfl, rfl⟩ | exact ⟨_, Array.mem_of_getElem? (i := 3) rfl, rfl, rfl⟩
          · first | exact ⟨_, Array.mem_of_getElem? (i := 0) rfl, rfl, rfl⟩ | exact ⟨_, Array.mem_of_getElem? (i := 1) rfl, rfl, rfl⟩ | exact ⟨_, Array.mem_of_getElem? (i := 2) rfl, rfl, rfl⟩ | exact ⟨_, Array.mem_of_getElem? (i := 3) rfl, rfl, rfl⟩
          · first | exact ⟨_, Array.mem_of_getElem? (i := 0) rfl, rfl, rfl⟩ | exact ⟨_, Array.mem_of_getElem? (i := 1) rfl, rfl, rfl⟩ | exact ⟨_, Array.mem_of_getElem? (i := 2) rfl, rfl, rfl⟩ | exact ⟨_, Array.mem_of_getElem? (i := 3) rfl, rfl, rfl⟩
          · first | exact ⟨_, Array.mem_of_getElem? (i := 0) rfl, rfl, rfl⟩ | exact ⟨_, Array.mem_of_getElem? (i := 1) rfl, rfl, rfl⟩ | exact ⟨_, Array.mem_of_getElem? (i := 2) rfl, rfl, rfl⟩ | exact ⟨_, Array.mem_of_getElem? (i := 3) rfl, rfl, rfl⟩
          · first | exact .inl rfl | exact .inr rfl
          · intro L hL
            obtain ⟨b0, b1, b2, b3, b4, b5, b6, b7, rfl⟩ := arr8 hL
            clear hL
            revert b0 b1 b2 b3 b4 b5 b6 b7
            exact of_decide_eq_true (by kernel_rfl)
          · intro a w' M' hsz hdf heq hix' hup' hrl hth'
            obtain ⟨tm, df⟩ := a
            simp only at hsz hdf
            subst hdf
            obtain ⟨y0, y1, y2, y3, y4, y5, y6, y7, y8, y9, y10, y11, y12, y13, y14, y15, y16, y17, y18, y19, y20, y21, y22, y23, y24, y25, y26, y27, y28, y29, y30, y31, y32, y33, y34, y35, rfl⟩ := arr36 hsz
            have q0 : y0 = .chan (some c) := heq 0 (by omega)
            have q1 : y1 = u := heq 1 (by omega)
            have q5 : y5 = .pointer (some ⟨gb, 0, none⟩) := heq 5 (by omega)
            have q14 : y14 = .agg #[.int .i64 (l0 : Int), .int .i64 (l1 : Int), .int .i64 (l2 : Int), .int .i64 (l3 : Int)] := heq 14 (by omega)
            have q15 : y15 = .int .i64 3 := heq 15 (by omega)
            clear heq
            subst q0 q1 q5 q14 q15
            show WpC _ _ _ _ _ _ _
            refine wpC_region hS ?_
            simp only [List.size_toArray, List.length_cons, List.length_nil, Nat.reduceAdd, Nat.zero_add, List.range, List.range.loop]
            repeat first
              | refine opsC_moveA hS rfl rfl (.inl rfl) ?_
              | refine opsC_moveA hS rfl rfl (.inr rfl) ?_
              | refine opsC_binA hS rfl rfl rfl rfl rfl rfl ?_
              | refine opsC_lenA hS rfl rfl rfl (by kernel_rfl) rfl ?_
              | (refine opsC_plain hS rfl rfl fun _ K hK => ?_; go_simp; refine hK _ (by simp [go_sem, events_cap_slice, events_slice_hi, *]) ?_; clear hK K; try walk_nrm)
            refine opsC_nil hS ?_
            show LoopC _ _ _ _ _ _ _
            exact hN _ _ _ ⟨⟨_, _, _, _, _, _, _, _, _, _, _, _, _, _, _, _, _, _, _, _, _, _, _, _, _, _, _, _, _, _, _, rfl⟩, hix', ⟨fun k hk => hup' k (fw4.up k (hup.up k hk)), hup.rl.trans ((fw4.rl.trans (hrl.mono fw4.up)).mono hup.up)⟩, hth'⟩
    · intro a w M hI
      obtain ⟨⟨x2, x3, x4, x6, x7, x8, x9, x10, x11, x12, x13, x16, x17, x18, x19, x20, x21, x22, x23, x24, x25, x26, x27, x28, x29, x30, x31, x32, x33, x34, x35, rfl⟩, hix, hup, hth⟩ := hI
      refine loopC_round hS ?_
      refine wpC_seq hS ?_
      refine wpC_region hS ?_
      simp only [List.size_toArray, List.length_cons, List.length_nil, Nat.reduceAdd, Nat.zero_add, List.range, List.range.loop]
      repeat first
        | refine opsC_moveA hS rfl rfl (.inl rfl) ?_
        | refine opsC_moveA hS rfl rfl (.inr rfl) ?_
        | refine opsC_binA hS rfl rfl rfl rfl rfl rfl ?_
        | refine opsC_lenA hS rfl rfl rfl (by kernel_rfl) rfl ?_
        | (refine opsC_plain hS rfl rfl fun _ K hK => ?_; go_simp; refine hK _ (by simp [go_sem, events_cap_slice, events_slice_hi, *]) ?_; clear hK K; try walk_nrm)
      refine opsC_nil hS ?_
      show WpC _ _ _ _ _ _ _
      refine wpC_seq hS ?_
      refine wpC_cond (t := false) hS rfl ?_
      simp only [if_true, if_false, Bool.false_eq_true]
      refine wpC_exit hS ?_
      show _ ∧ _
      refine ⟨rfl, _, resultsC_none rfl _, hix, fun k hk _ => hup.up k (up2.up k hk), (up2.trans hup).rl.mono fun k hk => hk.1, hth⟩

theorem send_all {c B : Nat} {Sh : Nat → Prop} : ∀ t, SendOK c B Sh t
  | 0 => send_step 0 fun t' e => by omega
  | t + 1 => send_step (t + 1) fun t' e => by
    have h := send_all (c := c) (B := B) (Sh := Sh) t
    have e' : t = t' := by omega
    exact e' ▸ h

end Go.Proofs.Ytjphaphnmclbcaa
