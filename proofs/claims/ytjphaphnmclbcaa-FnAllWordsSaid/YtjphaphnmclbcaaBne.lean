/- Texts of this claim put into one: GrK, CtK, ChW, ChS, ChT, App2, OwnL, MirC, MirF, FinAll. -/
import Derived.Test.YtjphaphnmclbcaaBnd
import Derived.KernelRfl
import Derived.Orders
import Derived.Conc.PipeGen
import Derived.Conc.TokenWalk
import Derived.Laws.AppendOwn
/- slices.Grow of nothing, for one of the two goroutines under way. No condition. -/
namespace Go.Proofs.Ytjphaphnmclbcaa
open Go Go.Conc Go.RowKit

/-- What is made in company: the value u owns the numbers ys, in blocks of one's own that are new. -/
structure MadeC (Sh : Nat → Prop) {ι : Type} (w : World) (M : Gh ι) (ys : List Int) (u : Value) (w' : World) (M' : Gh ι) : Prop where
  fwd : Fwd Sh w M w' M'
  own : Own w' w.heap.size u ys
  mine : ∀ k, u.ownBlock = some k → M'.2 k
  there : There Sh w' M'

set_option linter.unusedSimpArgs false in
set_option maxHeartbeats 2000000 in
theorem growC {main : Bool} {Sh : Nat → Prop} {ι : Type} {C : Gh ι → Goroutine → World → Prop} (hS : Fam Try.prog main Sh C) (n : Nat) (h0 : 0 < n) (hn : n ≤ 2000) (w : World) (M : Gh ι) (hM : There Sh w M) :
    CallsC Try.prog C 112 #[.slice none 0 0, .int .i64 n] w M (MadeC Sh w M []) := by
  have h1 : ¬ (n : Int) < 0 := by omega
  have h2 : 0 < (n : Int) := by omega
  refine callsC_of_wpC hS Try.func112 rfl ?_
  simp only [Try.ntmps112, List.size_toArray, List.length_cons, List.length_nil, Nat.reduceAdd, Nat.reduceSub, Array.replicate_succ,
     Array.replicate_zero, List.push_toArray, List.append_toArray, List.nil_append, List.cons_append]
  refine wpC_seq hS ?_
  refine wpC_region hS ?_
  simp only [List.size_toArray, List.length_cons, List.length_nil, Nat.reduceAdd, Nat.zero_add, List.range, List.range.loop]
  repeat first
    | refine opsC_moveA hS rfl rfl (.inl rfl) ?_
    | refine opsC_moveA hS rfl rfl (.inr rfl) ?_
    | refine opsC_binA hS rfl rfl rfl rfl rfl rfl ?_
    | refine opsC_lenA hS rfl rfl rfl (by kernel_rfl) rfl ?_
    | (refine opsC_plain hS rfl rfl fun _ K hK => ?_; go_simp; refine hK _ (by simp [go_sem, events_cap_slice, events_slice_hi, *]) ?_; clear hK K; try walk_nrm)
  refine opsC_nil hS ?_
  show WpC _ _ _ _ _ _ _
  refine wpC_seq hS ?_
  refine wpC_seq hS ?_
  refine wpC_region hS ?_
  simp only [List.size_toArray, List.length_cons, List.length_nil, Nat.reduceAdd, Nat.zero_add, List.range, List.range.loop]
  repeat first
    | refine opsC_moveA hS rfl rfl (.inl rfl) ?_
    | refine opsC_moveA hS rfl rfl (.inr rfl) ?_
    | refine opsC_binA hS rfl rfl rfl rfl rfl rfl ?_
    | refine opsC_lenA hS rfl rfl rfl (by kernel_rfl) rfl ?_
    | (refine opsC_plain hS rfl rfl fun _ K hK => ?_; go_simp; refine hK _ (by simp [go_sem, events_cap_slice, events_slice_hi, *]) ?_; clear hK K; try walk_nrm)
  refine opsC_nil hS ?_
  show WpC _ _ _ _ _ _ _
  refine wpC_cond hS rfl ?_
  simp only [h1, decide_false, Bool.false_eq_true, if_false]
  refine wpC_skip hS ?_
  show WpC _ _ _ _ _ _ _
  refine wpC_seq hS ?_
  refine wpC_seq hS ?_
  refine wpC_region hS ?_
  simp only [List.size_toArray, List.length_cons, List.length_nil, Nat.reduceAdd, Nat.zero_add, List.range, List.range.loop]
  repeat (refine opsC_plain hS rfl rfl fun _ K hK => ?_; go_simp; refine hK _ (by simp [go_sem, events_cap_slice, events_slice_hi, *]) ?_; clear hK K; try walk_nrm)
  refine opsC_nil hS ?_
  show WpC _ _ _ _ _ _ _
  have ew : IntKind.i64.wrap ((n : Int) - IntKind.i64.wrap 0) = n := by
    have : IntKind.i64.wrap 0 = 0 := by decide
    rw [this, Int.sub_zero, IntKind.wrap_i64]; omega
  simp only [ew]
  refine wpC_seq hS ?_
  refine wpC_region hS ?_
  simp only [List.size_toArray, List.length_cons, List.length_nil, Nat.reduceAdd, Nat.zero_add, List.range, List.range.loop]
  repeat first
    | refine opsC_moveA hS rfl rfl (.inl rfl) ?_
    | refine opsC_moveA hS rfl rfl (.inr rfl) ?_
    | refine opsC_binA hS rfl rfl rfl rfl rfl rfl ?_
    | refine opsC_lenA hS rfl rfl rfl (by kernel_rfl) rfl ?_
    | (refine opsC_plain hS rfl rfl fun _ K hK => ?_; go_simp; refine hK _ (by simp [go_sem, events_cap_slice, events_slice_hi, *]) ?_; clear hK K; try walk_nrm)
  refine opsC_nil hS ?_
  show WpC _ _ _ _ _ _ _
  refine wpC_cond hS rfl ?_
  simp only [h2, decide_true, if_true]
  refine wpC_region hS ?_
  simp only [List.size_toArray, List.length_cons, List.length_nil, Nat.reduceAdd, Nat.zero_add, List.range, List.range.loop]
  repeat first
    | refine opsC_moveA hS rfl rfl (.inl rfl) ?_
    | refine opsC_moveA hS rfl rfl (.inr rfl) ?_
    | refine opsC_binA hS rfl rfl rfl rfl rfl rfl ?_
    | refine opsC_lenA hS rfl rfl rfl (by kernel_rfl) rfl ?_
    | (refine opsC_plain hS rfl rfl fun _ K hK => ?_; go_simp; refine hK _ (by simp [go_sem, events_cap_slice, events_slice_hi, *]) ?_; clear hK K; try walk_nrm)
  obtain ⟨i0, hi, hz0, hz1, hz2⟩ := info_parts infoI
  refine opsC_appzeros hS rfl rfl _ _ 23 3 rfl 3 i0 (.int .i64 0) .i64 .i64 Try.underlying23 Try.underlying3 hi hz0 hz1 (by rw [hz2]; decide) n h0 (by omega) rfl rfl ?_
  intro w₁ c w' h₁ hc hc63 hw'
  have hg : w₁.grownBy w' none := by rw [hw']; exact grownBy_drew (World.grownBy_alloc _ _ _)
  have hsz : w₁.heap.size < w'.heap.size := by rw [hw', World.size_alloc]; exact Nat.lt_succ_self _
  have hf : Fwd Sh w M w' ((M.1, grow M.2 w₁ w') : Gh ι) := (Fwd.refl Sh w M).grown h₁ hg (fun k hk => by cases hk) hM
  have ho : Own w' w.heap.size (.slice (some ⟨w₁.heap.size, 0, none⟩) 0 c) [] := by
    refine ⟨rfl, Or.inr ⟨w₁.heap.size, c, _, rfl, h₁.size, by rw [hw']; exact heap_alloc_new w₁.drew _, Nat.zero_le _, by unfold maxLen; omega, ?_, rfl⟩⟩
    simp [Builtin.zeroCells, Value.cells]
    omega
  have hm : grow M.2 w₁ w' w₁.heap.size := .inr ⟨Nat.le_refl _, hsz⟩
  clear hw' hg
  repeat first
    | refine opsC_moveA hS rfl rfl (.inl rfl) ?_
    | refine opsC_moveA hS rfl rfl (.inr rfl) ?_
    | refine opsC_binA hS rfl rfl rfl rfl rfl rfl ?_
    | refine opsC_lenA hS rfl rfl rfl (by kernel_rfl) rfl ?_
    | (refine opsC_plain hS rfl rfl fun _ K hK => ?_; go_simp; refine hK _ (by simp [go_sem, events_cap_slice, events_slice_hi, *]) ?_; clear hK K; try walk_nrm)
  refine opsC_nil hS ?_
  show WpC _ _ _ _ _ _ _
  refine wpC_seq hS ?_
  refine wpC_region hS ?_
  simp only [List.size_toArray, List.length_cons, List.length_nil, Nat.reduceAdd, Nat.zero_add, List.range, List.range.loop]
  repeat first
    | refine opsC_moveA hS rfl rfl (.inl rfl) ?_
    | refine opsC_moveA hS rfl rfl (.inr rfl) ?_
    | refine opsC_binA hS rfl rfl rfl rfl rfl rfl ?_
    | refine opsC_lenA hS rfl rfl rfl (by kernel_rfl) rfl ?_
    | (refine opsC_plain hS rfl rfl fun _ K hK => ?_; go_simp; refine hK _ (by simp [go_sem, events_cap_slice, events_slice_hi, *]) ?_; clear hK K; try walk_nrm)
  refine opsC_nil hS ?_
  show WpC _ _ _ _ _ _ _
  refine wpC_ret hS ⟨rfl, _, resultsC_tmp rfl _, ?_⟩
  exact ⟨hf, ho, fun k hk => by cases hk; exact hm, hM.grown h₁ (Nat.le_of_lt hsz)⟩

end Go.Proofs.Ytjphaphnmclbcaa

/- slices.Concat of two lists, for one of the two goroutines under way. No condition. -/
namespace Go.Proofs.Ytjphaphnmclbcaa
open Go Go.Conc Go.RowKit

/-- A list of one's own or shared that can be read. -/
structure SlC (Sh : Nat → Prop) {ι : Type} (w : World) (M : Gh ι) (ad : Addr) (n : Nat) (xs : List Int) : Prop where
  len : xs.length = n
  at_ : Sh ad.block ∨ M.2 ad.block
  cell : ∀ j u, (xs.map (Value.int .i64))[j]? = some u → w.cell? (ad.add j) = some u
theorem SlC.fwd {Sh : Nat → Prop} {ι : Type} {w w' : World} {M M' : Gh ι} {ad : Addr} {n : Nat} {xs : List Int} (h : SlC Sh w M ad n xs) (hf : Fwd Sh w M w' M') : SlC Sh w' M' ad n xs :=
  ⟨h.len, h.at_.imp id (hf.up _), fun j u hj => (cell_eq (by rw [addBlock]; exact hf.rl.keep _ h.at_)).trans (h.cell j u hj)⟩
theorem SlC.rely {Sh : Nat → Prop} {ι : Type} {w w₁ : World} {M : Gh ι} {ad : Addr} {n : Nat} {xs : List Int} (h : SlC Sh w M ad n xs) (hr : Rl Sh M.2 w w₁) : SlC Sh w₁ M ad n xs :=
  ⟨h.len, h.at_, fun j u hj => (cell_eq (by rw [addBlock]; exact hr.keep _ h.at_)).trans (h.cell j u hj)⟩

theorem Fwd.cell {Sh : Nat → Prop} {ι : Type} {w w' : World} {M M' : Gh ι} (hf : Fwd Sh w M w' M') {ad : Addr} (h : Sh ad.block ∨ M.2 ad.block) : w'.cell? ad = w.cell? ad := cell_eq (hf.rl.keep _ h)

/-- append(out, list...), out made in company. -/
theorem opsC_app_made {main : Bool} {Sh : Nat → Prop} {ι : Type} {C : Gh ι → Goroutine → World → Prop} {fn : FuncId} {Q : Exit → Act → World → Gh ι → Prop} {a : Act} {w w0 : World} {M M0 : Gh ι} (hS : Fam Try.prog main Sh C)
    {ops : Array Oper} {i : Nat} {rest : List Nat} {o : Oper} (ho : ops[i]? = some o) (hw : Region.wanted o (yielded ops a.tmps) = true) (s x : Operand)
    (hop : o.op = .call { callee := .builtin .append, args := #[s, x], argTypes := #[23, 23] }) (hM0 : There Sh w0 M0) {ys zs : List Int} {u : Value} (m : MadeC Sh w0 M0 ys u w M) (hs : a.eval s = u) {A : Addr} {n c : Nat} (hx : a.eval x = .slice (some A) n c)
    (hl : SlC Sh w M A n zs) (hlen : ys.length + n ≤ 2000000) (h : ∀ u' w' M', MadeC Sh w0 M0 (ys ++ zs) u' w' M' → OpsC C fn ops rest Q (a.put o.dst u') w' M') : OpsC C fn ops (i :: rest) Q a w M := by
  obtain ⟨i0, hi, hz0, hz1, hz2⟩ := info_parts infoI
  refine opsC_append hS ho hw s x 23 hop w0.heap.size 3 i0 (.int .i64 0) Try.underlying23 hi hz0 hz1 (by rw [hz2]; decide) rfl u ys.length (ys.map (Value.int .i64)) hs m.own m.mine A n c (zs.map (Value.int .i64)) hx hl.at_
    (by rw [List.length_map]; exact hl.len) hl.cell (by intro v hv; obtain ⟨_, _, rfl⟩ := List.mem_map.1 hv; rfl) hlen m.fwd.rl.size ?_
  intro w₁ u' w' h₁ hown hk hg hm
  refine h u' w' _ ⟨m.fwd.grown h₁ hg (fun k hk => (World.ownsRow.lt m.own k hk).1) hM0, ?_, hm, m.there.grown h₁ hg.size⟩
  unfold Own
  rw [List.length_append, List.map_append, hl.len]
  exact hown

set_option linter.unusedSimpArgs false in
set_option maxHeartbeats 4000000 in
theorem concatC {main : Bool} {Sh : Nat → Prop} {ι : Type} {C : Gh ι → Goroutine → World → Prop} (hS : Fam Try.prog main Sh C) (w : World) (M : Gh ι) (hM : There Sh w M) (g : Nat) (hg : M.2 g) (A1 A2 : Addr) (n1 n2 c1 c2 : Nat) (xs ys : List Int)
    (hc1 : w.cell? ⟨g, 0, none⟩ = some (.slice (some A1) n1 c1)) (hc2 : w.cell? ⟨g, 1, none⟩ = some (.slice (some A2) n2 c2)) (h1 : SlC Sh w M A1 n1 xs) (h2 : SlC Sh w M A2 n2 ys) (hn1 : n1 ≤ 100) (hn2 : 0 < n2) (hn3 : n2 ≤ 100) :
    CallsC Try.prog C 111 #[.slice (some ⟨g, 0, none⟩) 2 2] w M (MadeC Sh w M (xs ++ ys)) := by
  refine callsC_of_wpC hS Try.func111 rfl ?_
  simp only [Try.ntmps111, List.size_toArray, List.length_cons, List.length_nil, Nat.reduceAdd, Nat.reduceSub, Array.replicate_succ,
     Array.replicate_zero, List.push_toArray, List.append_toArray, List.nil_append, List.cons_append]
  refine wpC_seq hS ?_
  refine wpC_region hS ?_
  simp only [List.size_toArray, List.length_cons, List.length_nil, Nat.reduceAdd, Nat.zero_add, List.range, List.range.loop]
  repeat first
    | refine opsC_moveA hS rfl rfl (.inl rfl) ?_
    | refine opsC_moveA hS rfl rfl (.inr rfl) ?_
    | refine opsC_binA hS rfl rfl rfl rfl rfl rfl ?_
    | refine opsC_lenA hS rfl rfl rfl (by kernel_rfl) rfl ?_
    | (refine opsC_plain hS rfl rfl fun _ K hK => ?_; go_simp; refine hK _ (by simp [go_sem, events_cap_slice, events_slice_hi, *]) ?_; clear hK K; try walk_nrm)
  refine opsC_nil hS ?_
  show WpC _ _ _ _ _ _ _
  refine wpC_seq hS ?_
  refine wpC_region hS ?_
  simp only [List.size_toArray, List.length_cons, List.length_nil, Nat.reduceAdd, Nat.zero_add, List.range, List.range.loop]
  repeat first
    | refine opsC_moveA hS rfl rfl (.inl rfl) ?_
    | refine opsC_moveA hS rfl rfl (.inr rfl) ?_
    | refine opsC_binA hS rfl rfl rfl rfl rfl rfl ?_
    | refine opsC_lenA hS rfl rfl rfl (by kernel_rfl) rfl ?_
    | (refine opsC_plain hS rfl rfl fun _ K hK => ?_; go_simp; refine hK _ (by simp [go_sem, events_cap_slice, events_slice_hi, *]) ?_; clear hK K; try walk_nrm)
  refine opsC_nil hS ?_
  show WpC _ _ _ _ _ _ _
  refine wpC_seq hS ?_
  refine wpC_seq hS ?_
  refine wpC_region hS ?_
  simp only [List.size_toArray, List.length_cons, List.length_nil, Nat.reduceAdd, Nat.zero_add, List.range, List.range.loop]
  repeat first
    | refine opsC_moveA hS rfl rfl (.inl rfl) ?_
    | refine opsC_moveA hS rfl rfl (.inr rfl) ?_
    | refine opsC_binA hS rfl rfl rfl rfl rfl rfl ?_
    | refine opsC_lenA hS rfl rfl rfl (by kernel_rfl) rfl ?_
    | (refine opsC_plain hS rfl rfl fun _ K hK => ?_; go_simp; refine hK _ (by simp [go_sem, events_cap_slice, events_slice_hi, *]) ?_; clear hK K; try walk_nrm)
  refine opsC_nil hS ?_
  show WpC _ _ _ _ _ _ _
  refine wpC_block hS ?_
  refine wpC_loop_of hS ?_
  have e1 : IntKind.i64.wrap (0 + (n1 : Int)) = n1 := by rw [IntKind.wrap_i64]; omega
  have e2 : IntKind.i64.wrap ((n1 : Int) + n2) = ((n1 + n2 : Nat) : Int) := by rw [IntKind.wrap_i64]; omega
  have w1 : IntKind.i64.wrap (0 + 1) = 1 := by decide
  have w3 : IntKind.i64.wrap 1 = 1 := by decide
  have w4 : IntKind.i64.wrap 2 = 2 := by decide
  have w2 : IntKind.i64.wrap (1 + 1) = 2 := by decide
  have l1 : ¬ ((n1 : Int) < 0) := by omega
  have l2 : ¬ (((n1 + n2 : Nat) : Int) < 0) := by omega
  refine loopC_round hS ?_
  refine wpC_seq hS ?_
  refine wpC_region hS ?_
  simp only [List.size_toArray, List.length_cons, List.length_nil, Nat.reduceAdd, Nat.zero_add, List.range, List.range.loop]
  repeat first
    | refine opsC_moveA hS rfl rfl (.inl rfl) ?_
    | refine opsC_moveA hS rfl rfl (.inr rfl) ?_
    | refine opsC_binA hS rfl rfl rfl rfl rfl rfl ?_
    | refine opsC_lenA hS rfl rfl rfl (by kernel_rfl) rfl ?_
    | (refine opsC_plain hS rfl rfl fun _ K hK => ?_; go_simp; refine hK _ (by simp [go_sem, events_cap_slice, events_slice_hi, *]) ?_; clear hK K; try walk_nrm)
  refine opsC_nil hS ?_
  show WpC _ _ _ _ _ _ _
  refine wpC_seq hS ?_
  refine wpC_cond (t := true) hS (by first | rfl | simp [*]) ?_
  simp only [if_true, if_false, Bool.false_eq_true]
  refine wpC_skip hS ?_
  show WpC _ _ _ _ _ _ _
  refine wpC_seq hS ?_
  refine wpC_block hS ?_
  refine wpC_seq hS ?_
  refine wpC_region hS ?_
  simp only [List.size_toArray, List.length_cons, List.length_nil, Nat.reduceAdd, Nat.zero_add, List.range, List.range.loop]
  (refine opsC_plain hS rfl rfl fun _ K hK => ?_; go_simp; refine hK _ (by simp [go_sem, events_cap_slice, events_slice_hi, *]) ?_; clear hK K; try walk_nrm)
  refine opsC_load hS rfl rfl rfl (by kernel_rfl) rfl (.inr hg) (hc1) ?_
  repeat first
    | refine opsC_moveA hS rfl rfl (.inl rfl) ?_
    | refine opsC_moveA hS rfl rfl (.inr rfl) ?_
    | refine opsC_binA hS rfl rfl rfl rfl rfl rfl ?_
    | refine opsC_lenA hS rfl rfl rfl (by kernel_rfl) rfl ?_
    | (refine opsC_plain hS rfl rfl fun _ K hK => ?_; go_simp; refine hK _ (by simp [go_sem, events_cap_slice, events_slice_hi, *]) ?_; clear hK K; try walk_nrm)
  refine opsC_nil hS ?_
  show WpC _ _ _ _ _ _ _
  refine wpC_seq hS ?_
  refine wpC_region hS ?_
  simp only [List.size_toArray, List.length_cons, List.length_nil, Nat.reduceAdd, Nat.zero_add, List.range, List.range.loop]
  repeat first
    | refine opsC_moveA hS rfl rfl (.inl rfl) ?_
    | refine opsC_moveA hS rfl rfl (.inr rfl) ?_
    | refine opsC_binA hS rfl rfl rfl rfl rfl rfl ?_
    | refine opsC_lenA hS rfl rfl rfl (by kernel_rfl) rfl ?_
    | (refine opsC_plain hS rfl rfl fun _ K hK => ?_; go_simp; refine hK _ (by simp [go_sem, events_cap_slice, events_slice_hi, *]) ?_; clear hK K; try walk_nrm)
  refine opsC_nil hS ?_
  show WpC _ _ _ _ _ _ _
  try simp only [e1]
  refine wpC_seq hS ?_
  refine wpC_region hS ?_
  simp only [List.size_toArray, List.length_cons, List.length_nil, Nat.reduceAdd, Nat.zero_add, List.range, List.range.loop]
  repeat first
    | refine opsC_moveA hS rfl rfl (.inl rfl) ?_
    | refine opsC_moveA hS rfl rfl (.inr rfl) ?_
    | refine opsC_binA hS rfl rfl rfl rfl rfl rfl ?_
    | refine opsC_lenA hS rfl rfl rfl (by kernel_rfl) rfl ?_
    | (refine opsC_plain hS rfl rfl fun _ K hK => ?_; go_simp; refine hK _ (by simp [go_sem, events_cap_slice, events_slice_hi, *]) ?_; clear hK K; try walk_nrm)
  refine opsC_nil hS ?_
  show WpC _ _ _ _ _ _ _
  refine wpC_cond (t := false) hS (by first | rfl | simp [*]) ?_
  simp only [if_true, if_false, Bool.false_eq_true]
  refine wpC_skip hS ?_
  show WpC _ _ _ _ _ _ _
  refine wpC_region hS ?_
  simp only [List.size_toArray, List.length_cons, List.length_nil, Nat.reduceAdd, Nat.zero_add, List.range, List.range.loop]
  repeat first
    | refine opsC_moveA hS rfl rfl (.inl rfl) ?_
    | refine opsC_moveA hS rfl rfl (.inr rfl) ?_
    | refine opsC_binA hS rfl rfl rfl rfl rfl rfl ?_
    | refine opsC_lenA hS rfl rfl rfl (by kernel_rfl) rfl ?_
    | (refine opsC_plain hS rfl rfl fun _ K hK => ?_; go_simp; refine hK _ (by simp [go_sem, events_cap_slice, events_slice_hi, *]) ?_; clear hK K; try walk_nrm)
  refine opsC_nil hS ?_
  show LoopC _ _ _ _ _ _ _
  try simp only [w1, w2, w3, w4]
  refine loopC_round hS ?_
  refine wpC_seq hS ?_
  refine wpC_region hS ?_
  simp only [List.size_toArray, List.length_cons, List.length_nil, Nat.reduceAdd, Nat.zero_add, List.range, List.range.loop]
  repeat first
    | refine opsC_moveA hS rfl rfl (.inl rfl) ?_
    | refine opsC_moveA hS rfl rfl (.inr rfl) ?_
    | refine opsC_binA hS rfl rfl rfl rfl rfl rfl ?_
    | refine opsC_lenA hS rfl rfl rfl (by kernel_rfl) rfl ?_
    | (refine opsC_plain hS rfl rfl fun _ K hK => ?_; go_simp; refine hK _ (by simp [go_sem, events_cap_slice, events_slice_hi, *]) ?_; clear hK K; try walk_nrm)
  refine opsC_nil hS ?_
  show WpC _ _ _ _ _ _ _
  refine wpC_seq hS ?_
  refine wpC_cond (t := true) hS (by first | rfl | simp [*]) ?_
  simp only [if_true, if_false, Bool.false_eq_true]
  refine wpC_skip hS ?_
  show WpC _ _ _ _ _ _ _
  refine wpC_seq hS ?_
  refine wpC_block hS ?_
  refine wpC_seq hS ?_
  refine wpC_region hS ?_
  simp only [List.size_toArray, List.length_cons, List.length_nil, Nat.reduceAdd, Nat.zero_add, List.range, List.range.loop]
  (refine opsC_plain hS rfl rfl fun _ K hK => ?_; go_simp; refine hK _ (by simp [go_sem, events_cap_slice, events_slice_hi, *]) ?_; clear hK K; try walk_nrm)
  refine opsC_load hS rfl rfl rfl (by kernel_rfl) rfl (.inr hg) (hc2) ?_
  repeat first
    | refine opsC_moveA hS rfl rfl (.inl rfl) ?_
    | refine opsC_moveA hS rfl rfl (.inr rfl) ?_
    | refine opsC_binA hS rfl rfl rfl rfl rfl rfl ?_
    | refine opsC_lenA hS rfl rfl rfl (by kernel_rfl) rfl ?_
    | (refine opsC_plain hS rfl rfl fun _ K hK => ?_; go_simp; refine hK _ (by simp [go_sem, events_cap_slice, events_slice_hi, *]) ?_; clear hK K; try walk_nrm)
  refine opsC_nil hS ?_
  show WpC _ _ _ _ _ _ _
  refine wpC_seq hS ?_
  refine wpC_region hS ?_
  simp only [List.size_toArray, List.length_cons, List.length_nil, Nat.reduceAdd, Nat.zero_add, List.range, List.range.loop]
  repeat first
    | refine opsC_moveA hS rfl rfl (.inl rfl) ?_
    | refine opsC_moveA hS rfl rfl (.inr rfl) ?_
    | refine opsC_binA hS rfl rfl rfl rfl rfl rfl ?_
    | refine opsC_lenA hS rfl rfl rfl (by kernel_rfl) rfl ?_
    | (refine opsC_plain hS rfl rfl fun _ K hK => ?_; go_simp; refine hK _ (by simp [go_sem, events_cap_slice, events_slice_hi, *]) ?_; clear hK K; try walk_nrm)
  refine opsC_nil hS ?_
  show WpC _ _ _ _ _ _ _
  try simp only [e2]
  refine wpC_seq hS ?_
  refine wpC_region hS ?_
  simp only [List.size_toArray, List.length_cons, List.length_nil, Nat.reduceAdd, Nat.zero_add, List.range, List.range.loop]
  repeat first
    | refine opsC_moveA hS rfl rfl (.inl rfl) ?_
    | refine opsC_moveA hS rfl rfl (.inr rfl) ?_
    | refine opsC_binA hS rfl rfl rfl rfl rfl rfl ?_
    | refine opsC_lenA hS rfl rfl rfl (by kernel_rfl) rfl ?_
    | (refine opsC_plain hS rfl rfl fun _ K hK => ?_; go_simp; refine hK _ (by simp [go_sem, events_cap_slice, events_slice_hi, *]) ?_; clear hK K; try walk_nrm)
  refine opsC_nil hS ?_
  show WpC _ _ _ _ _ _ _
  refine wpC_cond (t := false) hS (by first | rfl | simp [*]) ?_
  simp only [if_true, if_false, Bool.false_eq_true]
  refine wpC_skip hS ?_
  show WpC _ _ _ _ _ _ _
  refine wpC_region hS ?_
  simp only [List.size_toArray, List.length_cons, List.length_nil, Nat.reduceAdd, Nat.zero_add, List.range, List.range.loop]
  repeat first
    | refine opsC_moveA hS rfl rfl (.inl rfl) ?_
    | refine opsC_moveA hS rfl rfl (.inr rfl) ?_
    | refine opsC_binA hS rfl rfl rfl rfl rfl rfl ?_
    | refine opsC_lenA hS rfl rfl rfl (by kernel_rfl) rfl ?_
    | (refine opsC_plain hS rfl rfl fun _ K hK => ?_; go_simp; refine hK _ (by simp [go_sem, events_cap_slice, events_slice_hi, *]) ?_; clear hK K; try walk_nrm)
  refine opsC_nil hS ?_
  show LoopC _ _ _ _ _ _ _
  try simp only [w1, w2, w3, w4]
  refine loopC_round hS ?_
  refine wpC_seq hS ?_
  refine wpC_region hS ?_
  simp only [List.size_toArray, List.length_cons, List.length_nil, Nat.reduceAdd, Nat.zero_add, List.range, List.range.loop]
  repeat first
    | refine opsC_moveA hS rfl rfl (.inl rfl) ?_
    | refine opsC_moveA hS rfl rfl (.inr rfl) ?_
    | refine opsC_binA hS rfl rfl rfl rfl rfl rfl ?_
    | refine opsC_lenA hS rfl rfl rfl (by kernel_rfl) rfl ?_
    | (refine opsC_plain hS rfl rfl fun _ K hK => ?_; go_simp; refine hK _ (by simp [go_sem, events_cap_slice, events_slice_hi, *]) ?_; clear hK K; try walk_nrm)
  refine opsC_nil hS ?_
  show WpC _ _ _ _ _ _ _
  refine wpC_seq hS ?_
  refine wpC_cond (t := false) hS (by first | rfl | simp [*]) ?_
  simp only [if_true, if_false, Bool.false_eq_true]
  refine wpC_exit hS ?_
  show WpC _ _ _ _ _ _ _
  refine wpC_seq hS ?_
  refine wpC_region hS ?_
  simp only [List.size_toArray, List.length_cons, List.length_nil, Nat.reduceAdd, Nat.zero_add, List.range, List.range.loop]
  (refine opsC_plain hS rfl rfl fun _ K hK => ?_; go_simp; refine hK _ (by simp [go_sem, events_cap_slice, events_slice_hi, *]) ?_; clear hK K; try walk_nrm)
  refine opsC_callF hS rfl rfl rfl Try.func112 (by kernel_rfl) rfl (by simp only [List.map_toArray, List.map_cons, List.map_nil]; rfl) (growC hS (n1 + n2) (by omega) (by omega) w M hM) ?_
  intro u wz M2 m2
  repeat first
    | refine opsC_moveA hS rfl rfl (.inl rfl) ?_
    | refine opsC_moveA hS rfl rfl (.inr rfl) ?_
    | refine opsC_binA hS rfl rfl rfl rfl rfl rfl ?_
    | refine opsC_lenA hS rfl rfl rfl (by kernel_rfl) rfl ?_
    | (refine opsC_plain hS rfl rfl fun _ K hK => ?_; go_simp; refine hK _ (by simp [go_sem, events_cap_slice, events_slice_hi, *]) ?_; clear hK K; try walk_nrm)
  refine opsC_nil hS ?_
  show WpC _ _ _ _ _ _ _
  refine wpC_seq hS ?_
  refine wpC_seq hS ?_
  refine wpC_region hS ?_
  simp only [List.size_toArray, List.length_cons, List.length_nil, Nat.reduceAdd, Nat.zero_add, List.range, List.range.loop]
  repeat first
    | refine opsC_moveA hS rfl rfl (.inl rfl) ?_
    | refine opsC_moveA hS rfl rfl (.inr rfl) ?_
    | refine opsC_binA hS rfl rfl rfl rfl rfl rfl ?_
    | refine opsC_lenA hS rfl rfl rfl (by kernel_rfl) rfl ?_
    | (refine opsC_plain hS rfl rfl fun _ K hK => ?_; go_simp; refine hK _ (by simp [go_sem, events_cap_slice, events_slice_hi, *]) ?_; clear hK K; try walk_nrm)
  refine opsC_nil hS ?_
  show WpC _ _ _ _ _ _ _
  refine wpC_block hS ?_
  refine wpC_loop_of hS ?_
  refine loopC_round hS ?_
  refine wpC_seq hS ?_
  refine wpC_region hS ?_
  simp only [List.size_toArray, List.length_cons, List.length_nil, Nat.reduceAdd, Nat.zero_add, List.range, List.range.loop]
  repeat first
    | refine opsC_moveA hS rfl rfl (.inl rfl) ?_
    | refine opsC_moveA hS rfl rfl (.inr rfl) ?_
    | refine opsC_binA hS rfl rfl rfl rfl rfl rfl ?_
    | refine opsC_lenA hS rfl rfl rfl (by kernel_rfl) rfl ?_
    | (refine opsC_plain hS rfl rfl fun _ K hK => ?_; go_simp; refine hK _ (by simp [go_sem, events_cap_slice, events_slice_hi, *]) ?_; clear hK K; try walk_nrm)
  refine opsC_nil hS ?_
  show WpC _ _ _ _ _ _ _
  refine wpC_seq hS ?_
  refine wpC_cond (t := true) hS (by first | rfl | simp [*]) ?_
  simp only [if_true, if_false, Bool.false_eq_true]
  refine wpC_skip hS ?_
  show WpC _ _ _ _ _ _ _
  refine wpC_seq hS ?_
  refine wpC_block hS ?_
  refine wpC_seq hS ?_
  refine wpC_region hS ?_
  simp only [List.size_toArray, List.length_cons, List.length_nil, Nat.reduceAdd, Nat.zero_add, List.range, List.range.loop]
  (refine opsC_plain hS rfl rfl fun _ K hK => ?_; go_simp; refine hK _ (by simp [go_sem, events_cap_slice, events_slice_hi, *]) ?_; clear hK K; try walk_nrm)
  refine opsC_load hS rfl rfl rfl (by kernel_rfl) rfl (.inr (m2.fwd.up _ hg)) ((m2.fwd.cell (ad := ⟨g, 0, none⟩) (.inr hg)).trans hc1) ?_
  repeat first
    | refine opsC_moveA hS rfl rfl (.inl rfl) ?_
    | refine opsC_moveA hS rfl rfl (.inr rfl) ?_
    | refine opsC_binA hS rfl rfl rfl rfl rfl rfl ?_
    | refine opsC_lenA hS rfl rfl rfl (by kernel_rfl) rfl ?_
    | (refine opsC_plain hS rfl rfl fun _ K hK => ?_; go_simp; refine hK _ (by simp [go_sem, events_cap_slice, events_slice_hi, *]) ?_; clear hK K; try walk_nrm)
  refine opsC_nil hS ?_
  show WpC _ _ _ _ _ _ _
  refine wpC_region hS ?_
  simp only [List.size_toArray, List.length_cons, List.length_nil, Nat.reduceAdd, Nat.zero_add, List.range, List.range.loop]
  (refine opsC_plain hS rfl rfl fun _ K hK => ?_; go_simp; refine hK _ (by simp [go_sem, events_cap_slice, events_slice_hi, *]) ?_; clear hK K; try walk_nrm)
  (refine opsC_plain hS rfl rfl fun _ K hK => ?_; go_simp; refine hK _ (by simp [go_sem, events_cap_slice, events_slice_hi, *]) ?_; clear hK K; try walk_nrm)
  refine opsC_app_made hS rfl rfl _ _ rfl hM m2 rfl rfl (h1.fwd m2.fwd) (by simp; omega) ?_
  intro u3 wa M3 m3
  repeat first
    | refine opsC_moveA hS rfl rfl (.inl rfl) ?_
    | refine opsC_moveA hS rfl rfl (.inr rfl) ?_
    | refine opsC_binA hS rfl rfl rfl rfl rfl rfl ?_
    | refine opsC_lenA hS rfl rfl rfl (by kernel_rfl) rfl ?_
    | (refine opsC_plain hS rfl rfl fun _ K hK => ?_; go_simp; refine hK _ (by simp [go_sem, events_cap_slice, events_slice_hi, *]) ?_; clear hK K; try walk_nrm)
  refine opsC_nil hS ?_
  show WpC _ _ _ _ _ _ _
  refine wpC_region hS ?_
  simp only [List.size_toArray, List.length_cons, List.length_nil, Nat.reduceAdd, Nat.zero_add, List.range, List.range.loop]
  repeat first
    | refine opsC_moveA hS rfl rfl (.inl rfl) ?_
    | refine opsC_moveA hS rfl rfl (.inr rfl) ?_
    | refine opsC_binA hS rfl rfl rfl rfl rfl rfl ?_
    | refine opsC_lenA hS rfl rfl rfl (by kernel_rfl) rfl ?_
    | (refine opsC_plain hS rfl rfl fun _ K hK => ?_; go_simp; refine hK _ (by simp [go_sem, events_cap_slice, events_slice_hi, *]) ?_; clear hK K; try walk_nrm)
  refine opsC_nil hS ?_
  show LoopC _ _ _ _ _ _ _
  try simp only [w1, w2, w3, w4]
  refine loopC_round hS ?_
  refine wpC_seq hS ?_
  refine wpC_region hS ?_
  simp only [List.size_toArray, List.length_cons, List.length_nil, Nat.reduceAdd, Nat.zero_add, List.range, List.range.loop]
  repeat first
    | refine opsC_moveA hS rfl rfl (.inl rfl) ?_
    | refine opsC_moveA hS rfl rfl (.inr rfl) ?_
    | refine opsC_binA hS rfl rfl rfl rfl rfl rfl ?_
    | refine opsC_lenA hS rfl rfl rfl (by kernel_rfl) rfl ?_
    | (refine opsC_plain hS rfl rfl fun _ K hK => ?_; go_simp; refine hK _ (by simp [go_sem, events_cap_slice, events_slice_hi, *]) ?_; clear hK K; try walk_nrm)
  refine opsC_nil hS ?_
  show WpC _ _ _ _ _ _ _
  refine wpC_seq hS ?_
  refine wpC_cond (t := true) hS (by first | rfl | simp [*]) ?_
  simp only [if_true, if_false, Bool.false_eq_true]
  refine wpC_skip hS ?_
  show WpC _ _ _ _ _ _ _
  refine wpC_seq hS ?_
  refine wpC_block hS ?_
  refine wpC_seq hS ?_
  refine wpC_region hS ?_
  simp only [List.size_toArray, List.length_cons, List.length_nil, Nat.reduceAdd, Nat.zero_add, List.range, List.range.loop]
  (refine opsC_plain hS rfl rfl fun _ K hK => ?_; go_simp; refine hK _ (by simp [go_sem, events_cap_slice, events_slice_hi, *]) ?_; clear hK K; try walk_nrm)
  refine opsC_load hS rfl rfl rfl (by kernel_rfl) rfl (.inr (m3.fwd.up _ hg)) ((m3.fwd.cell (ad := ⟨g, 1, none⟩) (.inr hg)).trans hc2) ?_
  repeat first
    | refine opsC_moveA hS rfl rfl (.inl rfl) ?_
    | refine opsC_moveA hS rfl rfl (.inr rfl) ?_
    | refine opsC_binA hS rfl rfl rfl rfl rfl rfl ?_
    | refine opsC_lenA hS rfl rfl rfl (by kernel_rfl) rfl ?_
    | (refine opsC_plain hS rfl rfl fun _ K hK => ?_; go_simp; refine hK _ (by simp [go_sem, events_cap_slice, events_slice_hi, *]) ?_; clear hK K; try walk_nrm)
  refine opsC_nil hS ?_
  show WpC _ _ _ _ _ _ _
  refine wpC_region hS ?_
  simp only [List.size_toArray, List.length_cons, List.length_nil, Nat.reduceAdd, Nat.zero_add, List.range, List.range.loop]
  (refine opsC_plain hS rfl rfl fun _ K hK => ?_; go_simp; refine hK _ (by simp [go_sem, events_cap_slice, events_slice_hi, *]) ?_; clear hK K; try walk_nrm)
  (refine opsC_plain hS rfl rfl fun _ K hK => ?_; go_simp; refine hK _ (by simp [go_sem, events_cap_slice, events_slice_hi, *]) ?_; clear hK K; try walk_nrm)
  refine opsC_app_made hS rfl rfl _ _ rfl hM m3 rfl rfl (h2.fwd m3.fwd) (by simp [h1.len]; omega) ?_
  intro u4 wb M4 m4
  repeat first
    | refine opsC_moveA hS rfl rfl (.inl rfl) ?_
    | refine opsC_moveA hS rfl rfl (.inr rfl) ?_
    | refine opsC_binA hS rfl rfl rfl rfl rfl rfl ?_
    | refine opsC_lenA hS rfl rfl rfl (by kernel_rfl) rfl ?_
    | (refine opsC_plain hS rfl rfl fun _ K hK => ?_; go_simp; refine hK _ (by simp [go_sem, events_cap_slice, events_slice_hi, *]) ?_; clear hK K; try walk_nrm)
  refine opsC_nil hS ?_
  show WpC _ _ _ _ _ _ _
  refine wpC_region hS ?_
  simp only [List.size_toArray, List.length_cons, List.length_nil, Nat.reduceAdd, Nat.zero_add, List.range, List.range.loop]
  repeat first
    | refine opsC_moveA hS rfl rfl (.inl rfl) ?_
    | refine opsC_moveA hS rfl rfl (.inr rfl) ?_
    | refine opsC_binA hS rfl rfl rfl rfl rfl rfl ?_
    | refine opsC_lenA hS rfl rfl rfl (by kernel_rfl) rfl ?_
    | (refine opsC_plain hS rfl rfl fun _ K hK => ?_; go_simp; refine hK _ (by simp [go_sem, events_cap_slice, events_slice_hi, *]) ?_; clear hK K; try walk_nrm)
  refine opsC_nil hS ?_
  show LoopC _ _ _ _ _ _ _
  try simp only [w1, w2, w3, w4]
  refine loopC_round hS ?_
  refine wpC_seq hS ?_
  refine wpC_region hS ?_
  simp only [List.size_toArray, List.length_cons, List.length_nil, Nat.reduceAdd, Nat.zero_add, List.range, List.range.loop]
  repeat first
    | refine opsC_moveA hS rfl rfl (.inl rfl) ?_
    | refine opsC_moveA hS rfl rfl (.inr rfl) ?_
    | refine opsC_binA hS rfl rfl rfl rfl rfl rfl ?_
    | refine opsC_lenA hS rfl rfl rfl (by kernel_rfl) rfl ?_
    | (refine opsC_plain hS rfl rfl fun _ K hK => ?_; go_simp; refine hK _ (by simp [go_sem, events_cap_slice, events_slice_hi, *]) ?_; clear hK K; try walk_nrm)
  refine opsC_nil hS ?_
  show WpC _ _ _ _ _ _ _
  refine wpC_seq hS ?_
  refine wpC_cond (t := false) hS (by first | rfl | simp [*]) ?_
  simp only [if_true, if_false, Bool.false_eq_true]
  refine wpC_exit hS ?_
  show WpC _ _ _ _ _ _ _
  refine wpC_seq hS ?_
  refine wpC_region hS ?_
  simp only [List.size_toArray, List.length_cons, List.length_nil, Nat.reduceAdd, Nat.zero_add, List.range, List.range.loop]
  repeat first
    | refine opsC_moveA hS rfl rfl (.inl rfl) ?_
    | refine opsC_moveA hS rfl rfl (.inr rfl) ?_
    | refine opsC_binA hS rfl rfl rfl rfl rfl rfl ?_
    | refine opsC_lenA hS rfl rfl rfl (by kernel_rfl) rfl ?_
    | (refine opsC_plain hS rfl rfl fun _ K hK => ?_; go_simp; refine hK _ (by simp [go_sem, events_cap_slice, events_slice_hi, *]) ?_; clear hK K; try walk_nrm)
  refine opsC_nil hS ?_
  show WpC _ _ _ _ _ _ _
  refine wpC_ret hS ⟨rfl, _, resultsC_tmp rfl _, ?_⟩
  rw [List.nil_append] at m4
  exact m4

end Go.Proofs.Ytjphaphnmclbcaa

/- A region that draws its order, for one of the two goroutines under way: a state that every order keeps. No condition. -/
namespace Go.Proofs.Ytjphaphnmclbcaa
open Go Go.Conc

section
variable {P : Program} {main : Bool} {Sh : Nat → Prop} {ι : Type} {C : Gh ι → Goroutine → World → Prop} {fn : FuncId} {Q : Exit → Act → World → Gh ι → Prop}

theorem opsC_lin (hS : Fam P main Sh C) {md : Region.Mode} {ops : Array Oper} (St : Array Bool → Act → World → Gh ι → Prop)
    (step : ∀ L a w M i, L.size = ops.size → St L a w M → i ∈ Region.ready md ops L → ∀ rest Q, (∀ a' w' M', St (L.setIfInBounds i true) a' w' M' → OpsC C fn ops rest Q a' w' M') → OpsC C fn ops (i :: rest) Q a w M)
    (fin : ∀ L a w M, L.size = ops.size → St L a w M → Region.ready md ops L = [] → Q .normal a w M) :
    ∀ (fuel t : Nat) (L : Array Bool) (a : Act) (w : World) (M : Gh ι), L.size = ops.size → L.count false ≤ fuel → St L a w M → OpsC C fn ops (Region.linearise.go md ops fuel t L []) Q a w M := by
  intro fuel
  induction fuel with
  | zero =>
    intro t L a w M hL hc h
    have hnil : Region.ready md ops L = [] := by
      rw [List.eq_nil_iff_forall_not_mem]
      intro j hj
      obtain ⟨h1, o, ho, _⟩ := mem_ready.1 hj
      have hlt : j < L.size := by rw [hL]; exact (Array.getElem?_eq_some_iff.1 ho).1
      have hz : L.count false = 0 := by omega
      rw [Array.count_eq_zero] at hz
      refine hz ?_
      have : L[j] = false := by simpa [Array.getD, hlt] using h1
      rw [← this]
      exact Array.getElem_mem hlt
    simpa [Region.linearise.go] using opsC_nil hS (fin L a w M hL h hnil)
  | succ fuel ih =>
    intro t L a w M hL hc h
    simp only [Region.linearise.go]
    change OpsC C fn ops (match (Region.ready md ops L)[t % (Region.ready md ops L).length]? with
      | some i => Region.linearise.go md ops fuel (t / (Region.ready md ops L).length) (L.setIfInBounds i true) [i]
      | none => [].reverse) Q a w M
    cases hi : (Region.ready md ops L)[t % (Region.ready md ops L).length]? with
    | none =>
      have hnil : Region.ready md ops L = [] := by
        cases hr : Region.ready md ops L with
        | nil => rfl
        | cons x xs =>
          rw [hr] at hi
          have hlt : t % (x :: xs).length < (x :: xs).length := Nat.mod_lt _ (by simp)
          simp at hi
          simp at hlt
          omega
      simpa using opsC_nil hS (fin L a w M hL h hnil)
    | some i =>
      simp only []
      rw [linearise_go_acc, List.reverse_singleton, List.singleton_append]
      have hm := List.mem_of_getElem? hi
      refine step L a w M i hL h hm _ _ fun a' w' M' h' => ih _ _ _ _ _ (by simpa using hL) ?_ h'
      obtain ⟨h1, o, ho, _⟩ := mem_ready.1 hm
      have hlt : i < L.size := by rw [hL]; exact (Array.getElem?_eq_some_iff.1 ho).1
      have hli : L[i] = false := by simpa [Array.getD, hlt] using h1
      have e : L.setIfInBounds i true = L.set i true hlt := by simp [Array.setIfInBounds, hlt]
      rw [e, Array.count_set hlt]
      simp [hli]
      have hpos : 0 < L.count false := by
        rw [Array.count_pos_iff, ← hli]
        exact Array.getElem_mem hlt
      omega

/-- A region that draws its order. -/
theorem wpC_region_draw (hS : Fam P main Sh C) (hm : P.follows .mixedOrders = true) {id : Nat} {ops : Array Oper} {a : Act} {w : World} {M : Gh ι}
    (h : ∀ w₁, Rl Sh M.2 w w₁ → ∀ t, OpsC C fn ops (Region.linearise.go .any ops ops.size t (Array.replicate ops.size false) []) Q a w₁ M) : WpC C fn (.region id ops true) Q a w M := by
  intro b k cs hb hk hc
  have hst : ∀ w, stepG P main (G (b.at a (.code (.region id ops true) :: k)) cs) w =
      .go (G (b.at a (.inRegion ops (Region.linearise .any ops (w.tape w.drawn (.order b.fn id))) :: k)) cs) { w with drawn := w.drawn + 1 } := by
    intro w
    have : Region.linearise .any ops (w.tape w.drawn (.order b.fn id)) = Region.schedule (P.follows .mixedOrders) ops (w.tape w.drawn (.order b.fn id)) := by simp [Region.schedule, hm]
    rw [this]
    simp [G, stepG, stepG.exec, Frame.at, choose, Sem.run, Question.forced, Question.cut]
  refine hS.step rfl (fun w₁ _ => ⟨_, _, _, hst w₁, rfl, rfl, Nat.le_refl _, fun _ _ _ => rfl, by simp⟩) fun w₁ g' w' es h₁ hs => ?_
  rw [hst w₁] at hs
  cases hs
  rw [grow_self M.2 w₁ { w₁ with drawn := w₁.drawn + 1 } rfl]
  refine hS.rely (h w₁ h₁ _ b k cs hb hk hc) ⟨rfl, rfl, Nat.le_refl _, fun _ _ => rfl⟩

end

end Go.Proofs.Ytjphaphnmclbcaa

/- From the go statement to the closed channel found. No condition. -/
namespace Go.Proofs.Ytjphaphnmclbcaa
open Go Go.Conc Go.ConcN

theorem fork_reach {α : Type} {P : Program} {c : Nat} {Sh : Nat → Prop} {Phi : α → Value → (Nat → Prop) → World → Prop} {z : Value} {Fin : Goroutine → World → Prop} {g : Goroutine} {w : World} {xs : List α} {M0 : Nat → Prop}
    (hPhi : ∀ x v V w w₁, (∀ k, V k → w₁.heap[k]? = w.heap[k]?) → Phi x v V w → Phi x v V w₁) (hrun : g.status = .running)
    (h : ∀ w₁, Re w w₁ → ∃ a child w' es s tm, stepG P true g w₁ = .spawn a child w' es ∧ (∀ e ∈ es, Hears e) ∧ w'.heap[c]? = some (.chan 0 #[] false s s tm) ∧ (∀ k, Sh k → k < w'.heap.size) ∧ ¬ Sh c ∧ (∀ k, M0 k → k < w'.heap.size ∧ k ≠ c ∧ ¬ Sh k) ∧
      Rcv P c Sh Phi z Fin xs M0 a w' ∧ Snd P c Sh Phi xs (fun _ => False) child w') : Reach P g w Fin := by
  have key : ∀ (m : Nat) (w₁ : World) (gs : Array Goroutine) (sl : Option (Nat × Nat)) (t : Trace) (q : Nat → Nat), Re w w₁ → Go.ConcN.sumTo gs.size q ≤ m → gs[0]? = some g → Leavers P t gs q → Pst t → Concl P Fin gs w₁ sl t := by
    have mv : ∀ (w₁ : World) (gs : Array Goroutine) (sl sl' : Option (Nat × Nat)) (t : Trace) (q : Nat → Nat) (d : Nat), Re w w₁ → gs[0]? = some g → Leavers P t gs q → Pst t → stepT P (crowd gs w₁ sl) = runT P (crowd gs (w₁.at d) sl') 0 → Concl P Fin gs w₁ sl t := by
      intro w₁ gs sl sl' t q d hr h0 hL hP hs
      obtain ⟨a, child, w', es, s, tm, hsp, hev, hch, hSh, hcSh, hM0, hA, hB⟩ := h (w₁.at d) (hr.trans (Re.at _ _))
      have hlt : 0 < gs.size := (Array.getElem?_eq_some_iff.1 h0).1
      have hrn := runT_crowd_spawn (P := P) (sl := sl') (i := 0) h0 (show stepG P (0 == 0) g (w₁.at d) = _ from hsp)
      have hsz : c < w'.heap.size := (Array.getElem?_eq_some_iff.1 hch).1
      refine .step (hs.trans hrn) ?_
      have e : ∀ (u : Array MemOp) (x y : MemOp), t ++ ((u.push x).push y) = (t ++ u) ++ #[x, y] := fun u x y => by apply Array.ext'; simp
      rw [e]
      have hP' : Pst (t ++ MemOp.ofEvents 0 g.frame.fn g.frame.place es) := hP.own hev
      have hdj : Deaf (t ++ MemOp.ofEvents 0 g.frame.fn g.frame.place es) gs.size = 0 := by
        rw [Deaf_other t (g' := 0) (by omega) _ own_g]
        exact hL.above _ (Nat.le_refl _)
      have hdf : ∀ l, l ≠ 0 → Deaf ((t ++ MemOp.ofEvents 0 g.frame.fn g.frame.place es) ++ #[({ g := 0, fn := g.frame.fn, pos := g.frame.place, act := .go gs.size } : MemOp), { g := gs.size, fn := child.frame.fn, pos := g.frame.place, act := .start }]) l = Deaf t l := by
        intro l hl
        rw [Deaf_still (by intro op hop; rcases (show op = _ ∨ op = _ by simpa using hop) with rfl | rfl <;> simp), Deaf_other t (g' := 0) (Ne.symm hl) _ own_g]
      refine phase hPhi xs (s := s) (tm := tm) (q := upd q gs.size 0) (j := gs.size) ⟨?_, ?_, hlt, upd_same _ _ _, fun l y hl hlj hy => ?_, fun l hl => ?_, hch, ⟨⟨hsz, hcSh⟩, hSh, fun k hk => ⟨(hM0 k hk).1, (hM0 k hk).2.1, (hM0 k hk).2.2, fun h => h⟩, fun k hk => hk.elim⟩, TwoG.fork hP' hdj ⟨rfl, rfl⟩ ⟨rfl, rfl⟩ _ _ _ _⟩ hA hB
      · rw [Array.getElem?_push_lt (by simpa using hlt)]; simp
      · have : (gs.setIfInBounds 0 a).size = gs.size := by simp
        rw [← this]; exact Array.getElem?_push_size
      · have hl' : l < gs.size := by
          have := (Array.getElem?_eq_some_iff.1 hy).1
          simp at this; omega
        rw [Array.getElem?_push_lt (by simpa using hl')] at hy
        have hy' : gs[l]? = some y := by
          rw [← hy, Array.getElem_setIfInBounds (by simpa using hl')]
          simp [show (0 : Nat) ≠ l by omega, hl']
        rw [hdf l (by omega), upd_ne q 0 hlj]
        exact hL.old l y hl hy'
      · have : gs.size < l := by simp at hl; omega
        rw [hdf l (by omega)]
        exact hL.above l (by omega)
    intro m
    induction m with
    | zero =>
      intro w₁ gs sl t q hr hm h0 hL hP
      rcases pick_leavers (P := P) (w := w₁) (sl := sl) h0 hrun hL hP with ⟨d, sl', hs⟩ | ⟨_, _, _, _, _, _, _, _, _, _, _, hlt⟩
      · exact mv w₁ gs sl sl' t q d hr h0 hL hP hs
      · omega
    | succ m ih =>
      intro w₁ gs sl t q hr hm h0 hL hP
      rcases pick_leavers (P := P) (w := w₁) (sl := sl) h0 hrun hL hP with ⟨d, sl', hs⟩ | ⟨d, sl', gs', t', q', ops, hs, rfl, h0', hL', hP', hlt⟩
      · exact mv w₁ gs sl sl' t q d hr h0 hL hP hs
      · exact .step hs (ih _ _ _ _ _ (hr.trans (Re.at _ _)) (by omega) h0' hL' hP')
  exact fun gs sl t q h0 hL hP => key _ w gs sl t q (Re.refl _) (Nat.le_refl _) h0 hL hP

end Go.Proofs.Ytjphaphnmclbcaa

/- The sender's and the receiver's families of scripts, and their communications as rules. No condition. -/
namespace Go.Proofs.Ytjphaphnmclbcaa
open Go Go.Conc Go.ConcN

section
variable {α : Type} {P : Program} {c : Nat} {Sh : Nat → Prop} {Phi : α → Value → (Nat → Prop) → World → Prop}

/-- The sender's. -/
def SndF (P : Program) (c : Nat) (Sh : Nat → Prop) (Phi : α → Value → (Nat → Prop) → World → Prop) (M : Gh (List α)) (g : Goroutine) (w : World) : Prop := Snd P c Sh Phi M.1 M.2 g w

/-- What passes stays as it is in the blocks that pass. -/
def Keeps (Phi : α → Value → (Nat → Prop) → World → Prop) : Prop := ∀ x v V w w₁, (∀ k, V k → w₁.heap[k]? = w.heap[k]?) → Phi x v V w → Phi x v V w₁

theorem fam_snd (hPhi : Keeps Phi) : Fam P false Sh (SndF P c Sh Phi) := by
  refine ⟨fun {M g w} hs h k => ?_, fun {M g w w₁} h hr => ?_⟩
  · exact snd_co.2 (.step hs h fun w₁ g' w' es h₁ h₂ => snd_co.1 (k w₁ g' w' es h₁ h₂))
  · exact snd_co.2 ((snd_co.1 h).rely (fun _ _ _ _ h hr => h.rely hPhi hr) hr)

variable {fn : FuncId} {a : Act} {w : World} {ops : Array Oper} {i : Nat} {rest : List Nat} {o : Oper}

/-- A send. -/
theorem opsC_send (hPhi : Keeps Phi) {Q : Exit → Act → World → Gh (List α) → Prop} {x₀ : α} {xs : List α} {M V : Nat → Prop} {x y : Operand} {v : Value} (ho : ops[i]? = some o) (hw : Region.wanted o (yielded ops a.tmps) = true) (hop : o.op = .send x y)
    (hx : a.eval x = .chan (some c)) (hy : a.eval y = v) (hV : ∀ k, V k → M k) (hP : Phi x₀ v V w) (h : OpsC (SndF P c Sh Phi) fn ops rest Q (a.put o.dst undef) w (xs, fun k => M k ∧ ¬ V k)) :
    OpsC (SndF P c Sh Phi) fn ops (i :: rest) Q a w (x₀ :: xs, M) := by
  intro b k cs hb hk hc
  have hke : b.kind ≠ .early := hk
  refine .stop ⟨rfl, G (b.at a (.inRegion ops (i :: rest) :: k)) cs, v, .tuple #[], V, fun w₁ _ => ⟨#[], ?_, by simp⟩, hV, hP, fun w₂ h₂ => ?_⟩
  · rw [stepG_comm (cases := #[scase c v (.tuple #[])]) (blocking := true) (shape := .send) (w' := w₁) ho hw hke (by simp [execOp, hop, hx, hy, scase])]
    have he : (execOp a.eval o).events P w₁ #[] = #[] := by
      unfold execOp
      simp only [hop]
      rfl
    unfold listed
    rw [he]
    simp [seen]
  · have e : Go.Conc.served (G (b.at a (.inRegion ops (i :: rest) :: k)) cs) undef = G (b.at (a.put o.dst undef) (.inRegion ops rest :: k)) cs := by
      rw [served_G]
      simp [ho]
    rw [e]
    exact (fam_snd hPhi).rely (M := (xs, fun k => M k ∧ ¬ V k)) (h b k cs hb hk hc) h₂

/-- A load of one cell, where the frame is known. -/
theorem raw_load {main : Bool} {ι : Type} {C : Gh ι → Goroutine → World → Prop} (hS : Fam P main Sh C) {M : Gh ι} {b : Frame} {k : List Item} {cs : List Frame} {t : TypeId} {x : Operand} {ad : Addr} {v : Value} (hk : b.kind ≠ .early) (ho : ops[i]? = some o) (hw : Region.wanted o (yielded ops a.tmps) = true)
    (hop : o.op = .load t x) (ht : scal P t = true) (hx : a.eval x = .pointer (some ad)) (hm : Sh ad.block ∨ M.2 ad.block) (hc : w.cell? ad = some v)
    (h : C M (G (b.at (a.put o.dst v) (.inRegion ops rest :: k)) cs) w) : C M (G (b.at a (.inRegion ops (i :: rest) :: k)) cs) w := by
  have key : ∀ w₁, Rl Sh M.2 w w₁ → stepG P main (G (b.at a (.inRegion ops (i :: rest) :: k)) cs) w₁ = .go (G (b.at (a.put o.dst v) (.inRegion ops rest :: k)) cs) w₁ (listed P b.fn a o w₁) ∧ ∀ e ∈ listed P b.fn a o w₁, EvM M.2 Sh e := by
    intro w₁ h₁
    have hc' : w₁.cell? ad = some v := (cell_eq (h₁.keep _ hm)).trans hc
    obtain ⟨h1, h2⟩ := loadVar_scal ht hc'
    have hr : (execOp a.eval o).run P w₁ = .ok (.value v) w₁ := by
      unfold execOp
      simp [hop, Instr.loadAt, Instr.sureAddr, hx, h1]
    refine ⟨stepG_value ho hw hk hr, fun e he => ?_⟩
    have he' := mem_listed he
    unfold execOp at he'
    simp [hop, Instr.loadAt, Instr.sureAddr, hx, h2] at he'
    subst he'
    exact evM_read hm
  refine hS.step rfl (fun w₁ h₁ => ⟨_, _, _, (key w₁ h₁).1, rfl, rfl, Nat.le_refl _, fun _ _ _ => rfl, fun e he => ?_⟩) fun w₁ g' w' es h₁ hs => ?_
  · rw [grow_self M.2 w₁ w₁ rfl]; exact (key w₁ h₁).2 e he
  · rw [(key w₁ h₁).1] at hs
    cases hs
    rw [grow_self M.2 w₁ w₁ rfl]
    exact hS.rely h h₁

/-- The bottom of a goroutine that a go statement has made. -/
def botF (P : Program) : Frame := { (default : Frame) with fn := P.funcs.size, defers := [], mode := .panicking [goexitEntry] }
def bDef (f : FuncId) : Frame := { (default : Frame) with fn := f, kind := .deferred }

theorem born_step {f : FuncId} {fd : Func} {code : Code} {main : Bool} {args : Array Value} (hf : P.funcs[f]? = some fd) (hname : (fd.name == "runtime.NumGoroutine") = false) (hb : fd.body = some code) (w : World) :
    stepG P main (born P { target := .fn (.func f) args, args := #[] }) w = .go (G ((bDef f).at ⟨args ++ Array.replicate (fd.ntmps - args.size) undef, []⟩ [.code code]) [botF P]) w #[] := by
  have hn : ¬ fd.name = "runtime.NumGoroutine" := by simpa using hname
  simp [born, stepG, unwind, callDeferred, invoke, callFunc, hf, hb, hn, seen, GStep.after, G, Frame.enter, Frame.at, bDef, botF]

/-- Behind the last operation of such a goroutine it only leaves. -/
theorem quits_def {f : FuncId} {fd : Func} {ops : Array Oper} {a : Act} (hf : P.funcs[f]? = some fd) (hr : fd.results = #[]) (hd : a.defers = []) : QuitsIn P 4 (G ((bDef f).at a [.inRegion ops []]) [botF P]) := by
  refine .inr ⟨rfl, _, fun w => stepG_region_end, ?_⟩
  refine .inr ⟨rfl, _, fun w => stepG_end, ?_⟩
  refine .inr ⟨rfl, G (botF P) [], fun w => ?_, ?_⟩
  · simp [G, stepG, unwind, doReturn, results, Frame.at, bDef, botF, hf, hr, hd, seen, GStep.after, goexitEntry]
  refine .inr ⟨rfl, { G (botF P) [] with status := .finished }, fun w => ?_, rfl⟩
  simp [G, stepG, unwind, botF, goexitEntry, Frame.catches]
  rfl

/-- The close: behind it the goroutine only leaves. -/
theorem shut_at {b : Frame} {k : List Item} {cs : List Frame} {M : Nat → Prop} {x : Operand} {ats : Array TypeId} {n : Nat} (ho : ops[i]? = some o) (hw : Region.wanted o (yielded ops a.tmps) = true) (hk : b.kind ≠ .early) (hop : o.op = .call { callee := .builtin .close, args := #[x], argTypes := ats })
    (hx : a.eval x = .chan (some c)) (hl : (P.funcs[b.fn]?).any (·.norace) = false) (hmw : mayWake P (G (b.at a (.inRegion ops (i :: rest) :: k)) cs) = true)
    (hq : QuitsIn P n (G (b.at (a.put o.dst (.tuple #[])) (.inRegion ops rest :: k)) cs)) :
    SndF P c Sh Phi ([], M) (G (b.at a (.inRegion ops (i :: rest) :: k)) cs) w := by
  refine .stop ⟨rfl, hmw, G (b.at (a.put o.dst (.tuple #[])) (.inRegion ops rest :: k)) cs, n, QuitsD.of_quitsIn hq, fun w₁ s r tm _ hc => ⟨#[⟨.obj c, false, true⟩], ?_, fun e he => ?_⟩⟩
  · rw [stepG_close ho hw hk hop hx hc hl]
    rfl
  · simp at he
    subst he
    exact ⟨fun m => by simp, fun a ha => by
      simp [MemAct.ofEvent, MemAct.touch?] at ha
      subst ha
      exact .inr ⟨.inr rfl, rfl⟩⟩

variable {z : Value} {Stop : Goroutine → World → Prop}

/-- The receiver's: while the channel is open, and (none) behind the phase. -/
def RcvF (P : Program) (c : Nat) (Sh : Nat → Prop) (Phi : α → Value → (Nat → Prop) → World → Prop) (z : Value) (Stop : Goroutine → World → Prop) (M : Gh (Option (List α))) (g : Goroutine) (w : World) : Prop :=
  match M.1 with
  | some xs => Rcv P c Sh Phi z (T P Stop) xs M.2 g w
  | none => ∀ w₂, Rl Sh M.2 w w₂ → T P Stop g w₂

theorem Rl.of_re {Sh M : Nat → Prop} {w w₁ : World} (h : Re w w₁) : Rl Sh M w w₁ := by
  obtain ⟨τ, d, rfl⟩ := h
  exact ⟨rfl, rfl, Nat.le_refl _, fun _ _ => rfl⟩

theorem fam_rcv : Fam P true Sh (RcvF P c Sh Phi z Stop) := by
  refine ⟨fun {M g w} hs h k => ?_, fun {M g w w₁} h hr => ?_⟩
  · obtain ⟨j, M⟩ := M
    cases j with
    | some xs => exact rcv_co.2 (.step hs h fun w₁ g' w' es h₁ h₂ => rcv_co.1 (k w₁ g' w' es h₁ h₂))
    | none =>
      refine fun w₂ h₂ => T.step hs (fun w₁ h₁ => ?_) fun w₁ g' w' es h₁ hst => ?_
      · obtain ⟨g', w', es, h3, h4⟩ := h w₁ (h₂.trans (Rl.of_re h₁))
        exact ⟨g', w', es, h3, fun e he => (h4.evs e he).hears⟩
      · exact k w₁ g' w' es (h₂.trans (Rl.of_re h₁)) hst w' (Rl.refl _ _ _)
  · obtain ⟨j, M⟩ := M
    cases j with
    | some xs => exact rcv_co.2 ((rcv_co.1 h).rely (fun _ _ _ _ h hr => h.rely hr) hr)
    | none => exact fun w₂ h₂ => h w₂ (hr.trans h₂)

section
variable {t : TypeId} {x : Operand} {b : Frame} {k : List Item} {cs : List Frame} {M : Nat → Prop}

theorem recv0_at (ho : ops[i]? = some o) (hw : Region.wanted o (yielded ops a.tmps) = true) (hk : b.kind ≠ .early)
    (hr : ∀ w, (execOp a.eval o).runT P w #[] = (.ok (.comm #[rcase c z] true (.recv true)) w, #[])) :
    AtRecv0 P c Sh z M (G (b.at a (.inRegion ops (i :: rest) :: k)) cs) w := by
  refine ⟨rfl, fun w₁ _ => ⟨#[], ?_, by simp⟩⟩
  have h1 : (execOp a.eval o).run P w₁ = .ok (.comm #[rcase c z] true (.recv true)) w₁ := by rw [← Sem.runT_fst P _ w₁ #[], hr]
  rw [stepG_comm ho hw hk h1, core_G]
  have he : (execOp a.eval o).events P w₁ #[] = #[] := by unfold Sem.events; rw [hr]
  unfold listed
  rw [he]
  simp [seen]

theorem served_at (ho : ops[i]? = some o) (v : Value) : Go.Conc.served (Go.Conc.core (G (b.at a (.inRegion ops (i :: rest) :: k)) cs)) v = G (b.at (a.put o.dst v) (.inRegion ops rest :: k)) cs := by
  rw [core_G, served_G]
  simp [ho]
end

/-- A receive that a send meets. -/
theorem opsC_recv {Q : Exit → Act → World → Gh (Option (List α)) → Prop} {x₀ : α} {xs : List α} {M : Nat → Prop} (ho : ops[i]? = some o) (hw : Region.wanted o (yielded ops a.tmps) = true)
    (hr : ∀ w, (execOp a.eval o).runT P w #[] = (.ok (.comm #[rcase c z] true (.recv true)) w, #[]))
    (h : ∀ w₂ v V, Rl Sh M w w₂ → Phi x₀ v V w₂ → (∀ k, V k → ¬ M k ∧ ¬ Sh k ∧ k ≠ c ∧ k < w₂.heap.size) → OpsC (RcvF P c Sh Phi z Stop) fn ops rest Q (a.put o.dst (.tuple #[v, .bool true])) w₂ (some xs, fun k => M k ∨ V k)) :
    OpsC (RcvF P c Sh Phi z Stop) fn ops (i :: rest) Q a w (some (x₀ :: xs), M) := by
  intro b k cs hb hk hc
  have hke : b.kind ≠ .early := hk
  refine .stop ⟨recv0_at ho hw hke hr, fun w₂ v V h₂ hP hV => ?_⟩
  rw [served_at ho]
  exact h w₂ v V h₂ hP hV b k cs hb hk hc

/-- The receive that finds the channel closed. -/
theorem opsC_recv_end {Q : Exit → Act → World → Gh (Option (List α)) → Prop} {M : Nat → Prop} (ho : ops[i]? = some o) (hw : Region.wanted o (yielded ops a.tmps) = true)
    (hr : ∀ w, (execOp a.eval o).runT P w #[] = (.ok (.comm #[rcase c z] true (.recv true)) w, #[]))
    (h : OpsC (RcvF P c Sh Phi z Stop) fn ops rest Q (a.put o.dst (.tuple #[z, .bool false])) w (none, M)) :
    OpsC (RcvF P c Sh Phi z Stop) fn ops (i :: rest) Q a w (some [], M) := by
  intro b k cs hb hk hc
  have hke : b.kind ≠ .early := hk
  refine .stop ⟨recv0_at ho hw hke hr, fun w₂ h₂ => ?_⟩
  rw [served_at ho]
  exact h b k cs hb hk hc w₂ h₂

end

end Go.Proofs.Ytjphaphnmclbcaa

/- The walk's law of append, with the block of what comes out: the old one, or a new one. No condition. -/
namespace Go.Proofs.Ytjphaphnmclbcaa
open Go.RowKit

theorem app_block {P : Program} (w : World) (base : Nat) (t ty e : TypeId) (i : TypeInfo) (z : Value) (ht : P.underlying t = some (.slice e)) (hi : P.info? e = some i) (hz : i.zero = some z) (h1s : i.size = 1)
    (v : Value) (n : Nat) (xs : List Value) (hown : w.ownsRow base e 1 v n xs) (a : Addr) (c : Nat) (x : Value) (hx : w.cell? a = some x) (hc : x.oneCell' = true) (hl : n ≤ 2000000) (hb : i.bytes ≤ 100)
    {v' : Value} {w' : World} (hr : (Builtin.append_ #[t, t] ty #[v, .slice (some a) 1 c]).run P w = .ok v' w') : v'.ownBlock = v.ownBlock ∨ v'.ownBlock = some w.heap.size := by
  have hnews : ∀ j u, [x][j]? = some u → w.cell? (a.add j) = some u := by
    intro j u hj
    match j, hj with
    | 0, hj => simp at hj; subst hj; simpa [Addr.add] using hx
  have hone : ∀ u ∈ [x], u.oneCell' = true := by intro u hu; simp at hu; subst hu; exact hc
  have hln : [x].length = 1 * i.size := by rw [h1s]; rfl
  have hby : (n + 1) * i.bytes ≤ 140737488355328 := Nat.le_trans (Nat.mul_le_mul (show n + 1 ≤ 2000001 by omega) hb) (by decide)
  rcases hown.2 with ⟨rfl, rfl⟩ | ⟨g, cap, cur, rfl, hbg, hg, hnc, hcm, hcs, htake⟩
  · rw [run_append_nil (P := P) w t ty e i z ht hi hz a 1 c [x] hln hnews (by omega) (by omega) (by omega)] at hr
    simp only [Result.ok.injEq] at hr
    exact Or.inr (by rw [← hr.1]; rfl)
  · by_cases hroom : n + 1 ≤ cap
    · rw [run_append_room (P := P) w t ty e i ht hi g n cap cur hg a 1 c [x] hln hnews hone hroom (by rw [h1s]; simp; omega)] at hr
      simp only [Result.ok.injEq] at hr
      exact Or.inl (by rw [← hr.1]; rfl)
    · rw [run_append_grow (P := P) w t ty e i z ht hi hz ⟨g, 0, none⟩ n cap xs (by rw [h1s]; exact hown.1) (hown.cells (g := g) rfl) a 1 c [x] hln hnews (by omega) (by omega) (growslice_fits (by omega) hby)] at hr
      simp only [Result.ok.injEq] at hr
      exact Or.inr (by rw [← hr.1]; rfl)

/-- What comes out of append: the old block or a new one. -/
def Blk (w : World) (u u' : Value) : Prop := u'.ownBlock = u.ownBlock ∨ u'.ownBlock = some w.heap.size

theorem wp_app2 {P : Program} (w : World) {o : Oper} {a : Act} {K : Act → World → Prop} {Q : Exit → Act → World → Prop} (s x : Operand) (t : TypeId)
    (ho : o.op = .call { callee := .builtin .append, args := #[s, x], argTypes := #[t, t] })
    (base : Nat) (e : TypeId) (i : TypeInfo) (z : Value) (ht : P.underlying t = some (.slice e)) (hi : P.info? e = some i) (hz : i.zero = some z) (h1s : i.size = 1) (hb : i.bytes ≤ 100) (hzs : z.cells.size = 1)
    (v : Value) (n : Nat) (xs : List Value) (hs : a.eval s = v) (hown : w.ownsRow base e 1 v n xs)
    (ad : Addr) (c : Nat) (y : Value) (hx : a.eval x = .slice (some ad) 1 c) (hy : w.cell? ad = some y) (hc : y.oneCell' = true) (hl : n ≤ 2000000) (hbase : base ≤ w.heap.size)
    (h : ∀ v' w', w'.ownsRow base e 1 v' (n + 1) (xs ++ [y]) → w.grownBy w' v.ownBlock → Blk w v v' → K (a.put o.dst v') w') : o.wp P a w K Q := by
  have hnews : ∀ j u, [y][j]? = some u → w.cell? (ad.add j) = some u := by
    intro j u hj
    match j, hj with
    | 0, hj => simp at hj; subst hj; simpa [Addr.add] using hy
  have hone : ∀ u ∈ [y], u.oneCell' = true := by intro u hu; simp at hu; subst hu; exact hc
  have hby : (n + 1) * i.bytes ≤ 140737488355328 := Nat.le_trans (Nat.mul_le_mul (show n + 1 ≤ 2000001 by omega) hb) (by decide)
  obtain ⟨v', w', hr, h2, h3, _⟩ := run_append_own (P := P) w base t o.type e i z 1 i.bytes ht hi hz h1s rfl hzs (by decide) v n xs hown ad 1 c [y] rfl hnews hone (by unfold maxLen; omega) hby hbase
  have hk := app_block w base t o.type e i z ht hi hz h1s v n xs hown ad c y hy hc hl hb hr
  unfold Oper.wp execOp
  simp only [ho, resolve, invoke, builtin, Sem.run_bind, Sem.run_pure, Result.andThen_ok, List.map_toArray, List.map_cons, List.map_nil, hs, hx, hr]
  exact h v' w' h2 h3 hk

/-- append(out, v), out the call's own: with the block. -/
theorem app_int2 (w : World) (v : Int) {ops : Array Oper} {rest : List Oper} {o : Oper} {a : Act} {Q : Exit → Act → World → Prop}
    (hg : o.guard = none) (s x : Operand) (hop : o.op = Op.call { callee := Callee.builtin Builtin.append, args := #[s, x], argTypes := #[23, 23] })
    (B : Nat) (u : Value) (ys : List Int) (hs : a.eval s = u) (hown : Own w B u ys) (hx : a.eval x = .slice (some ⟨w.heap.size, 0, none⟩) 1 1) (hlen : ys.length ≤ 2000000) (hB : B ≤ w.heap.size)
    (hK : ∀ u' w', Own w' B u' (ys ++ [v]) → w.grownBy w' u.ownBlock → (u'.ownBlock = u.ownBlock ∨ u'.ownBlock = some (w.heap.size + 1)) → wpList Try.prog ops Q rest (a.put o.dst u') w') :
    wpList Try.prog ops Q (o :: rest) a (w.alloc (.cells #[.int .i64 v] 3)) := by
  obtain ⟨i0, hi, hz0, hz1, hz2⟩ := info_parts infoI
  refine wpList_plain hg fun _ hK' => wp_app2 (P := Try.prog) _ s x 23 hop B 3 i0 (.int .i64 0) Try.underlying23 hi hz0 hz1 (by rw [hz2]; decide) rfl u ys.length _ hs (World.ownsRow.alloc hown _) ⟨w.heap.size, 0, none⟩ 1 (.int .i64 v) hx ?_ rfl hlen ?_ ?_
  · simp
  · simp; omega
  · intro v' w' hown' hgrow hk
    refine hK' _ _ (hK v' w' ?_ (grown_trans (World.grownBy_alloc w _ _) hgrow) ?_)
    · unfold Own
      rw [List.length_append, List.map_append]
      exact hown'
    · rcases hk with hk | hk
      · exact Or.inl hk
      · exact Or.inr (by rw [hk]; simp)

/-- Two values of the call's own lie apart. -/
def Apart (u d : Value) : Prop := u.ownBlock = none ∨ u.ownBlock ≠ d.ownBlock
theorem Apart.symm {u d : Value} (h : Apart u d) : Apart d u := by
  unfold Apart at *
  cases e : d.ownBlock with
  | none => exact Or.inl rfl
  | some k =>
    refine Or.inr (fun e2 => ?_)
    rcases h with h | h
    · rw [h] at e2; cases e2
    · exact h (by rw [e, e2])
/-- What was appended to stays apart from what was there. -/
theorem Apart.app {w : World} {B : Nat} {u u' d : Value} {ds : List Int} (h : Apart u d) (hd : Own w B d ds) (hk : u'.ownBlock = u.ownBlock ∨ u'.ownBlock = some (w.heap.size + 1)) : Apart u' d := by
  rcases hk with hk | hk
  · unfold Apart at *
    rw [hk]; exact h
  · refine Or.inr (fun e => ?_)
    rw [hk] at e
    have := (hd.blocks _ e.symm).2
    omega

end Go.Proofs.Ytjphaphnmclbcaa

/- Words for lists of lists of numbers: what a call has made, how it fares in later worlds, how it is read, and how a list is appended to it. No condition. -/
namespace Go.Proofs.Ytjphaphnmclbcaa
open Go.RowKit

/-- The list at place j. -/
def ell (yss : List (List Int)) (j : Nat) : List Int := yss.getD j []
theorem ell_lt {yss : List (List Int)} {j : Nat} (h : j < yss.length) : ell yss j = yss[j] := by simp [ell, h]
theorem ell_app_lt {yss : List (List Int)} {ys : List Int} {j : Nat} (h : j < yss.length) : ell (yss ++ [ys]) j = ell yss j := by simp [ell, List.getElem?_append_left h]
theorem ell_app_eq {yss : List (List Int)} {ys : List Int} : ell (yss ++ [ys]) yss.length = ys := by simp [ell]
theorem ext_ell {xss yss : List (List Int)} (h : xss.length = yss.length) (hj : ∀ j, j < xss.length → ell xss j = ell yss j) : xss = yss := by
  apply List.ext_getElem h
  intro j h1 h2
  have := hj j h1
  rwa [ell_lt h1, ell_lt h2] at this

/-- Only blocks from lo on and below hi, and new ones, have changed. -/
structure Chg (lo hi : Nat) (w w' : World) : Prop where
  os : w'.os = w.os
  tape : w'.tape = w.tape
  output : w'.output = w.output
  size : w.heap.size ≤ w'.heap.size
  block : ∀ k, k < w.heap.size → (k < lo ∨ hi ≤ k) → w'.heap[k]? = w.heap[k]?
theorem Chg.of_below {lo hi : Nat} {w w' : World} (h : Below w.heap.size w w') : Chg lo hi w w' := ⟨h.os, h.tape, h.output, h.size, fun k hk _ => h.block k hk⟩
theorem Chg.of_grown {lo hi : Nat} {w w' : World} {row : Option Nat} (h : w.grownBy w' row) (hr : ∀ k, row = some k → lo ≤ k ∧ k < hi) : Chg lo hi w w' :=
  ⟨h.os, h.tape, h.output, h.size, fun k hk hk2 => h.block k hk (fun e => by have := hr k e.symm; omega)⟩
theorem Chg.refl (lo hi : Nat) (w : World) : Chg lo hi w w := ⟨rfl, rfl, rfl, Nat.le_refl _, fun _ _ _ => rfl⟩
theorem Chg.trans {lo hi : Nat} {a b c : World} (h : Chg lo hi a b) (k : Chg lo hi b c) : Chg lo hi a c :=
  ⟨k.os.trans h.os, k.tape.trans h.tape, k.output.trans h.output, Nat.le_trans h.size k.size, fun i hi hr => (k.block i (Nat.lt_of_lt_of_le hi h.size) hr).trans (h.block i hi hr)⟩
theorem Chg.below {B lo hi : Nat} {a w w' : World} (h : Below B a w) (k : Chg lo hi w w') (hB : B ≤ lo) (hw : B ≤ w.heap.size) : Below B a w' :=
  ⟨k.os.trans h.os, k.tape.trans h.tape, k.output.trans h.output, Nat.le_trans h.size k.size, fun i hi => (k.block i (by omega) (Or.inl (by omega))).trans (h.block i hi)⟩

/-- What a call made, in blocks from B on and below C. -/
structure OwnB (w : World) (B C : Nat) (u : Value) (ys : List Int) : Prop where
  own : Own w B u ys
  lt : ∀ k, u.ownBlock = some k → k < C
theorem Own.win {w : World} {B : Nat} {u : Value} {ys : List Int} (h : Own w B u ys) : OwnB w B w.heap.size u ys := ⟨h, fun k hk => (h.blocks k hk).2⟩
theorem OwnB.chg {w w' : World} {B C lo hi : Nat} {u : Value} {ys : List Int} (h : OwnB w B C u ys) (k : Chg lo hi w w') (hd : C ≤ lo ∨ hi ≤ B) : OwnB w' B C u ys := by
  refine ⟨⟨h.own.1, ?_⟩, h.lt⟩
  rcases h.own.2 with h2 | ⟨g, cap, cur, hv, hg, hh, r⟩
  · exact Or.inl h2
  · have hlt := h.lt g (by rw [hv]; rfl)
    exact Or.inr ⟨g, cap, cur, hv, hg, (k.block g (Array.getElem?_eq_some_iff.1 hh).1 (by omega)).trans hh, r⟩

/-- What a call made: a list of lists, all in blocks from B on and below C and not in block q, each apart from all others. -/
structure OwnLx (q : Option Nat) (w : World) (B C : Nat) (u : Value) (yss : List (List Int)) : Prop where
  ge : B ≤ C
  le : C ≤ w.heap.size
  ex : ∃ vs : List Value, w.ownsRow B 23 1 u yss.length vs ∧ (∀ k, u.ownBlock = some k → k < C ∧ q ≠ some k) ∧
    (∀ (j : Nat) (v : Value), vs[j]? = some v → Own w B v (ell yss j) ∧ (∀ k, v.ownBlock = some k → k < C ∧ q ≠ some k) ∧ Apart v u) ∧
    (∀ (i j : Nat) (v v' : Value), i < j → vs[i]? = some v → vs[j]? = some v' → Apart v v')
def OwnL (w : World) (B C : Nat) (u : Value) (yss : List (List Int)) : Prop := OwnLx none w B C u yss

theorem own_chg {w w' : World} {B : Nat} {u : Value} {ys : List Int} (h : Own w B u ys) (hk : ∀ k, u.ownBlock = some k → k < w.heap.size → w'.heap[k]? = w.heap[k]?) : Own w' B u ys := by
  refine ⟨h.1, ?_⟩
  rcases h.2 with h2 | ⟨g, cap, cur, hv, hg, hh, r⟩
  · exact Or.inl h2
  · exact Or.inr ⟨g, cap, cur, hv, hg, (hk g (by rw [hv]; rfl) (Array.getElem?_eq_some_iff.1 hh).1).trans hh, r⟩

theorem OwnLx.kept {q : Option Nat} {w w' : World} {B C : Nat} {u : Value} {yss : List (List Int)} (h : OwnLx q w B C u yss) (hs : w.heap.size ≤ w'.heap.size) (hk : ∀ k, B ≤ k → k < C → q ≠ some k → w'.heap[k]? = w.heap[k]?) : OwnLx q w' B C u yss := by
  obtain ⟨vs, h1, h2, h3, h4⟩ := h.ex
  refine ⟨h.ge, Nat.le_trans h.le hs, vs, ⟨h1.1, ?_⟩, h2, fun j v hj => ?_, h4⟩
  · rcases h1.2 with h5 | ⟨g, cap, cur, hv, hg, hh, r⟩
    · exact Or.inl h5
    · have hlt := h2 g (by rw [hv]; rfl)
      exact Or.inr ⟨g, cap, cur, hv, hg, (hk g hg hlt.1 hlt.2).trans hh, r⟩
  · obtain ⟨a, b, c⟩ := h3 j v hj
    exact ⟨own_chg a (fun k e _ => hk k (a.blocks k e).1 (b k e).1 (b k e).2), b, c⟩
theorem OwnLx.chg {q : Option Nat} {w w' : World} {B C lo hi : Nat} {u : Value} {yss : List (List Int)} (h : OwnLx q w B C u yss) (k : Chg lo hi w w') (hd : C ≤ lo ∨ hi ≤ B) : OwnLx q w' B C u yss :=
  h.kept k.size (fun j h1 h2 _ => k.block j (Nat.lt_of_lt_of_le h2 h.le) (by omega))
theorem OwnL.chg {w w' : World} {B C lo hi : Nat} {u : Value} {yss : List (List Int)} (h : OwnL w B C u yss) (k : Chg lo hi w w') (hd : C ≤ lo ∨ hi ≤ B) : OwnL w' B C u yss := OwnLx.chg h k hd
theorem OwnLx.later {q : Option Nat} {w w' : World} {B C : Nat} {u : Value} {yss : List (List Int)} (h : OwnLx q w B C u yss) (k : Below w.heap.size w w') : OwnLx q w' B C u yss :=
  h.chg (Chg.of_below (lo := C) (hi := C) k) (Or.inl (Nat.le_refl _))
theorem OwnL.later {w w' : World} {B C : Nat} {u : Value} {yss : List (List Int)} (h : OwnL w B C u yss) (k : Below w.heap.size w w') : OwnL w' B C u yss := OwnLx.later h k
/-- A store into the block that is left out. -/
theorem OwnLx.set {g : Nat} {w : World} {B C : Nat} {u : Value} {yss : List (List Int)} (h : OwnLx (some g) w B C u yss) (j : Nat) (v : Value) : OwnLx (some g) (w.setCell ⟨g, j, none⟩ v) B C u yss :=
  h.kept (by simp [World.setCell]) (fun k _ _ hk => Below.heap_setCell _ _ _ _ (fun e => hk (congrArg some e.symm)))
theorem OwnLx.mono {q : Option Nat} {w : World} {B B' C : Nat} {u : Value} {yss : List (List Int)} (h : OwnLx q w B C u yss) (hB : B' ≤ B) : OwnLx q w B' C u yss := by
  obtain ⟨vs, h1, h2, h3, h4⟩ := h.ex
  refine ⟨Nat.le_trans hB h.ge, h.le, vs, ⟨h1.1, ?_⟩, h2, fun j v hj => ?_, h4⟩
  · rcases h1.2 with h5 | ⟨g, cap, cur, hv, hg, r⟩
    · exact Or.inl h5
    · exact Or.inr ⟨g, cap, cur, hv, Nat.le_trans hB hg, r⟩
  · obtain ⟨a, b, c⟩ := h3 j v hj
    exact ⟨a.mono hB, b, c⟩
theorem OwnL.mono {w : World} {B B' C : Nat} {u : Value} {yss : List (List Int)} (h : OwnL w B C u yss) (hB : B' ≤ B) : OwnL w B' C u yss := OwnLx.mono h hB
theorem OwnLx.any {q : Option Nat} {w : World} {B C : Nat} {u : Value} {yss : List (List Int)} (h : OwnLx q w B C u yss) : OwnL w B C u yss := by
  obtain ⟨vs, h1, h2, h3, h4⟩ := h.ex
  exact ⟨h.ge, h.le, vs, h1, fun k hk => ⟨(h2 k hk).1, fun e => by cases e⟩, fun j v hj => ⟨(h3 j v hj).1, fun k hk => ⟨((h3 j v hj).2.1 k hk).1, fun e => by cases e⟩, (h3 j v hj).2.2⟩, h4⟩
theorem OwnLx.now {q : Option Nat} {w : World} {B C : Nat} {u : Value} {yss : List (List Int)} (h : OwnLx q w B C u yss) : OwnLx q w B w.heap.size u yss := by
  obtain ⟨vs, h1, h2, h3, h4⟩ := h.ex
  have := h.le
  exact ⟨Nat.le_trans h.ge h.le, Nat.le_refl _, vs, h1, fun k hk => ⟨by have := (h2 k hk).1; omega, (h2 k hk).2⟩, fun j v hj => ⟨(h3 j v hj).1, fun k hk => ⟨by have := ((h3 j v hj).2.1 k hk).1; omega, ((h3 j v hj).2.1 k hk).2⟩, (h3 j v hj).2.2⟩, h4⟩
theorem OwnL.now {w : World} {B C : Nat} {u : Value} {yss : List (List Int)} (h : OwnL w B C u yss) : OwnL w B w.heap.size u yss := OwnLx.now h
theorem OwnL.drewN {w : World} {B C : Nat} {u : Value} {yss : List (List Int)} (h : OwnL w B C u yss) (m : Nat) : OwnL (w.drewN m) B C u yss := h.later (drewN_below (Below.refl _ _) m)

/-- The slice value with address ao, length n and capacity cap reads as the lists yss. -/
structure SlL (w : World) (ao : Option Addr) (n cap : Nat) (yss : List (List Int)) : Prop where
  len : yss.length = n
  le : n ≤ cap
  max : cap ≤ maxLen
  row : 0 < n → ∃ b off, ao = some ⟨b, off, none⟩ ∧ b < w.heap.size ∧ ∀ j, j < n → ∃ ai ci, w.cell? ⟨b, off + j, none⟩ = some (.slice ai (ell yss j).length ci) ∧ Sl w ai (ell yss j).length ci (ell yss j)
theorem SlL.later {w w' : World} {ao : Option Addr} {n cap : Nat} {yss : List (List Int)} (h : SlL w ao n cap yss) (hb : Below w.heap.size w w') : SlL w' ao n cap yss := by
  refine ⟨h.len, h.le, h.max, fun hn => ?_⟩
  obtain ⟨b, off, rfl, hlt, hc⟩ := h.row hn
  refine ⟨b, off, rfl, Nat.lt_of_lt_of_le hlt hb.size, fun j hj => ?_⟩
  obtain ⟨ai, ci, h1, h2⟩ := hc j hj
  exact ⟨ai, ci, (hb.cell hlt).trans h1, h2.later hb⟩
theorem SlL.big {w : World} {ao : Option Addr} {n cap : Nat} {yss : List (List Int)} (h : SlL w ao n cap yss) : n ≤ 9223372036854775807 := by
  have := h.le
  have := h.max
  unfold maxLen at this
  omega
theorem SlL.nil {w : World} : SlL w none 0 0 [] := ⟨rfl, Nat.le_refl _, Nat.zero_le _, fun h => by omega⟩
theorem own_one' (w : World) (x : Int) (B : Nat) (hB : B ≤ w.heap.size) : Own (w.alloc (.cells #[.int .i64 x] 3)) B (.slice (some ⟨w.heap.size, 0, none⟩) 1 1) [x] :=
  World.ownsRow_lit w #[.int .i64 x] 1 hB (by decide) rfl
theorem OwnL.sl {w : World} {B C : Nat} {u : Value} {yss : List (List Int)} (h : OwnL w B C u yss) : ∃ ao cap, u = .slice ao yss.length cap ∧ SlL w ao yss.length cap yss := by
  obtain ⟨vs, h1, h2, h3, h4⟩ := h.ex
  have h0 := h1
  rcases h1.2 with ⟨rfl, h5⟩ | ⟨g, cap, cur, rfl, hB, hg, h5, h6, h7, h8⟩
  · have : yss = [] := List.eq_nil_of_length_eq_zero h5
    subst this
    exact ⟨none, 0, rfl, SlL.nil⟩
  · refine ⟨_, cap, rfl, rfl, h5, h6, fun hn => ⟨g, 0, rfl, (Array.getElem?_eq_some_iff.1 hg).1, fun j hj => ?_⟩⟩
    have hl : vs.length = yss.length := by rw [h0.1, Nat.mul_one]
    have hv : vs[j]? = some vs[j] := List.getElem?_eq_getElem (by omega)
    have hc := World.ownsRow.cellAt h0 j (by omega)
    obtain ⟨ai, ci, e, hs⟩ := (h3 j _ hv).1.sl
    refine ⟨ai, ci, ?_, hs⟩
    rw [Nat.zero_add, hc, ← e]
    try simp
theorem OwnL.nil {w : World} {B : Nat} (hB : B ≤ w.heap.size) : OwnL w B B (.slice none 0 0) [] :=
  ⟨Nat.le_refl _, hB, [], World.ownsRow_nil _ _ _ _, fun k hk => by simp [Value.ownBlock] at hk, fun j v hj => by simp at hj, fun i j v v' _ hj => by simp at hj⟩
theorem ownLx_lit {w : World} {B : Nat} {q : Option Nat} (hB : B ≤ w.heap.size) (hq : q ≠ some w.heap.size) : OwnLx q (w.alloc (.cells #[] 23)) B (w.heap.size + 1) (.slice (some ⟨w.heap.size, 0, none⟩) 0 0) [] :=
  ⟨by omega, by simp, [], World.ownsRow_lit w #[] 0 hB (Nat.zero_le _) rfl, fun k hk => by
    simp [Value.ownBlock] at hk
    subst hk
    exact ⟨by omega, hq⟩, fun j v hj => by simp at hj, fun i j v v' _ hj => by simp at hj⟩
theorem ownL_lit {w : World} {B : Nat} (hB : B ≤ w.heap.size) : OwnL (w.alloc (.cells #[] 23)) B (w.heap.size + 1) (.slice (some ⟨w.heap.size, 0, none⟩) 0 0) [] := ownLx_lit hB (fun e => by cases e)

theorem Own.oneCell {w : World} {B : Nat} {u : Value} {ys : List Int} (h : Own w B u ys) : u.oneCell' = true := by
  rcases h.place with ⟨rfl, _⟩ | ⟨g, cap, rfl, _⟩
  · rfl
  · rfl

theorem infoL : (Try.prog.info? 23).map (fun i => (i.zero, i.size, i.bytes)) = some (some (.slice none 0 0), 1, 24) := by kernel_rfl

/-- append(out, list), out the call's own, the list newer than it. -/
theorem app_lstx (q : Option Nat) (D : Nat) (w : World) (v : Value) (ys : List Int) {ops : Array Oper} {rest : List Oper} {o : Oper} {a : Act} {Q : Exit → Act → World → Prop}
    (hg : o.guard = none) (s x : Operand) (hop : o.op = Op.call { callee := Callee.builtin Builtin.append, args := #[s, x], argTypes := #[38, 38] })
    (B C : Nat) (u : Value) (yss : List (List Int)) (h0 : OwnLx q w B C u yss) (hC : C ≤ D) (hws : D ≤ w.heap.size) (hq : ∀ k, q = some k → k < D) (hv : Own w D v ys) (hs : a.eval s = u) (hx : a.eval x = .slice (some ⟨w.heap.size, 0, none⟩) 1 1) (hlen : yss.length ≤ 2000000)
    (hK : ∀ u' w', OwnLx q w' B w'.heap.size u' (yss ++ [ys]) → Below B w w' → w.grownBy w' u.ownBlock → wpList Try.prog ops Q rest (a.put o.dst u') w') :
    wpList Try.prog ops Q (o :: rest) a (w.alloc (.cells #[v] 23)) := by
  obtain ⟨i0, hi, hz0, hz1, hz2⟩ := info_parts infoL
  obtain ⟨vs, h1, h2, h3, h4⟩ := h0.ex
  have hBC := h0.ge
  have hone := hv.oneCell
  have hvb := hv.blocks
  refine wpList_plain hg fun _ hK' => wp_app2 (P := Try.prog) _ s x 38 hop B 23 i0 (.slice none 0 0) Try.underlying38 hi hz0 hz1 (by rw [hz2]; decide) rfl u yss.length vs hs (World.ownsRow.alloc h1 _) ⟨w.heap.size, 0, none⟩ 1 v hx ?_ hone hlen ?_ ?_
  · simp
  · simp; omega
  · intro u' w' hown' hgrow hk
    have hgr : w.grownBy w' u.ownBlock := grown_trans (World.grownBy_alloc w _ _) hgrow
    have hsz : w.heap.size + 1 ≤ w'.heap.size := by have := hgrow.size; simpa using this
    have hblk : u'.ownBlock = u.ownBlock ∨ u'.ownBlock = some (w.heap.size + 1) := by
      rcases hk with hk | hk
      · exact Or.inl hk
      · exact Or.inr (by rw [hk]; simp)
    have hub : ∀ k, u.ownBlock = some k → B ≤ k := fun k hk => (World.ownsRow.lt h1 k hk).1
    have hvl : vs.length = yss.length := by rw [h1.1, Nat.mul_one]
    have hvu : Apart v u := by
      unfold Apart
      cases e : v.ownBlock with
      | none => exact Or.inl rfl
      | some k => exact Or.inr (fun e2 => by have a1 := (h2 k e2.symm).1; have a2 := (hvb k e).1; omega)
    have hmv : ∀ t, (∀ k, t.ownBlock = some k → k < w.heap.size) → Apart t u → Apart t u' := by
      intro t ht hap
      unfold Apart at *
      rcases hblk with e | e
      · rw [e]; exact hap
      · rw [e]
        cases e2 : t.ownBlock with
        | none => exact Or.inl rfl
        | some k => exact Or.inr (fun e3 => by have := ht k e2; have := Option.some.inj e3; omega)
    have hqn : ∀ k, D ≤ k → q ≠ some k := fun k hk e => by have := hq k e; omega
    refine hK' _ _ (hK u' w' ⟨by omega, Nat.le_refl _, vs ++ [v], ?_, ?_, ?_, ?_⟩ ?_ hgr)
    · rw [List.length_append]; exact hown'
    · intro k hk
      refine ⟨(World.ownsRow.lt hown' k hk).2, ?_⟩
      rcases hblk with e | e
      · rw [e] at hk; exact (h2 k hk).2
      · rw [e] at hk; obtain rfl := Option.some.inj hk; exact hqn _ (by omega)
    · intro j t hj
      by_cases hjl : j < vs.length
      · rw [List.getElem?_append_left hjl] at hj
        obtain ⟨p, q', r⟩ := h3 j t hj
        rw [ell_app_lt (by omega)]
        exact ⟨p.kept hgr r, fun k hk => ⟨by have := (q' k hk).1; omega, (q' k hk).2⟩, hmv t (fun k hk => by have := (q' k hk).1; omega) r⟩
      · have hj2 : j = yss.length := by
          have := (List.getElem?_eq_some_iff.1 hj).1
          rw [List.length_append, List.length_singleton] at this
          omega
        subst hj2
        rw [List.getElem?_append_right (by omega), hvl, Nat.sub_self] at hj
        simp at hj
        subst hj
        rw [ell_app_eq]
        exact ⟨(hv.kept hgr hvu).mono (by omega), fun k hk => ⟨by have := (hvb k hk).2; omega, hqn k (hvb k hk).1⟩, hmv v (fun k hk => (hvb k hk).2) hvu⟩
    · intro i j t t' hij hti htj
      have hil : i < vs.length := by
        have := (List.getElem?_eq_some_iff.1 htj).1
        rw [List.length_append, List.length_singleton] at this
        omega
      rw [List.getElem?_append_left hil] at hti
      by_cases hjl : j < vs.length
      · rw [List.getElem?_append_left hjl] at htj
        exact h4 i j t t' hij hti htj
      · have hj2 : j = vs.length := by
          have := (List.getElem?_eq_some_iff.1 htj).1
          rw [List.length_append, List.length_singleton] at this
          omega
        subst hj2
        rw [List.getElem?_append_right (Nat.le_refl _), Nat.sub_self] at htj
        simp at htj
        subst htj
        unfold Apart
        cases e : t.ownBlock with
        | none => exact Or.inl rfl
        | some k => exact Or.inr (fun e2 => by have a1 := ((h3 i t hti).2.1 k e).1; have a2 := (hvb k e2.symm).1; omega)
    · exact below_of_grown hgr (by omega) (fun k hk => hub k hk)

theorem app_lst (w0 w : World) (v : Value) (ys : List Int) {ops : Array Oper} {rest : List Oper} {o : Oper} {a : Act} {Q : Exit → Act → World → Prop}
    (hg : o.guard = none) (s x : Operand) (hop : o.op = Op.call { callee := Callee.builtin Builtin.append, args := #[s, x], argTypes := #[38, 38] })
    (B C : Nat) (u : Value) (yss : List (List Int)) (h0 : OwnL w0 B C u yss) (hb : Below w0.heap.size w0 w) (hv : Own w w0.heap.size v ys) (hs : a.eval s = u) (hx : a.eval x = .slice (some ⟨w.heap.size, 0, none⟩) 1 1) (hlen : yss.length ≤ 2000000)
    (hK : ∀ u' w', OwnL w' B w'.heap.size u' (yss ++ [ys]) → Below B w w' → wpList Try.prog ops Q rest (a.put o.dst u') w') :
    wpList Try.prog ops Q (o :: rest) a (w.alloc (.cells #[v] 23)) :=
  app_lstx none w0.heap.size w v ys hg s x hop B C u yss (OwnLx.later h0 hb) (OwnLx.le h0) hb.size (fun k e => by cases e) hv hs hx hlen (fun u' w' h1 h2 _ => hK u' w' h1 h2)

/-- A call made a list of lists, and turned nothing that was there. -/
def MadeL (w : World) (yss : List (List Int)) (e : Ending) (w' : World) : Prop := ∃ u, e = .returned u ∧ OwnL w' w.heap.size w'.heap.size u yss ∧ Below w.heap.size w w'
theorem madeL_to {P : Program} {f : FuncId} {a : Array Value} {w : World} {v v' : List (List Int)} (h : Calls P f a w (MadeL w v)) (e : v = v') : Calls P f a w (MadeL w v') := e ▸ h
/-- A list for an order, nil for other numbers. -/
def onVL (xs : List Int) (yss : List (List Int)) : List (List Int) := if Valid xs then yss else []
theorem onVL_yes {xs : List Int} {yss : List (List Int)} (h : Valid xs) : onVL xs yss = yss := if_pos h
theorem onVL_no {xs : List Int} {yss : List (List Int)} (h : ¬ Valid xs) : onVL xs yss = [] := if_neg h

end Go.Proofs.Ytjphaphnmclbcaa

/- The lists and numbers of the second chapter, as plain functions of lists. No condition. -/
namespace Go.Proofs.Ytjphaphnmclbcaa

/-- The places among the first k that fit with their numbers. -/
def plP (f : Int → Int → Bool) (xs : List Int) : Nat → List Int
  | 0 => []
  | k + 1 => if f k (el xs k) then plP f xs k ++ [(k : Int)] else plP f xs k
theorem plP_yes {f : Int → Int → Bool} {xs : List Int} {k : Nat} (h : f k (el xs k) = true) : plP f xs (k + 1) = plP f xs k ++ [(k : Int)] := by rw [plP, if_pos h]
theorem plP_no {f : Int → Int → Bool} {xs : List Int} {k : Nat} (h : f k (el xs k) = false) : plP f xs (k + 1) = plP f xs k := by rw [plP, h]; simp
theorem plP_len (f : Int → Int → Bool) (xs : List Int) (k : Nat) : (plP f xs k).length ≤ k := by
  induction k with
  | zero => simp [plP]
  | succ k ih =>
    rw [plP]
    split
    · rw [List.length_append, List.length_singleton]; omega
    · omega
theorem plP_mem (f : Int → Int → Bool) (xs : List Int) (k : Nat) : ∀ x ∈ plP f xs k, 0 ≤ x ∧ x < k := by
  induction k with
  | zero => intro x hx; simp [plP] at hx
  | succ k ih =>
    intro x hx
    rw [plP] at hx
    split at hx
    · rw [List.mem_append, List.mem_singleton] at hx
      rcases hx with hx | hx
      · have := ih x hx; omega
      · omega
    · have := ih x hx; omega
def upF (i u : Int) : Bool := decide (i < u)
def fixF (i u : Int) : Bool := decide (u = i)
def above (xs : List Int) : List Int := plP upF xs xs.length
def fixed (xs : List Int) : List Int := plP fixF xs xs.length
theorem above_len (xs : List Int) : (above xs).length ≤ xs.length := plP_len _ _ _
theorem fixed_len (xs : List Int) : (fixed xs).length ≤ xs.length := plP_len _ _ _

/-- The greatest of the first k numbers, or -1; the places of those that are greater than all ahead. -/
def mxP (xs : List Int) : Nat → Int
  | 0 => -1
  | k + 1 => if mxP xs k < el xs k then el xs k else mxP xs k
def rcP (xs : List Int) : Nat → List Int
  | 0 => []
  | k + 1 => if mxP xs k < el xs k then rcP xs k ++ [(k : Int)] else rcP xs k
theorem mxP_yes {xs : List Int} {k : Nat} (h : mxP xs k < el xs k) : mxP xs (k + 1) = el xs k := by rw [mxP, if_pos h]
theorem mxP_no {xs : List Int} {k : Nat} (h : el xs k ≤ mxP xs k) : mxP xs (k + 1) = mxP xs k := by rw [mxP, if_neg (by omega)]
theorem rcP_yes {xs : List Int} {k : Nat} (h : mxP xs k < el xs k) : rcP xs (k + 1) = rcP xs k ++ [(k : Int)] := by rw [rcP, if_pos h]
theorem rcP_no {xs : List Int} {k : Nat} (h : el xs k ≤ mxP xs k) : rcP xs (k + 1) = rcP xs k := by rw [rcP, if_neg (by omega)]
theorem rcP_len (xs : List Int) (k : Nat) : (rcP xs k).length ≤ k := by
  induction k with
  | zero => simp [rcP]
  | succ k ih =>
    rw [rcP]
    split
    · rw [List.length_append, List.length_singleton]; omega
    · omega
def records (xs : List Int) : List Int := rcP xs xs.length
theorem records_len (xs : List Int) : (records xs).length ≤ xs.length := rcP_len _ _

/-- How far the first k numbers are from their places. -/
def shP (xs : List Int) : Nat → Int
  | 0 => 0
  | k + 1 => shP xs k + max (el xs k - k) (k - el xs k)
def shift (xs : List Int) : Int := shP xs xs.length
theorem shP_bd {xs : List Int} (h : Valid xs) : ∀ k, k ≤ xs.length → 0 ≤ shP xs k ∧ shP xs k ≤ 7 * k := by
  intro k
  induction k with
  | zero => intro _; simp [shP]
  | succ k ih =>
    intro hk
    have h1 := ih (by omega)
    have h2 := h.lo k (by omega)
    have h3 := h.hi k (by omega)
    have h4 := h.len
    rw [shP]
    omega

/-- How many pairs of places i < k, k among the first ones, fit with their numbers. -/
def inP (f : Int → Int → Int → Int → Bool) (xs : List Int) (k t : Nat) : Int := cntP (fun i => f i (el xs i) k (el xs k)) t
def prP (f : Int → Int → Int → Int → Bool) (xs : List Int) : Nat → Int
  | 0 => 0
  | k + 1 => prP f xs k + inP f xs k k
def pairs (f : Int → Int → Int → Int → Bool) (xs : List Int) : Int := prP f xs xs.length
theorem inP_bd (f : Int → Int → Int → Int → Bool) (xs : List Int) (k t : Nat) : 0 ≤ inP f xs k t ∧ inP f xs k t ≤ t := cntP_bd _ _
theorem inP_yes {f : Int → Int → Int → Int → Bool} {xs : List Int} {k t : Nat} (h : f t (el xs t) k (el xs k) = true) : inP f xs k (t + 1) = inP f xs k t + 1 := cntP_yes h
theorem inP_no {f : Int → Int → Int → Int → Bool} {xs : List Int} {k t : Nat} (h : f t (el xs t) k (el xs k) = false) : inP f xs k (t + 1) = inP f xs k t := cntP_no h
theorem prP_bd (f : Int → Int → Int → Int → Bool) (xs : List Int) (k : Nat) : 0 ≤ prP f xs k ∧ prP f xs k ≤ k * k := by
  induction k with
  | zero => simp [prP]
  | succ k ih =>
    have := inP_bd f xs k k
    rw [prP]
    have e : ((k + 1 : Nat) : Int) * (k + 1 : Nat) = k * k + k + k + 1 := by rw [Int.natCast_add, Int.add_mul, Int.mul_add]; simp; omega
    omega
def crossF (i u k v : Int) : Bool := decide (k ≤ u) && decide (u < v) || decide (u < v) && decide (v < i)
def nestF (i u k v : Int) : Bool := decide (k ≤ v) && decide (v < u) || decide (v < u) && decide (u < i)
def denF (i u k v : Int) : Bool := decide (v < u) && (decide (i < u) == decide (k < v))

end Go.Proofs.Ytjphaphnmclbcaa

/- Foata's map and its way back, as plain functions of lists. No condition. -/
namespace Go.Proofs.Ytjphaphnmclbcaa

/-- Does z lie on the side of x that low names? -/
def sid (low : Bool) (x z : Int) : Bool := decide (z < x) == low
/-- The first i numbers of v, cut behind those of the side: the pieces that are turned, and the one that is open. -/
def tbP (low : Bool) (x : Int) (v : List Int) : Nat → List Int × List Int
  | 0 => ([], [])
  | i + 1 => if sid low x (el v i) then ((tbP low x v i).1 ++ [el v i] ++ (tbP low x v i).2, []) else ((tbP low x v i).1, (tbP low x v i).2 ++ [el v i])
theorem tbP_yes {low : Bool} {x : Int} {v : List Int} {i : Nat} (h : sid low x (el v i) = true) : tbP low x v (i + 1) = ((tbP low x v i).1 ++ [el v i] ++ (tbP low x v i).2, []) := by rw [tbP, if_pos h]
theorem tbP_no {low : Bool} {x : Int} {v : List Int} {i : Nat} (h : sid low x (el v i) = false) : tbP low x v (i + 1) = ((tbP low x v i).1, (tbP low x v i).2 ++ [el v i]) := by rw [tbP, h]; simp
theorem tbP_len (low : Bool) (x : Int) (v : List Int) (i : Nat) : (tbP low x v i).1.length + (tbP low x v i).2.length = i := by
  induction i with
  | zero => rfl
  | succ i ih =>
    rw [tbP]
    split
    · simp; omega
    · simp; omega
/-- The open piece is the end of what was looked at. -/
theorem tbP_run (low : Bool) (x : Int) (v : List Int) (i : Nat) (hi : i ≤ v.length) : (tbP low x v i).2 = (v.take i).drop (tbP low x v i).1.length := by
  induction i with
  | zero => simp [tbP]
  | succ i ih =>
    have hl := tbP_len low x v i
    rw [tbP]
    split
    · rw [List.drop_eq_nil_of_le]
      simp; omega
    · show _ = (v.take (i + 1)).drop _
      rw [take_el (by omega), List.drop_append_of_le_length (by simp; omega), ← ih (by omega)]
def lowOf (v : List Int) (x : Int) : Bool := decide (0 < v.length) && decide (el v (v.length - 1) < x)
def turnB (v : List Int) (x : Int) : List Int := (tbP (lowOf v x) x v v.length).1 ++ (tbP (lowOf v x) x v v.length).2
theorem turnB_len (v : List Int) (x : Int) : (turnB v x).length = v.length := by rw [turnB, List.length_append, tbP_len]
def foP (xs : List Int) : Nat → List Int
  | 0 => []
  | k + 1 => turnB (foP xs k) (el xs k) ++ [el xs k]
theorem foP_len (xs : List Int) (k : Nat) : (foP xs k).length = k := by
  induction k with
  | zero => rfl
  | succ k ih => rw [foP, List.length_append, turnB_len, ih]; rfl
def foat (xs : List Int) : List Int := foP xs xs.length
theorem foat_len (xs : List Int) : (foat xs).length = xs.length := foP_len _ _

/-- Numbers from the last one on, cut ahead of those of the side: the open piece at the beginning, and the pieces that are turned back. -/
def bkS (low : Bool) (x : Int) : List Int → List Int × List Int
  | [] => ([], [])
  | y :: v => if sid low x y then ([], (bkS low x v).1 ++ [y] ++ (bkS low x v).2) else (y :: (bkS low x v).1, (bkS low x v).2)
theorem bkS_len (low : Bool) (x : Int) (v : List Int) : (bkS low x v).1.length + (bkS low x v).2.length = v.length := by
  induction v with
  | nil => rfl
  | cons y v ih =>
    rw [bkS]
    split
    · simp; omega
    · simp; omega
theorem bkS_run (low : Bool) (x : Int) (v : List Int) : (bkS low x v).1 = v.take (bkS low x v).1.length := by
  induction v with
  | nil => rfl
  | cons y v ih =>
    rw [bkS]
    split
    · simp
    · simp only [List.length_cons, List.take_succ_cons]
      rw [← ih]
/-- From place j on. -/
theorem drop_cons {v : List Int} {j : Nat} (h : j < v.length) : v.drop j = el v j :: v.drop (j + 1) := by
  rw [el_lt h]; exact List.drop_eq_getElem_cons h
theorem bkS_yes {low : Bool} {x : Int} {v : List Int} {j : Nat} (hj : j < v.length) (h : sid low x (el v j) = true) : bkS low x (v.drop j) = ([], (bkS low x (v.drop (j + 1))).1 ++ [el v j] ++ (bkS low x (v.drop (j + 1))).2) := by
  rw [drop_cons hj, bkS, if_pos h]
theorem bkS_no {low : Bool} {x : Int} {v : List Int} {j : Nat} (hj : j < v.length) (h : sid low x (el v j) = false) : bkS low x (v.drop j) = (el v j :: (bkS low x (v.drop (j + 1))).1, (bkS low x (v.drop (j + 1))).2) := by
  rw [drop_cons hj, bkS, h]; simp
def lowB (v : List Int) (x : Int) : Bool := decide (0 < v.length) && decide (el v 0 < x)
def backB (v : List Int) (x : Int) : List Int := (bkS (lowB v x) x v).1 ++ (bkS (lowB v x) x v).2
theorem backB_len (v : List Int) (x : Int) : (backB v x).length = v.length := by rw [backB, List.length_append, bkS_len]
/-- The first n - t numbers after t steps back; what stands behind them is done. -/
def fbP (xs : List Int) : Nat → List Int
  | 0 => xs
  | t + 1 => backB ((fbP xs t).take ((fbP xs t).length - 1)) (el (fbP xs t) ((fbP xs t).length - 1))
def fbT (xs : List Int) : Nat → List Int
  | 0 => []
  | t + 1 => el (fbP xs t) ((fbP xs t).length - 1) :: fbT xs t
theorem fbP_len (xs : List Int) (t : Nat) : (fbP xs t).length = xs.length - t := by
  induction t with
  | zero => rfl
  | succ t ih => rw [fbP, backB_len, List.length_take, ih]; omega
theorem fbT_len (xs : List Int) (t : Nat) : (fbT xs t).length = t := by
  induction t with
  | zero => rfl
  | succ t ih => rw [fbT, List.length_cons, ih]
def fbac (xs : List Int) : List Int := fbT xs xs.length
theorem fbac_len (xs : List Int) : (fbac xs).length = xs.length := fbT_len _ _

end Go.Proofs.Ytjphaphnmclbcaa

/- A reckoning over all orders, in eight parts: those of at most six values, and those of seven by their first values. No condition. -/
namespace Go.Proofs.Ytjphaphnmclbcaa

/-- All orders of seven values that begin with x. -/
def begun (x : Int) : List (List Int) := (perms 6 ((rng 7).erase x)).map (x :: ·)
theorem Valid.parts {xs : List Int} (h : Valid xs) {p : List Int → Bool} (h6 : (allUpTo 6).all p = true) (h7 : ∀ x ∈ rng 7, (begun x).all p = true) : p xs = true := by
  by_cases e : xs.length ≤ 6
  · exact h.all' e h6
  · have e7 : xs.length = 7 := by have := h.len; omega
    have hm := h.in_orders
    rw [e7, orders] at hm
    simp only [perms, List.mem_flatMap] at hm
    obtain ⟨x, hx, hm⟩ := hm
    exact List.all_eq_true.1 (h7 x hx) xs hm
theorem seven {P : Int → Prop} (h0 : P 0) (h1 : P 1) (h2 : P 2) (h3 : P 3) (h4 : P 4) (h5 : P 5) (h6 : P 6) : ∀ x ∈ rng 7, P x := by
  intro x hx
  have := (mem_rng 7 x).1 hx
  obtain ⟨v, rfl⟩ := Int.eq_ofNat_of_zero_le this.1
  match v, this.2 with
  | 0, _ => exact h0
  | 1, _ => exact h1
  | 2, _ => exact h2
  | 3, _ => exact h3
  | 4, _ => exact h4
  | 5, _ => exact h5
  | 6, _ => exact h6
  | v + 7, h => exact absurd h (by omega)

end Go.Proofs.Ytjphaphnmclbcaa

