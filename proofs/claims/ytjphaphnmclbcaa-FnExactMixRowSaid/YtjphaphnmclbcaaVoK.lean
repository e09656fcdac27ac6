/- ValidOrder for one of the two goroutines under way. Condition: the numbers are an order, of one's own or shared. -/
import Derived.Test.YtjphaphnmclbcaaVwK
import Derived.Test.YtjphaphnmclbcaaBnf
import Derived.Test.YtjphaphnmclbcaaBnd
namespace Go.Proofs.Ytjphaphnmclbcaa
open Go Go.RowKit

theorem run_eq7 (a0 a1 a2 a3 a4 a5 a6 : Int) (d : Nat) (w : World) (es : Array Event) : (Op.equalIn (d + 2) 72 (.agg #[.int .i64 a0, .int .i64 a1, .int .i64 a2, .int .i64 a3, .int .i64 a4, .int .i64 a5, .int .i64 a6]) (.agg #[.int .i64 a0, .int .i64 a1, .int .i64 a2, .int .i64 a3, .int .i64 a4, .int .i64 a5, .int .i64 a6])).run Try.prog w = .ok true w ∧
    (Op.equalIn (d + 2) 72 (.agg #[.int .i64 a0, .int .i64 a1, .int .i64 a2, .int .i64 a3, .int .i64 a4, .int .i64 a5, .int .i64 a6]) (.agg #[.int .i64 a0, .int .i64 a1, .int .i64 a2, .int .i64 a3, .int .i64 a4, .int .i64 a5, .int .i64 a6])).events Try.prog w es = es := by
  have hu := Try.underlying72
  obtain ⟨i0, hii, hz0, hz1, hz2⟩ := info_parts infoI
  unfold Op.equalIn underlying
  simp [hu, Go.sizeOf, typeInfo, hii, hz1, Std.Legacy.Range.forIn_eq_forIn_range', List.range', run_part4, ev_part4, run_eqInt, ev_eqInt]
theorem infoPl : (Try.prog.info? 72).map (·.size) = some 7 := by kernel_rfl
theorem infoPz : (Try.prog.info? 72).map (fun i => i.zero) = some (some (.agg (([0, 0, 0, 0, 0, 0, 0].map (Value.int .i64)).toArray))) := by kernel_rfl

open Go.Conc in
/-- Two arrays of seven numbers that are one, compared. -/
theorem opsC_eq7 {main : Bool} {Sh : Nat → Prop} {ι : Type} {C : Gh ι → Goroutine → World → Prop} {fn : FuncId} {Q : Exit → Act → World → Gh ι → Prop} {a a' : Act} {w : World} {M : Gh ι} {ops : Array Oper} {i : Nat} {rest : List Nat} {o : Oper}
    (hS : Fam Try.prog main Sh C) (ho : ops[i]? = some o) (hw : Region.wanted o (yielded ops a.tmps) = true) {x y : Operand} {ty : TypeId} {fs : List Int} (hl : fs.length = 7) (hop : o.op = .binOp .eql 72 x y ty) (hx : a.eval x = .agg (fs.map (Value.int .i64)).toArray)
    (hy : a.eval y = .agg (fs.map (Value.int .i64)).toArray) (ha : a.put o.dst (.bool true) = a') (h : OpsC C fn ops rest Q a' w M) : OpsC C fn ops (i :: rest) Q a w M := by
  match fs, hl with
  | [a0, a1, a2, a3, a4, a5, a6], _ =>
    have e1 := fun (w : World) (es : Array Event) => run_eq7 a0 a1 a2 a3 a4 a5 a6 9998 w es
    simp only [List.map_cons, List.map_nil] at hx hy
    refine opsC_val hS ho hw (v := .bool true) (fun w => ?_) (fun w => ?_) ha h
    · unfold execOp
      simp only [hop, hx, hy]
      simp [eqGuard, binOp, Op.equal, Op.maxDepth, (e1 _ #[]).1]
    · unfold execOp
      simp only [hop, hx, hy]
      simp [eqGuard, binOp, Op.equal, Op.maxDepth, (e1 _ _).2]

open Go.Conc in
/-- An array of seven numbers, a place of it. -/
theorem opsC_indexP7 {main : Bool} {Sh : Nat → Prop} {ι : Type} {C : Gh ι → Goroutine → World → Prop} {fn : FuncId} {Q : Exit → Act → World → Gh ι → Prop} {a a' : Act} {w : World} {M : Gh ι} {ops : Array Oper} {i : Nat} {rest : List Nat} {o : Oper}
    (hS : Fam Try.prog main Sh C) (ho : ops[i]? = some o) (hw : Region.wanted o (yielded ops a.tmps) = true) {x y : Operand} {g j : Nat} {z : Int} (hop : o.op = .indexAddr 72 x y) (hx : a.eval x = .pointer (some ⟨g, 0, none⟩)) (hy : a.eval y = .int .i64 z)
    (hz : z = j) (hj : j < 7) (h : OpsC C fn ops rest Q a' w M) (ha : a.put o.dst (.pointer (some ⟨g, j, none⟩)) = a' := by (with_reducible simp only [Act.put, Act.eval, Array.getD_eq_getD_getElem?, List.getElem?_toArray, List.getElem_toArray, List.getElem_cons_zero, List.getElem_cons_succ, List.getElem?_cons_zero, List.getElem?_cons_succ, Option.getD_some, List.setIfInBounds_toArray, List.set_cons_zero, List.set_cons_succ]); exact rfl) : OpsC C fn ops (i :: rest) Q a w M := by
  have hu := Try.underlying72
  obtain ⟨i0, hii, hz0, hz1, hz2⟩ := info_parts infoI
  have hadd : (⟨g, 0, none⟩ : Addr).add j = ⟨g, j, none⟩ := by unfold Addr.add; split <;> simp_all
  subst hz
  refine opsC_val hS ho hw (v := .pointer (some ⟨g, j, none⟩)) (fun w => ?_) (fun w => ?_) ha h
  · unfold execOp
    simp only [hop, hx, hy]
    simp [Instr.indexAt, Instr.sureAddr, asIntOf, run_underlying hu, hj, Go.sizeOf, typeInfo, hii, hz1, hadd]
  · unfold execOp
    simp only [hop, hx, hy]
    simp [Instr.indexAt, Instr.sureAddr, asIntOf, run_underlying hu, hj, Go.sizeOf, typeInfo, hii]

open Go.Conc in
theorem Arr.rl {Sh M : Nat → Prop} {w w₁ : World} {g T : Nat} {fs : List Int} (h : Arr w g T fs) (hr : Rl Sh M w w₁) (hm : M g) : Arr w₁ g T fs := (hr.keep g (.inr hm)).trans h

open Go.Conc in
/-- From there to here: blocks of one's own that are new have been made and written. -/
structure St2 (Sh : Nat → Prop) {ι : Type} (w : World) (M : Gh ι) (w' : World) (M' : Gh ι) : Prop where
  fwd : Fwd Sh w M w' M'
  there : There Sh w' M'
section
open Go.Conc
variable {Sh : Nat → Prop} {ι : Type} {w w' w₁ : World} {M M' : Gh ι}
theorem St2.refl (h : There Sh w M) : St2 Sh w M w M := ⟨Fwd.refl _ _ _, h⟩
theorem St2.trans {a b c : World} {L N O : Gh ι} (h : St2 Sh a L b N) (k : St2 Sh b N c O) : St2 Sh a L c O := ⟨h.fwd.trans k.fwd, k.there⟩
theorem St2.grown (h : St2 Sh w M w' M') (hM : There Sh w M) (hr : Rl Sh M'.2 w' w₁) {w₂ : World} {row : Option Nat} (hg : w₁.grownBy w₂ row) (hrow : ∀ k, row = some k → w.heap.size ≤ k) : St2 Sh w M w₂ ((M'.1, grow M'.2 w₁ w₂) : Gh ι) :=
  ⟨h.fwd.grown hr hg hrow hM, h.there.grown hr hg.size⟩
theorem St2.store (h : St2 Sh w M w' M') (hM : There Sh w M) (hr : Rl Sh M'.2 w' w₁) (ad : Addr) (v : Value) (hb : w.heap.size ≤ ad.block) : St2 Sh w M (w₁.setCell ad v) M' := by
  have := h.grown hM hr (grownBy_setCell w₁ ad v) (fun k hk => by cases hk; exact hb)
  rwa [grow_same _ (setCell_size _ _ _)] at this
theorem St2.alloc (h : St2 Sh w M w' M') (hM : There Sh w M) (hr : Rl Sh M'.2 w' w₁) (ob : Obj) : St2 Sh w M (w₁.alloc ob) ((M'.1, grow M'.2 w₁ (w₁.alloc ob)) : Gh ι) := h.grown hM hr (World.grownBy_alloc w₁ ob none) (fun k hk => by cases hk)
theorem SlK.st {ao : Option Addr} {n : Nat} {xs : List Int} (h : SlK Sh w M ao n xs) (k : St2 Sh w M w' M') : SlK Sh w' M' ao n xs := h.fwd k.fwd
end

open Go.Conc
set_option linter.unusedSimpArgs false in
set_option maxHeartbeats 4000000 in
theorem voC {main : Bool} {Sh : Nat → Prop} {ι : Type} {C : Gh ι → Goroutine → World → Prop} (hS : Fam Try.prog main Sh C) (ao : Option Addr) (n cap : Nat) (xs : List Int) (w : World) (M : Gh ι) (hM : There Sh w M) (h : SlK Sh w M ao n xs) (hv : Valid xs) :
    CallsC Try.prog C 59 #[.slice ao n cap] w M (fun r w' M' => r = .bool true ∧ St2 Sh w M w' M') := by
  have h7 : n ≤ 7 := by have := hv.len; rw [h.len] at this; exact this
  refine callsC_of_wpC hS Try.func59 rfl ?_
  simp only [Try.ntmps59, List.size_toArray, List.length_cons, List.length_nil, Nat.reduceAdd, Nat.reduceSub, Array.replicate_succ,
     Array.replicate_zero, List.push_toArray, List.append_toArray, List.nil_append, List.cons_append]
  repeat refine wpC_seq hS ?_
  refine wpC_region hS ?_
  simp only [List.size_toArray, List.length_cons, List.length_nil, Nat.reduceAdd, Nat.zero_add, List.range, List.range.loop]
  repeat first
    | refine opsC_moveA hS rfl rfl (.inl rfl) ?_
    | refine opsC_moveA hS rfl rfl (.inr rfl) ?_
    | refine opsC_binA hS rfl rfl rfl rfl rfl rfl ?_
    | refine opsC_lenA hS rfl rfl rfl (by kernel_rfl) rfl ?_
    | (refine opsC_plain hS rfl rfl fun _ K hK => ?_; go_simp; refine hK _ (by simp [go_sem, events_cap_slice, events_slice_hi, *]) ?_; clear hK K; try walk_nrm)
  refine opsC_nil hS ?_
  show WpC _ _ _ _ _ _ _
  repeat refine wpC_seq hS ?_
  refine wpC_region hS ?_
  simp only [List.size_toArray, List.length_cons, List.length_nil, Nat.reduceAdd, Nat.zero_add, List.range, List.range.loop]
  first
    | refine opsC_moveA hS rfl rfl (.inl rfl) ?_
    | refine opsC_moveA hS rfl rfl (.inr rfl) ?_
    | refine opsC_binA hS rfl rfl rfl rfl rfl rfl ?_
    | refine opsC_lenA hS rfl rfl rfl (by kernel_rfl) rfl ?_
    | (refine opsC_plain hS rfl rfl fun _ K hK => ?_; go_simp; refine hK _ (by simp [go_sem, events_cap_slice, events_slice_hi, *]) ?_; clear hK K; try walk_nrm)
  first
    | refine opsC_moveA hS rfl rfl (.inl rfl) ?_
    | refine opsC_moveA hS rfl rfl (.inr rfl) ?_
    | refine opsC_binA hS rfl rfl rfl rfl rfl rfl ?_
    | refine opsC_lenA hS rfl rfl rfl (by kernel_rfl) rfl ?_
    | (refine opsC_plain hS rfl rfl fun _ K hK => ?_; go_simp; refine hK _ (by simp [go_sem, events_cap_slice, events_slice_hi, *]) ?_; clear hK K; try walk_nrm)
  refine opsC_binA (v := .bool false) hS rfl rfl rfl rfl rfl (by simp [int2]; omega) ?_
  refine opsC_nil hS ?_
  show WpC _ _ _ _ _ _ _
  repeat refine wpC_seq hS ?_
  refine wpC_cond (t := false) hS rfl ?_
  simp only [if_true, if_false, Bool.false_eq_true]
  refine wpC_skip hS ?_
  show WpC _ _ _ _ _ _ _
  repeat refine wpC_seq hS ?_
  refine wpC_region hS ?_
  simp only [List.size_toArray, List.length_cons, List.length_nil, Nat.reduceAdd, Nat.zero_add, List.range, List.range.loop]
  obtain ⟨iz, hiz, hzz⟩ := Option.map_eq_some_iff.1 infoPz
  refine opsC_alloc hS rfl rfl rfl hiz hzz fun wa ha => ?_
  have s1 := (St2.refl hM).alloc hM ha (.cells (([0, 0, 0, 0, 0, 0, 0].map (Value.int .i64)).toArray) 72)
  have A1 : Arr (wa.alloc (.cells (([0, 0, 0, 0, 0, 0, 0].map (Value.int .i64)).toArray) 72)) wa.heap.size 72 [0, 0, 0, 0, 0, 0, 0] := Arr.made wa _ _
  have m1 : (grow M.2 wa (wa.alloc (.cells (([0, 0, 0, 0, 0, 0, 0].map (Value.int .i64)).toArray) 72))) wa.heap.size := .inr ⟨Nat.le_refl _, by rw [World.size_alloc]; exact Nat.lt_succ_self _⟩
  have hz1 : w.heap.size ≤ wa.heap.size := ha.size
  obtain ⟨w1, hw1⟩ : ∃ w1, w1 = wa.alloc (.cells (([0, 0, 0, 0, 0, 0, 0].map (Value.int .i64)).toArray) 72) := ⟨_, rfl⟩
  have hl1 : wa.heap.size < w1.heap.size := by rw [hw1, World.size_alloc]; exact Nat.lt_succ_self _
  show OpsC C _ _ _ _ _ (wa.alloc (.cells (([0, 0, 0, 0, 0, 0, 0].map (Value.int .i64)).toArray) 72)) (M.1, grow M.2 wa (wa.alloc (.cells (([0, 0, 0, 0, 0, 0, 0].map (Value.int .i64)).toArray) 72)))
  rw [← hw1] at s1 A1 m1 ⊢
  clear hw1
  obtain ⟨M1, hM1⟩ : ∃ M1 : Gh ι, M1 = (M.1, grow M.2 wa w1) := ⟨_, rfl⟩
  replace m1 : M1.2 wa.heap.size := by rw [hM1]; exact m1
  rw [← hM1] at s1 ⊢
  clear hM1
  refine opsC_alloc hS rfl rfl rfl hiz hzz fun wb hb => ?_
  have s2 := s1.alloc hM hb (.cells (([0, 0, 0, 0, 0, 0, 0].map (Value.int .i64)).toArray) 72)
  have A2 : Arr (wb.alloc (.cells (([0, 0, 0, 0, 0, 0, 0].map (Value.int .i64)).toArray) 72)) wb.heap.size 72 [0, 0, 0, 0, 0, 0, 0] := Arr.made wb _ _
  replace A1 := (A1.rl hb m1).alloc (.cells (([0, 0, 0, 0, 0, 0, 0].map (Value.int .i64)).toArray) 72)
  have m2 : (grow M1.2 wb (wb.alloc (.cells (([0, 0, 0, 0, 0, 0, 0].map (Value.int .i64)).toArray) 72))) wb.heap.size := .inr ⟨Nat.le_refl _, by rw [World.size_alloc]; exact Nat.lt_succ_self _⟩
  replace m1 : (grow M1.2 wb (wb.alloc (.cells (([0, 0, 0, 0, 0, 0, 0].map (Value.int .i64)).toArray) 72))) wa.heap.size := .inl m1
  have hz2 : w.heap.size ≤ wb.heap.size := by have := hb.size; omega
  have hne : wa.heap.size ≠ wb.heap.size := by have := hb.size; omega
  obtain ⟨g1, hg1⟩ : ∃ g1, g1 = wa.heap.size := ⟨_, rfl⟩
  obtain ⟨g2, hg2⟩ : ∃ g2, g2 = wb.heap.size := ⟨_, rfl⟩
  show OpsC C _ _ _ _ _ (wb.alloc (.cells (([0, 0, 0, 0, 0, 0, 0].map (Value.int .i64)).toArray) 72)) (M1.1, grow M1.2 wb (wb.alloc (.cells (([0, 0, 0, 0, 0, 0, 0].map (Value.int .i64)).toArray) 72)))
  obtain ⟨w2, hw2⟩ : ∃ w2, w2 = wb.alloc (.cells (([0, 0, 0, 0, 0, 0, 0].map (Value.int .i64)).toArray) 72) := ⟨_, rfl⟩
  rw [← hw2] at s2 A1 A2 m1 m2 ⊢
  clear hw2
  obtain ⟨M2, hM2⟩ : ∃ M2 : Gh ι, M2 = (M1.1, grow M1.2 wb w2) := ⟨_, rfl⟩
  replace m1 : M2.2 wa.heap.size := by rw [hM2]; exact m1
  replace m2 : M2.2 wb.heap.size := by rw [hM2]; exact m2
  rw [← hM2] at s2 ⊢
  rw [← hg1] at A1 m1 hz1 hne ⊢
  rw [← hg2] at A2 m2 hz2 hne ⊢
  clear hM2 hg1 hg2 s1 hl1 ha hb
  repeat first
    | refine opsC_moveA hS rfl rfl (.inl rfl) ?_
    | refine opsC_moveA hS rfl rfl (.inr rfl) ?_
    | refine opsC_binA hS rfl rfl rfl rfl rfl rfl ?_
    | refine opsC_lenA hS rfl rfl rfl (by kernel_rfl) rfl ?_
    | (refine opsC_plain hS rfl rfl fun _ K hK => ?_; go_simp; refine hK _ (by simp [go_sem, events_cap_slice, events_slice_hi, *]) ?_; clear hK K; try walk_nrm)
  refine opsC_nil hS ?_
  show WpC _ _ _ _ _ _ _
  repeat refine wpC_seq hS ?_
  refine wpC_region hS ?_
  simp only [List.size_toArray, List.length_cons, List.length_nil, Nat.reduceAdd, Nat.zero_add, List.range, List.range.loop]
  repeat first
    | refine opsC_moveA hS rfl rfl (.inl rfl) ?_
    | refine opsC_moveA hS rfl rfl (.inr rfl) ?_
    | refine opsC_binA hS rfl rfl rfl rfl rfl rfl ?_
    | refine opsC_lenA hS rfl rfl rfl (by kernel_rfl) rfl ?_
    | (refine opsC_plain hS rfl rfl fun _ K hK => ?_; go_simp; refine hK _ (by simp [go_sem, events_cap_slice, events_slice_hi, *]) ?_; clear hK K; try walk_nrm)
  refine opsC_nil hS ?_
  show WpC _ _ _ _ _ _ _
  repeat refine wpC_seq hS ?_
  refine wpC_block hS ?_
  refine wpC_loop_of hS ?_
  refine loopC_count (fun k a wr M' => ∃ (fs os : List Int) (x1 x2 x5 x6 x7 x8 x9 x13 x14 x15 x16 x17 x18 x19 x20 x21 x22 x23 x24 x25 x26 x27 x28 x29 x30 x31 x32 x33 x34 x35 : Value), a = { tmps := #[.slice ao n cap, x1, x2, .pointer (some ⟨g1, 0, none⟩), .pointer (some ⟨g2, 0, none⟩), x5, x6, x7, x8, x9, .slice ao n cap, .int .i64 (n : Int), .int .i64 (k : Int), x13, x14, x15, x16, x17, x18, x19, x20, x21, x22, x23, x24, x25, x26, x27, x28, x29, x30, x31, x32, x33, x34, x35], defers := [] } ∧ St2 Sh w M wr M' ∧ Arr wr g1 72 fs ∧ Arr wr g2 72 os ∧ M'.2 g1 ∧ M'.2 g2 ∧ fs.length = 7 ∧ os.length = 7 ∧ (∀ v, v < 7 → el fs v = ((xs.take k).count (v : Int) : Nat)) ∧ (∀ v, v < 7 → el os v = if v < k then 1 else 0)) n ?_ ?_ 0 (Nat.zero_le _) _ _ _
    ⟨[0, 0, 0, 0, 0, 0, 0], [0, 0, 0, 0, 0, 0, 0], _, _, _, _, _, _, _, _, _, _, _, _, _, _, _, _, _, _, _, _, _, _, _, _, _, _, _, _, _, _, rfl, s2, A1, A2, m1, m2, rfl, rfl, fun v hv => by rw [zeros v hv]; simp, fun v hv => by rw [zeros v hv]; simp⟩
  · rintro k _ wr Mr hk ⟨fs, os, x1, x2, x5, x6, x7, x8, x9, x13, x14, x15, x16, x17, x18, x19, x20, x21, x22, x23, x24, x25, x26, x27, x28, x29, x30, x31, x32, x33, x34, x35, rfl, s3, B1, B2, r1, r2, hf7, ho7, hfc, hoc⟩ hN
    have hsl := h.st s3
    obtain ⟨b, off, rfl, hm, hcr⟩ := hsl.row (by omega)
    have hcell := hcr k hk
    have h0 := hv.lo k (by rw [h.len]; exact hk)
    have h3 := hv.hi k (by rw [h.len]; exact hk)
    rw [h.len] at h3
    obtain ⟨v, hve⟩ := Int.eq_ofNat_of_zero_le h0
    have hvn : v < n := by omega
    rw [hve] at hcell
    have hfb : el fs v ≤ 7 ∧ 0 ≤ el fs v := by
      rw [hfc v (by omega)]
      have := List.count_le_length (a := (v : Int)) (l := xs.take k)
      rw [List.length_take] at this
      omega
    have hki : (k : Int) < n := by omega
    have hkw : IntKind.i64.wrap ((k : Int) + 1) = ((k + 1 : Nat) : Int) := by rw [IntKind.wrap_i64]; omega
    have hfw : IntKind.i64.wrap (el fs v + 1) = el fs v + 1 := by rw [IntKind.wrap_i64]; omega
    have hvi : (v : Int) < 7 := by omega
    have hkj : (k : Int) < 7 := by omega
    clear h0 h3 hcr
    refine loopC_round hS ?_
    repeat refine wpC_seq hS ?_
    refine wpC_region hS ?_
    simp only [List.size_toArray, List.length_cons, List.length_nil, Nat.reduceAdd, Nat.zero_add, List.range, List.range.loop]
    refine opsC_binA (v := .bool true) hS rfl rfl rfl rfl rfl (by simp [int2]; omega) ?_
    refine opsC_nil hS ?_
    show WpC _ _ _ _ _ _ _
    repeat refine wpC_seq hS ?_
    refine wpC_cond (t := true) hS rfl ?_
    simp only [if_true, if_false, Bool.false_eq_true]
    refine wpC_skip hS ?_
    show WpC _ _ _ _ _ _ _
    repeat refine wpC_seq hS ?_
    refine wpC_block hS ?_
    repeat refine wpC_seq hS ?_
    refine wpC_region hS ?_
    simp only [List.size_toArray, List.length_cons, List.length_nil, Nat.reduceAdd, Nat.zero_add, List.range, List.range.loop]
    first
      | refine opsC_moveA hS rfl rfl (.inl rfl) ?_
      | refine opsC_moveA hS rfl rfl (.inr rfl) ?_
      | refine opsC_binA hS rfl rfl rfl rfl rfl rfl ?_
      | refine opsC_lenA hS rfl rfl rfl (by kernel_rfl) rfl ?_
      | (refine opsC_plain hS rfl rfl fun _ K hK => ?_; go_simp; refine hK _ (by simp [go_sem, events_cap_slice, events_slice_hi, *]) ?_; clear hK K; try walk_nrm)
    (refine opsC_plain hS rfl rfl fun _ K hK => ?_; go_simp; refine hK _ (by simp [go_sem, events_cap_slice, events_slice_hi, *]) ?_; clear hK K; try walk_nrm)
    refine opsC_load hS rfl rfl rfl (by kernel_rfl) rfl (hm) (hcell) ?_
    repeat first
      | refine opsC_moveA hS rfl rfl (.inl rfl) ?_
      | refine opsC_moveA hS rfl rfl (.inr rfl) ?_
      | refine opsC_binA hS rfl rfl rfl rfl rfl rfl ?_
      | refine opsC_lenA hS rfl rfl rfl (by kernel_rfl) rfl ?_
      | (refine opsC_plain hS rfl rfl fun _ K hK => ?_; go_simp; refine hK _ (by simp [go_sem, events_cap_slice, events_slice_hi, *]) ?_; clear hK K; try walk_nrm)
    refine opsC_nil hS ?_
    show WpC _ _ _ _ _ _ _
    repeat refine wpC_seq hS ?_
    refine wpC_region hS ?_
    simp only [List.size_toArray, List.length_cons, List.length_nil, Nat.reduceAdd, Nat.zero_add, List.range, List.range.loop]
    first
      | refine opsC_moveA hS rfl rfl (.inl rfl) ?_
      | refine opsC_moveA hS rfl rfl (.inr rfl) ?_
      | refine opsC_binA hS rfl rfl rfl rfl rfl rfl ?_
      | refine opsC_lenA hS rfl rfl rfl (by kernel_rfl) rfl ?_
      | (refine opsC_plain hS rfl rfl fun _ K hK => ?_; go_simp; refine hK _ (by simp [go_sem, events_cap_slice, events_slice_hi, *]) ?_; clear hK K; try walk_nrm)
    refine opsC_binA (v := .bool false) hS rfl rfl rfl rfl rfl (by simp [int2]) ?_
    first
      | refine opsC_moveA hS rfl rfl (.inl rfl) ?_
      | refine opsC_moveA hS rfl rfl (.inr rfl) ?_
      | refine opsC_binA hS rfl rfl rfl rfl rfl rfl ?_
      | refine opsC_lenA hS rfl rfl rfl (by kernel_rfl) rfl ?_
      | (refine opsC_plain hS rfl rfl fun _ K hK => ?_; go_simp; refine hK _ (by simp [go_sem, events_cap_slice, events_slice_hi, *]) ?_; clear hK K; try walk_nrm)
    first
      | refine opsC_moveA hS rfl rfl (.inl rfl) ?_
      | refine opsC_moveA hS rfl rfl (.inr rfl) ?_
      | refine opsC_binA hS rfl rfl rfl rfl rfl rfl ?_
      | refine opsC_lenA hS rfl rfl rfl (by kernel_rfl) rfl ?_
      | (refine opsC_plain hS rfl rfl fun _ K hK => ?_; go_simp; refine hK _ (by simp [go_sem, events_cap_slice, events_slice_hi, *]) ?_; clear hK K; try walk_nrm)
    first
      | refine opsC_moveA hS rfl rfl (.inl rfl) ?_
      | refine opsC_moveA hS rfl rfl (.inr rfl) ?_
      | refine opsC_binA hS rfl rfl rfl rfl rfl rfl ?_
      | refine opsC_lenA hS rfl rfl rfl (by kernel_rfl) rfl ?_
      | (refine opsC_plain hS rfl rfl fun _ K hK => ?_; go_simp; refine hK _ (by simp [go_sem, events_cap_slice, events_slice_hi, *]) ?_; clear hK K; try walk_nrm)
    first
      | refine opsC_moveA hS rfl rfl (.inl rfl) ?_
      | refine opsC_moveA hS rfl rfl (.inr rfl) ?_
      | refine opsC_binA hS rfl rfl rfl rfl rfl rfl ?_
      | refine opsC_lenA hS rfl rfl rfl (by kernel_rfl) rfl ?_
      | (refine opsC_plain hS rfl rfl fun _ K hK => ?_; go_simp; refine hK _ (by simp [go_sem, events_cap_slice, events_slice_hi, *]) ?_; clear hK K; try walk_nrm)
    refine opsC_binA (v := .bool false) hS rfl rfl rfl rfl rfl (by simp [int2]; omega) ?_
    (refine opsC_plain hS rfl rfl fun _ K hK => ?_; go_simp; refine hK _ (by simp [go_sem, events_cap_slice, events_slice_hi, *]) ?_; clear hK K; try walk_nrm)
    refine opsC_nil hS ?_
    show WpC _ _ _ _ _ _ _
    repeat refine wpC_seq hS ?_
    refine wpC_cond (t := false) hS rfl ?_
    simp only [if_true, if_false, Bool.false_eq_true]
    refine wpC_skip hS ?_
    show WpC _ _ _ _ _ _ _
    repeat refine wpC_seq hS ?_
    refine wpC_region hS ?_
    simp only [List.size_toArray, List.length_cons, List.length_nil, Nat.reduceAdd, Nat.zero_add, List.range, List.range.loop]
    first
      | refine opsC_moveA hS rfl rfl (.inl rfl) ?_
      | refine opsC_moveA hS rfl rfl (.inr rfl) ?_
      | refine opsC_binA hS rfl rfl rfl rfl rfl rfl ?_
      | refine opsC_lenA hS rfl rfl rfl (by kernel_rfl) rfl ?_
      | (refine opsC_plain hS rfl rfl fun _ K hK => ?_; go_simp; refine hK _ (by simp [go_sem, events_cap_slice, events_slice_hi, *]) ?_; clear hK K; try walk_nrm)
    refine opsC_indexP7 (g := g1) (j := v) hS rfl rfl rfl rfl rfl rfl (by omega) ?_
    refine opsC_load hS rfl rfl rfl (by kernel_rfl) rfl (.inr r1) (B1.cell (j := v) (by omega)) ?_
    refine opsC_binA (v := .int .i64 (el fs v + 1)) hS rfl rfl rfl rfl rfl (by simp [int2, hfw]) ?_
    refine opsC_indexP7 (g := g1) (j := v) hS rfl rfl rfl rfl rfl rfl (by omega) ?_
    refine opsC_store (ad := ⟨g1, v, none⟩) (v := .int .i64 (el fs v + 1)) hS rfl rfl rfl (by kernel_rfl) rfl rfl rfl rfl (r1) (B1.cell (j := v) (by omega)) (B1.frozen v) fun wc hwc => ?_
    have s4 := s3.store hM hwc ⟨g1, v, none⟩ (.int .i64 (el fs v + 1)) hz1
    replace B1 := (B1.rl hwc r1).set v (el fs v + 1)
    replace B2 := (B2.rl hwc r2).other (a := ⟨g1, v, none⟩) hne (.int .i64 (el fs v + 1))
    obtain ⟨w4, hw4⟩ : ∃ w4, w4 = wc.setCell ⟨g1, v, none⟩ (.int .i64 (el fs v + 1)) := ⟨_, rfl⟩
    rw [← hw4] at s4 B1 B2 ⊢
    clear hw4 hwc s3
    refine opsC_nil hS ?_
    show WpC _ _ _ _ _ _ _
    repeat refine wpC_seq hS ?_
    refine wpC_region hS ?_
    simp only [List.size_toArray, List.length_cons, List.length_nil, Nat.reduceAdd, Nat.zero_add, List.range, List.range.loop]
    first
      | refine opsC_moveA hS rfl rfl (.inl rfl) ?_
      | refine opsC_moveA hS rfl rfl (.inr rfl) ?_
      | refine opsC_binA hS rfl rfl rfl rfl rfl rfl ?_
      | refine opsC_lenA hS rfl rfl rfl (by kernel_rfl) rfl ?_
      | (refine opsC_plain hS rfl rfl fun _ K hK => ?_; go_simp; refine hK _ (by simp [go_sem, events_cap_slice, events_slice_hi, *]) ?_; clear hK K; try walk_nrm)
    refine opsC_indexP7 (g := g2) (j := k) hS rfl rfl rfl rfl rfl rfl (by omega) ?_
    refine opsC_store (ad := ⟨g2, k, none⟩) (v := .int .i64 1) hS rfl rfl rfl (by kernel_rfl) rfl rfl rfl rfl (r2) (B2.cell (j := k) (by omega)) (B2.frozen k) fun wc hwc => ?_
    have s5 := s4.store hM hwc ⟨g2, k, none⟩ (.int .i64 1) hz2
    replace B2 := (B2.rl hwc r2).set k 1
    replace B1 := (B1.rl hwc r1).other (a := ⟨g2, k, none⟩) (Ne.symm hne) (.int .i64 1)
    obtain ⟨w5, hw5⟩ : ∃ w5, w5 = wc.setCell ⟨g2, k, none⟩ (.int .i64 1) := ⟨_, rfl⟩
    rw [← hw5] at s5 B1 B2 ⊢
    clear hw5 hwc s4
    refine opsC_nil hS ?_
    show WpC _ _ _ _ _ _ _
    repeat refine wpC_seq hS ?_
    refine wpC_region hS ?_
    simp only [List.size_toArray, List.length_cons, List.length_nil, Nat.reduceAdd, Nat.zero_add, List.range, List.range.loop]
    refine opsC_binA (v := .int .i64 ((k + 1 : Nat) : Int)) hS rfl rfl rfl rfl rfl (by simp [int2, hkw]) ?_
    repeat first
      | refine opsC_moveA hS rfl rfl (.inl rfl) ?_
      | refine opsC_moveA hS rfl rfl (.inr rfl) ?_
      | refine opsC_binA hS rfl rfl rfl rfl rfl rfl ?_
      | refine opsC_lenA hS rfl rfl rfl (by kernel_rfl) rfl ?_
      | (refine opsC_plain hS rfl rfl fun _ K hK => ?_; go_simp; refine hK _ (by simp [go_sem, events_cap_slice, events_slice_hi, *]) ?_; clear hK K; try walk_nrm)
    refine opsC_nil hS ?_
    show LoopC _ _ _ _ _ _ _
    refine hN _ _ _ ⟨fs.set v (el fs v + 1), os.set k 1, _, _, _, _, _, _, _, _, _, _, _, _, _, _, _, _, _, _, _, _, _, _, _, _, _, _, _, _, _, _, rfl, s5, B1, B2, r1, r2, by simp [hf7], by simp [ho7], fun t ht => ?_, fun t ht => ?_⟩
    · rw [count_take (by rw [h.len]; exact hk), hve]
      have := hfc t ht
      by_cases e : v = t
      · subst e
        rw [el_set_same (by rw [hf7]; exact ht), this]; simp
      · rw [el_set_ne e, this, if_neg (by omega)]; simp
    · have := hoc t ht
      by_cases e : k = t
      · subst e
        rw [el_set_same (by rw [ho7]; exact ht), if_pos (by omega)]
      · rw [el_set_ne e, this]
        split <;> split <;> omega
  · rintro _ wr Mr ⟨fs, os, x1, x2, x5, x6, x7, x8, x9, x13, x14, x15, x16, x17, x18, x19, x20, x21, x22, x23, x24, x25, x26, x27, x28, x29, x30, x31, x32, x33, x34, x35, rfl, s3, B1, B2, r1, r2, hf7, ho7, hfc, hoc⟩
    have hfo : fs = os := by
      have := counted (xs := xs) (fs := fs) (os := os) (by rw [h.len]; exact h7) (fun j hj => ⟨hv.lo j hj, hv.hi j hj⟩) hf7 ho7 (fun t ht => by have := hfc t ht; rwa [List.take_of_length_le (Nat.le_of_eq h.len)] at this) (fun t ht => by rw [h.len]; exact hoc t ht)
      rw [decide_eq_true hv] at this
      exact of_decide_eq_true this
    subst hfo
    have hsz : (Try.prog.info? 72).map (·.size) = some (fs.map (Value.int .i64)).toArray.size := by rw [infoPl]; simp [hf7]
    refine loopC_round hS ?_
    repeat refine wpC_seq hS ?_
    refine wpC_region hS ?_
    simp only [List.size_toArray, List.length_cons, List.length_nil, Nat.reduceAdd, Nat.zero_add, List.range, List.range.loop]
    refine opsC_binA (v := .bool false) hS rfl rfl rfl rfl rfl (by simp [int2]) ?_
    refine opsC_nil hS ?_
    show WpC _ _ _ _ _ _ _
    repeat refine wpC_seq hS ?_
    refine wpC_cond (t := false) hS rfl ?_
    simp only [if_true, if_false, Bool.false_eq_true]
    refine wpC_exit hS ?_
    show WpC _ _ _ _ _ _ _
    repeat refine wpC_seq hS ?_
    repeat refine wpC_seq hS ?_
    refine wpC_region hS ?_
    simp only [List.size_toArray, List.length_cons, List.length_nil, Nat.reduceAdd, Nat.zero_add, List.range, List.range.loop]
    refine opsC_loadrow hS rfl rfl rfl (by kernel_rfl) hsz rfl (.inr r1) B1 ?_
    refine opsC_loadrow hS rfl rfl rfl (by kernel_rfl) hsz rfl (.inr r2) B2 ?_
    refine opsC_eq7 (fs := fs) hS rfl rfl hf7 rfl rfl rfl (by (with_reducible simp only [Act.put, Act.eval, Array.getD_eq_getD_getElem?, List.getElem?_toArray, List.getElem_toArray, List.getElem_cons_zero, List.getElem_cons_succ, List.getElem?_cons_zero, List.getElem?_cons_succ, Option.getD_some, List.setIfInBounds_toArray, List.set_cons_zero, List.set_cons_succ]); exact rfl) ?_
    repeat first
      | refine opsC_moveA hS rfl rfl (.inl rfl) ?_
      | refine opsC_moveA hS rfl rfl (.inr rfl) ?_
      | refine opsC_binA hS rfl rfl rfl rfl rfl rfl ?_
      | refine opsC_lenA hS rfl rfl rfl (by kernel_rfl) rfl ?_
      | (refine opsC_plain hS rfl rfl fun _ K hK => ?_; go_simp; refine hK _ (by simp [go_sem, events_cap_slice, events_slice_hi, *]) ?_; clear hK K; try walk_nrm)
    refine opsC_nil hS ?_
    show WpC _ _ _ _ _ _ _
    refine wpC_ret hS ⟨rfl, _, resultsC_tmp rfl _, ?_⟩
    exact ⟨rfl, s3⟩

end Go.Proofs.Ytjphaphnmclbcaa
