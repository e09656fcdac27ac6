/- MixOrders of the program where it has what to mix, beside leavers. Condition: two orders of at most five values together. -/
import Derived.Test.YtjphaphnmclbcaaBng
import Derived.Test.YtjphaphnmclbcaaMuK
import Derived.Test.YtjphaphnmclbcaaBne
import Derived.Test.YtjphaphnmclbcaaJoin
import Derived.Test.YtjphaphnmclbcaaTk
import Derived.Test.YtjphaphnmclbcaaChZ
namespace Go.Proofs.Ytjphaphnmclbcaa
open Go Go.Conc Go.RowKit

theorem made2_to' {P : Program} {f : FuncId} {a : Array Value} {w : World} {ys zs : List Int} {b c : Bool} (h : Calls P f a w (Made2 w ys b)) (e : ys = zs) (e2 : b = c) : Calls P f a w (Made2 w zs c) := e ▸ e2 ▸ h

set_option linter.unusedSimpArgs false in
set_option maxHeartbeats 4000000 in
theorem mixWords_T (ao : Option Addr) (a cap : Nat) (xs : List Int) (bo : Option Addr) (b cap2 : Nat) (ys : List Int) (w : World) (h : Sl w ao a cap xs) (g : Sl w bo b cap2 ys) (h2 : Two xs ys) (h5 : a + b ≤ 5) (cf : Frame) (cs : List Frame) (Stop : Goroutine → World → Prop)
    (hR : ∀ v w', OwnL w' w.heap.size w'.heap.size v ((mxW a b).map (mxF xs ys)) → Only w w' → T Try.prog Stop (G (cf.finish v) cs) w') :
    T Try.prog Stop (G (Frame.enter Try.prog 57 #[.slice ao a cap, .slice bo b cap2] .normal) (cf :: cs)) w := by
  rw [enter_at _ Try.func57 rfl]
  simp only [Try.ntmps57, List.size_toArray, List.length_cons, List.length_nil, Nat.reduceAdd, Nat.reduceSub, Array.replicate_succ,
     Array.replicate_zero, List.push_toArray, List.append_toArray, List.nil_append, List.cons_append]
  obtain ⟨bl, hbl⟩ : ∃ bl, bl = base 57 := ⟨_, rfl⟩
  have hkb : bl.kind ≠ .early := by rw [hbl]; simp [base]
  rw [← hbl]
  have hT : Fam Try.prog true (fun _ => True) (TF Try.prog Stop) := fam_T
  suffices hTF : TF Try.prog Stop M00 _ w from hTF w (Rl.refl _ _ _)
  have hS := hT
  have hla := h.len
  have hlb := g.len
  refine hS.ctl rfl (fun _ => stepG_seq) ?_
  refine WpC.at (fn := 57) (R := fun a' w' M' => ∃ x4 : Value, a' = { tmps := #[.slice ao a cap, .slice bo b cap2, undef, undef, x4, undef, undef, undef, undef, undef, undef, undef, undef, undef, undef, undef, undef, undef, undef, undef, undef, undef, undef, undef, undef, undef, undef, undef, undef, undef, undef, undef, undef, undef, undef, undef, undef, undef, undef, undef, undef, undef, undef, undef, undef, undef, undef], defers := [] } ∧ w' = w ∧ M' = M00) ?_ (by rw [hbl]; rfl) hkb ?_
  · refine wpC_region hS ?_
    simp only [List.size_toArray, List.length_cons, List.length_nil, Nat.reduceAdd, Nat.zero_add, List.range, List.range.loop]
    repeat first
      | refine opsC_moveA hS rfl rfl (.inl rfl) ?_
      | refine opsC_moveA hS rfl rfl (.inr rfl) ?_
      | refine opsC_binA hS rfl rfl rfl rfl rfl rfl ?_
      | refine opsC_lenA hS rfl rfl rfl (by kernel_rfl) rfl ?_
      | (refine opsC_plain hS rfl rfl fun _ K hK => ?_; go_simp; refine hK _ (by simp [go_sem, events_cap_slice, events_slice_hi, *]) ?_; clear hK K; try walk_nrm)
    exact opsC_nil hS ⟨rfl, _, rfl, rfl, rfl⟩
  rintro a0 w0' M0' ⟨x4, ha0, hw0, hM0⟩
  rw [ha0, hw0, hM0]
  clear ha0 hw0 hM0
  refine hS.ctl rfl (fun _ => stepG_seq) ?_
  refine WpC.at (fn := 57) (R := fun a' w' M' => ∃ (av : Option Addr) (cv : Nat) (x2 x3 x4 x7 x8 x9 x10 x11 x12 x13 x14 x15 x16 x17 x18 x19 x20 x21 x22 x23 x24 x25 x26 x27 x28 x29 x30 x31 x32 x33 x34 x35 x36 x37 x38 x39 x40 x41 x42 x43 x44 x45 x46 : Value), a' = { tmps := #[.slice ao a cap, .slice bo b cap2, x2, x3, x4, .slice av (a + b) cv, .bool true, x7, x8, x9, x10, x11, x12, x13, x14, x15, x16, x17, x18, x19, x20, x21, x22, x23, x24, x25, x26, x27, x28, x29, x30, x31, x32, x33, x34, x35, x36, x37, x38, x39, x40, x41, x42, x43, x44, x45, x46], defers := [] } ∧ Own w' w.heap.size (.slice av (a + b) cv) (join xs 0 ys xs.length) ∧ Only w w' ∧ M' = M00) ?_ (by rw [hbl]; rfl) hkb ?_
  · refine wpC_region hS ?_
    simp only [List.size_toArray, List.length_cons, List.length_nil, Nat.reduceAdd, Nat.zero_add, List.range, List.range.loop]
    first
      | refine opsC_moveA hS rfl rfl (.inl rfl) ?_
      | refine opsC_moveA hS rfl rfl (.inr rfl) ?_
      | refine opsC_binA hS rfl rfl rfl rfl rfl rfl ?_
      | refine opsC_lenA hS rfl rfl rfl (by kernel_rfl) rfl ?_
      | (refine opsC_plain hS rfl rfl fun _ K hK => ?_; go_simp; refine hK _ (by simp [go_sem, events_cap_slice, events_slice_hi, *]) ?_; clear hK K; try walk_nrm)
    first
      | refine opsC_moveA hS rfl rfl (.inl rfl) ?_
      | refine opsC_moveA hS rfl rfl (.inr rfl) ?_
      | refine opsC_binA hS rfl rfl rfl rfl rfl rfl ?_
      | refine opsC_lenA hS rfl rfl rfl (by kernel_rfl) rfl ?_
      | (refine opsC_plain hS rfl rfl fun _ K hK => ?_; go_simp; refine hK _ (by simp [go_sem, events_cap_slice, events_slice_hi, *]) ?_; clear hK K; try walk_nrm)
    refine opsC_callF hS rfl rfl rfl Try.func92 (by kernel_rfl) rfl (by simp only [List.map_toArray, List.map_cons, List.map_nil]; rfl) (made2C (ys := join xs 0 ys xs.length) (b := true) (by kernel_rfl) fun w₁ o => made2_to' (sumI_any _ _ _ xs _ _ _ ys w₁ (h.only o) (g.only o) (by omega) (by omega)) (onT_yes h2) (decide_eq_true h2)) ?_
    rintro _ wv M' ⟨rfl, u, rfl, own1, o1⟩
    obtain ⟨av, cv, hu, -⟩ := own1.sl
    have hjl : (join xs 0 ys xs.length).length = a + b := by rw [jn_len, hla, hlb]
    rw [hjl] at hu
    subst hu
    first
      | refine opsC_moveA hS rfl rfl (.inl rfl) ?_
      | refine opsC_moveA hS rfl rfl (.inr rfl) ?_
      | refine opsC_binA hS rfl rfl rfl rfl rfl rfl ?_
      | refine opsC_lenA hS rfl rfl rfl (by kernel_rfl) rfl ?_
      | (refine opsC_plain hS rfl rfl fun _ K hK => ?_; go_simp; refine hK _ (by simp [go_sem, events_cap_slice, events_slice_hi, *]) ?_; clear hK K; try walk_nrm)
    (refine opsC_plain hS rfl rfl fun _ K hK => ?_; go_simp; refine hK _ (by simp [go_sem, events_cap_slice, events_slice_hi, *]) ?_; clear hK K; try walk_nrm)
    (refine opsC_plain hS rfl rfl fun _ K hK => ?_; go_simp; refine hK _ (by simp [go_sem, events_cap_slice, events_slice_hi, *]) ?_; clear hK K; try walk_nrm)
    repeat first
      | refine opsC_moveA hS rfl rfl (.inl rfl) ?_
      | refine opsC_moveA hS rfl rfl (.inr rfl) ?_
      | refine opsC_binA hS rfl rfl rfl rfl rfl rfl ?_
      | refine opsC_lenA hS rfl rfl rfl (by kernel_rfl) rfl ?_
      | (refine opsC_plain hS rfl rfl fun _ K hK => ?_; go_simp; refine hK _ (by simp [go_sem, events_cap_slice, events_slice_hi, *]) ?_; clear hK K; try walk_nrm)
    exact opsC_nil hS ⟨rfl, av, cv, _, _, _, _, _, _, _, _, _, _, _, _, _, _, _, _, _, _, _, _, _, _, _, _, _, _, _, _, _, _, _, _, _, _, _, _, _, _, _, _, _, _, _, rfl, own1, o1, rfl⟩
  rintro a0 wv M0' ⟨av, cv, x2, x3, x4, x7, x8, x9, x10, x11, x12, x13, x14, x15, x16, x17, x18, x19, x20, x21, x22, x23, x24, x25, x26, x27, x28, x29, x30, x31, x32, x33, x34, x35, x36, x37, x38, x39, x40, x41, x42, x43, x44, x45, x46, ha0, own1, o1, hM0⟩
  rw [ha0, hM0]
  clear ha0 hM0
  refine hS.ctl rfl (fun _ => stepG_seq) ?_
  refine WpC.at (fn := 57) (R := fun a' w' M' => ∃ (x2 x3 x4 x7 x8 x9 x10 x11 x12 x13 x14 x15 x16 x17 x18 x19 x20 x21 x22 x23 x24 x25 x26 x27 x28 x29 x30 x31 x32 x33 x34 x35 x36 x37 x38 x39 x40 x41 x42 x43 x44 x45 x46 : Value), a' = { tmps := #[.slice ao a cap, .slice bo b cap2, x2, x3, x4, .slice av (a + b) cv, .bool true, x7, x8, x9, x10, x11, x12, x13, x14, x15, x16, x17, x18, x19, x20, x21, x22, x23, x24, x25, x26, x27, x28, x29, x30, x31, x32, x33, x34, x35, x36, x37, x38, x39, x40, x41, x42, x43, x44, x45, x46], defers := [] } ∧ w' = wv ∧ M' = M00) ?_ (by rw [hbl]; rfl) hkb ?_
  · repeat refine wpC_seq hS ?_
    refine wpC_region hS ?_
    simp only [List.size_toArray, List.length_cons, List.length_nil, Nat.reduceAdd, Nat.zero_add, List.range, List.range.loop]
    first
      | refine opsC_moveA hS rfl rfl (.inl rfl) ?_
      | refine opsC_moveA hS rfl rfl (.inr rfl) ?_
      | refine opsC_binA hS rfl rfl rfl rfl rfl rfl ?_
      | refine opsC_lenA hS rfl rfl rfl (by kernel_rfl) rfl ?_
      | (refine opsC_plain hS rfl rfl fun _ K hK => ?_; go_simp; refine hK _ (by simp [go_sem, events_cap_slice, events_slice_hi, *]) ?_; clear hK K; try walk_nrm)
    (refine opsC_plain hS rfl rfl fun _ K hK => ?_; go_simp; refine hK _ (by simp [go_sem, events_cap_slice, events_slice_hi, *]) ?_; clear hK K; try walk_nrm)
    first
      | refine opsC_moveA hS rfl rfl (.inl rfl) ?_
      | refine opsC_moveA hS rfl rfl (.inr rfl) ?_
      | refine opsC_binA hS rfl rfl rfl rfl rfl rfl ?_
      | refine opsC_lenA hS rfl rfl rfl (by kernel_rfl) rfl ?_
      | (refine opsC_plain hS rfl rfl fun _ K hK => ?_; go_simp; refine hK _ (by simp [go_sem, events_cap_slice, events_slice_hi, *]) ?_; clear hK K; try walk_nrm)
    first
      | refine opsC_moveA hS rfl rfl (.inl rfl) ?_
      | refine opsC_moveA hS rfl rfl (.inr rfl) ?_
      | refine opsC_binA hS rfl rfl rfl rfl rfl rfl ?_
      | refine opsC_lenA hS rfl rfl rfl (by kernel_rfl) rfl ?_
      | (refine opsC_plain hS rfl rfl fun _ K hK => ?_; go_simp; refine hK _ (by simp [go_sem, events_cap_slice, events_slice_hi, *]) ?_; clear hK K; try walk_nrm)
    first
      | refine opsC_moveA hS rfl rfl (.inl rfl) ?_
      | refine opsC_moveA hS rfl rfl (.inr rfl) ?_
      | refine opsC_binA hS rfl rfl rfl rfl rfl rfl ?_
      | refine opsC_lenA hS rfl rfl rfl (by kernel_rfl) rfl ?_
      | (refine opsC_plain hS rfl rfl fun _ K hK => ?_; go_simp; refine hK _ (by simp [go_sem, events_cap_slice, events_slice_hi, *]) ?_; clear hK K; try walk_nrm)
    refine opsC_binA (v := .bool false) hS rfl rfl rfl rfl rfl (by simp [int2]; omega) ?_
    (refine opsC_plain hS rfl rfl fun _ K hK => ?_; go_simp; refine hK _ (by simp [go_sem, events_cap_slice, events_slice_hi, *]) ?_; clear hK K; try walk_nrm)
    refine opsC_nil hS ?_
    show WpC _ _ _ _ _ _ _
    repeat refine wpC_seq hS ?_
    refine wpC_cond (t := false) hS rfl ?_
    simp only [if_true, if_false, Bool.false_eq_true]
    exact wpC_skip hS ⟨rfl, _, _, _, _, _, _, _, _, _, _, _, _, _, _, _, _, _, _, _, _, _, _, _, _, _, _, _, _, _, _, _, _, _, _, _, _, _, _, _, _, _, _, _, rfl, rfl, rfl⟩
  rintro a0 w0' M0' ⟨y2, y3, y4, y7, y8, y9, y10, y11, y12, y13, y14, y15, y16, y17, y18, y19, y20, y21, y22, y23, y24, y25, y26, y27, y28, y29, y30, y31, y32, y33, y34, y35, y36, y37, y38, y39, y40, y41, y42, y43, y44, y45, y46, ha0, hw0, hM0⟩
  rw [ha0, hw0, hM0]
  clear ha0 hw0 hM0
  refine hS.ctl rfl (fun _ => stepG_seq) ?_
  refine WpC.at (fn := 57) (R := fun a' w' M' => ∃ (wa : World) (gm : Nat) (x2 x3 x4 x8 x9 x10 x11 x12 x13 x14 x15 x16 x17 x18 x19 x20 x21 x22 x23 x24 x25 x26 x27 x28 x29 x30 x31 x32 x33 x34 x35 x36 x37 x38 x39 x40 x41 x42 x43 x44 x45 x46 : Value), a' = { tmps := #[.slice ao a cap, .slice bo b cap2, x2, x3, x4, .slice av (a + b) cv, .bool true, .slice (some ⟨gm, 0, none⟩) 0 0, x8, x9, x10, x11, x12, x13, x14, x15, x16, x17, x18, x19, x20, x21, x22, x23, x24, x25, x26, x27, x28, x29, x30, x31, x32, x33, x34, x35, x36, x37, x38, x39, x40, x41, x42, x43, x44, x45, x46], defers := [] } ∧ Re wv wa ∧ gm = wa.heap.size ∧ w' = wa.alloc (.cells #[] 23)) ?_ (by rw [hbl]; rfl) hkb ?_
  · refine wpC_region hS ?_
    simp only [List.size_toArray, List.length_cons, List.length_nil, Nat.reduceAdd, Nat.zero_add, List.range, List.range.loop]
    obtain ⟨iL, hiL, zL0, zL1, zL2⟩ := info_parts infoL
    refine opsC_M (M1 := Mall) ?_
    refine opsC_buildSlice (cells := #[]) hS rfl rfl rfl Try.underlying38 hiL zL0 zL1 (by omega) (by first | (simp [Instr.fill]; done) | decide | kernel_rfl) fun wa ha => ?_
    refine opsC_M (M1 := M00) ?_
    repeat first
      | refine opsC_moveA hS rfl rfl (.inl rfl) ?_
      | refine opsC_moveA hS rfl rfl (.inr rfl) ?_
      | refine opsC_binA hS rfl rfl rfl rfl rfl rfl ?_
      | refine opsC_lenA hS rfl rfl rfl (by kernel_rfl) rfl ?_
      | (refine opsC_plain hS rfl rfl fun _ K hK => ?_; go_simp; refine hK _ (by simp [go_sem, events_cap_slice, events_slice_hi, *]) ?_; clear hK K; try walk_nrm)
    exact opsC_nil hS ⟨rfl, wa, wa.heap.size, _, _, _, _, _, _, _, _, _, _, _, _, _, _, _, _, _, _, _, _, _, _, _, _, _, _, _, _, _, _, _, _, _, _, _, _, _, _, _, _, _, _, rfl, rl_all ha, rfl, rfl⟩
  rintro a0 w0' M0' ⟨wa, gm, z2, z3, z4, z8, z9, z10, z11, z12, z13, z14, z15, z16, z17, z18, z19, z20, z21, z22, z23, z24, z25, z26, z27, z28, z29, z30, z31, z32, z33, z34, z35, z36, z37, z38, z39, z40, z41, z42, z43, z44, z45, z46, ha0, hra, hgm, hw0⟩
  rw [ha0, hw0]
  clear ha0 hw0
  refine tf_M (M1 := M00) ?_
  refine hS.ctl rfl (fun _ => stepG_seq) ?_
  refine hS.ctl rfl (fun _ => stepG_seq) ?_
  refine hS.ctl rfl (fun _ => stepG_region) ?_
  simp only [List.size_toArray, List.length_cons, List.length_nil, Nat.reduceAdd, Nat.zero_add, List.range, List.range.loop]
  intro w2 hr2
  obtain ⟨w1, hw1⟩ : ∃ w1, w1 = wa := ⟨_, rfl⟩
  rw [← hw1] at hgm hr2
  replace o1 : Only w w1 := by rw [hw1]; exact o1.trans (Only.re hra)
  have ownw : Own w1 w.heap.size (.slice av (a + b) cv) (join xs 0 ys xs.length) := by rw [hw1]; exact own1.only (Only.re hra)
  subst hgm
  clear hw1 hra own1
  have hre := rl_all hr2
  have s1 : w.heap.size ≤ w1.heap.size := o1.size
  have s2 : w1.heap.size < w2.heap.size := by rw [re_heap hre, World.size_alloc]; exact Nat.lt_succ_self _
  have b2 : w2.heap[w1.heap.size]? = some (.cells #[] 23 (0, 0)) := by rw [re_heap hre]; exact heap_alloc_new _ _
  have o2 : Only w1 w2 := (show Only w1 (w1.alloc (.cells #[] 23)) from ⟨rfl, rfl, by rw [World.size_alloc]; exact Nat.le_succ _, fun k hk => heap_alloc_old _ _ hk⟩).trans (Only.re hre)
  clear hr2 hre
  obtain ⟨L, hLd⟩ : ∃ L : List Nat, L = [a, b, 0, 0] := ⟨_, rfl⟩
  have hL : L.length = 4 := by rw [hLd]; rfl
  have hsum : L.sum = a + b := by rw [hLd]; simp [List.sum_cons]
  have hs : L.sum ≤ 100 := by omega
  have hlw : wgo L.sum [] L = mxW a b := by rw [hsum, hLd, mxW]
  refine T.val hkb rfl rfl (fun w₁ h₁ => ⟨(by go_simp; exact rfl), by simp [go_sem]⟩) (by (with_reducible simp only [Act.put, Act.eval, Array.getD_eq_getD_getElem?, List.getElem?_toArray, List.getElem_toArray, List.getElem_cons_zero, List.getElem_cons_succ, List.getElem?_cons_zero, List.getElem?_cons_succ, Option.getD_some, List.setIfInBounds_toArray, List.set_cons_zero, List.set_cons_succ]); exact rfl) ?_
  refine T.val hkb rfl rfl (fun w₁ h₁ => ⟨(by go_simp; exact rfl), by simp [go_sem]⟩) (by (with_reducible simp only [Act.put, Act.eval, Array.getD_eq_getD_getElem?, List.getElem?_toArray, List.getElem_toArray, List.getElem_cons_zero, List.getElem_cons_succ, List.getElem?_cons_zero, List.getElem?_cons_succ, Option.getD_some, List.setIfInBounds_toArray, List.set_cons_zero, List.set_cons_succ]); exact rfl) ?_
  refine T.val hkb rfl rfl (fun w₁ h₁ => ⟨(by go_simp; exact rfl), by simp [go_sem]⟩) (by (with_reducible simp only [Act.put, Act.eval, Array.getD_eq_getD_getElem?, List.getElem?_toArray, List.getElem_toArray, List.getElem_cons_zero, List.getElem_cons_succ, List.getElem?_cons_zero, List.getElem?_cons_succ, Option.getD_some, List.setIfInBounds_toArray, List.set_cons_zero, List.set_cons_succ]); exact rfl) ?_
  refine T.val hkb rfl rfl (fun w₁ h₁ => ⟨(by go_simp; exact rfl), by simp [go_sem]⟩) (by (with_reducible simp only [Act.put, Act.eval, Array.getD_eq_getD_getElem?, List.getElem?_toArray, List.getElem_toArray, List.getElem_cons_zero, List.getElem_cons_succ, List.getElem?_cons_zero, List.getElem?_cons_succ, Option.getD_some, List.setIfInBounds_toArray, List.set_cons_zero, List.set_cons_succ]); exact rfl) ?_
  refine T.val (v := .agg (cellsOf L)) hkb rfl rfl (fun w₁ h₁ => ⟨(by rw [hLd]; go_simp; rfl), (by go_simp)⟩) (by (with_reducible simp only [Act.put, Act.eval, Array.getD_eq_getD_getElem?, List.getElem?_toArray, List.getElem_toArray, List.getElem_cons_zero, List.getElem_cons_succ, List.getElem?_cons_zero, List.getElem?_cons_succ, Option.getD_some, List.setIfInBounds_toArray, List.set_cons_zero, List.set_cons_succ]); exact rfl) ?_
  refine T.enterF (vs := #[.agg (cellsOf L)]) hkb rfl rfl rfl Try.func93 (by kernel_rfl) rfl (by simp only [List.map_toArray, List.map_cons, List.map_nil]; rfl) ?_
  simp only [Try.ntmps93, List.size_toArray, List.length_cons, List.length_nil, Nat.reduceAdd, Nat.reduceSub, Array.replicate_succ,
     Array.replicate_zero, List.push_toArray, List.append_toArray, List.nil_append, List.cons_append]
  obtain ⟨bw, hbw⟩ : ∃ bw, bw = base 93 := ⟨_, rfl⟩
  have hkw : bw.kind ≠ .early := by rw [hbw]; simp [base]
  rw [← hbw]
  refine .ctl rfl (fun _ => stepG_seq) ?_
  refine .ctl rfl (fun _ => stepG_region) ?_
  simp only [List.size_toArray, List.length_cons, List.length_nil, Nat.reduceAdd, Nat.zero_add, List.range, List.range.loop]
  refine T.new (v := .pointer (some ⟨w2.heap.size, 0, none⟩)) (ob := .cells (cellsOf L) 63) hkw rfl rfl (fun w₁ h₁ => ⟨?_, by simp [go_sem]⟩) (by (with_reducible simp only [Act.put, Act.eval, Array.getD_eq_getD_getElem?, List.getElem?_toArray, List.getElem_toArray, List.getElem_cons_zero, List.getElem_cons_succ, List.getElem?_cons_zero, List.getElem?_cons_succ, Option.getD_some, List.setIfInBounds_toArray, List.set_cons_zero, List.set_cons_succ]); exact rfl) ?_
  · go_simp
    simp [Instr.box, newVar, newRow, Value.cells, re_heap h₁]
  refine T.val hkw rfl rfl (fun w₁ h₁ => ⟨(by go_simp; exact rfl), by simp [go_sem]⟩) (by (with_reducible simp only [Act.put, Act.eval, Array.getD_eq_getD_getElem?, List.getElem?_toArray, List.getElem_toArray, List.getElem_cons_zero, List.getElem_cons_succ, List.getElem?_cons_zero, List.getElem?_cons_succ, Option.getD_some, List.setIfInBounds_toArray, List.set_cons_zero, List.set_cons_succ]); exact rfl) ?_
  refine .ctl rfl (fun _ => stepG_region_end) ?_
  obtain ⟨w3, hw3⟩ : ∃ w3, w3 = w2.alloc (.cells (cellsOf L) 63) := ⟨_, rfl⟩
  have s3 : w2.heap.size < w3.heap.size := by rw [hw3, World.size_alloc]; exact Nat.lt_succ_self _
  have b3 : w3.heap[w2.heap.size]? = some (.cells (cellsOf L) 63 (0, 0)) := by rw [hw3]; exact heap_alloc_new _ _
  have o3 : Only w2 w3 := by rw [hw3]; exact ⟨rfl, rfl, by rw [World.size_alloc]; exact Nat.le_succ _, fun k hk => heap_alloc_old _ _ hk⟩
  rw [← hw3]
  clear hw3
  refine .ctl rfl (fun _ => stepG_seq) ?_
  refine .ctl rfl (fun _ => stepG_region) ?_
  simp only [List.size_toArray, List.length_cons, List.length_nil, Nat.reduceAdd, Nat.zero_add, List.range, List.range.loop]
  refine T.new (v := .chan (some w3.heap.size)) (ob := .chan 0 #[] false 0 0 false) hkw rfl rfl (fun w₁ h₁ => ⟨?_, ?_⟩) (by (with_reducible simp only [Act.put, Act.eval, Array.getD_eq_getD_getElem?, List.getElem?_toArray, List.getElem_toArray, List.getElem_cons_zero, List.getElem_cons_succ, List.getElem?_cons_zero, List.getElem?_cons_succ, Option.getD_some, List.setIfInBounds_toArray, List.set_cons_zero, List.set_cons_succ]); exact rfl) ?_
  · go_simp
    simp [Instr.makeChan, asInt, asIntOf, re_heap h₁]
  · go_simp
    simp [Instr.makeChan, asInt, asIntOf]
  obtain ⟨w4, hw4⟩ : ∃ w4, w4 = w3.alloc (.chan 0 #[] false 0 0 false) := ⟨_, rfl⟩
  have s4 : w3.heap.size < w4.heap.size := by rw [hw4, World.size_alloc]; exact Nat.lt_succ_self _
  have b4 : w4.heap[w3.heap.size]? = some (.chan 0 #[] false 0 0 false) := by rw [hw4]; exact heap_alloc_new _ _
  have o4 : Only w3 w4 := by rw [hw4]; exact ⟨rfl, rfl, by rw [World.size_alloc]; exact Nat.le_succ _, fun k hk => heap_alloc_old _ _ hk⟩
  rw [← hw4]
  clear hw4
  obtain ⟨ic, hic, hzc⟩ := Option.map_eq_some_iff.1 infoCh
  refine T.new (v := .pointer (some ⟨w4.heap.size, 0, none⟩)) (ob := .cells #[.chan none] 79) hkw rfl rfl (fun w₁ h₁ => ⟨?_, ?_⟩) (by (with_reducible simp only [Act.put, Act.eval, Array.getD_eq_getD_getElem?, List.getElem?_toArray, List.getElem_toArray, List.getElem_cons_zero, List.getElem_cons_succ, List.getElem?_cons_zero, List.getElem?_cons_succ, Option.getD_some, List.setIfInBounds_toArray, List.set_cons_zero, List.set_cons_succ]); exact rfl) ?_
  · go_simp
    simp [Instr.alloc, newVar, newRow, zeroValue, typeInfo, hic, hzc, Value.cells, re_heap h₁]
  · go_simp
  obtain ⟨w5, hw5⟩ : ∃ w5, w5 = w4.alloc (.cells #[.chan none] 79) := ⟨_, rfl⟩
  have s5 : w4.heap.size < w5.heap.size := by rw [hw5, World.size_alloc]; exact Nat.lt_succ_self _
  have b5 : w5.heap[w4.heap.size]? = some (.cells #[.chan none] 79 (0, 0)) := by rw [hw5]; exact heap_alloc_new _ _
  have o5 : Only w4 w5 := by rw [hw5]; exact ⟨rfl, rfl, by rw [World.size_alloc]; exact Nat.le_succ _, fun k hk => heap_alloc_old _ _ hk⟩
  rw [← hw5]
  clear hw5
  refine T.upd (ad := ⟨w4.heap.size, 0, none⟩) (v := .chan (some w3.heap.size)) hkw rfl rfl (fun w₁ h₁ => ?_) (by (with_reducible simp only [Act.put, Act.eval, Array.getD_eq_getD_getElem?, List.getElem?_toArray, List.getElem_toArray, List.getElem_cons_zero, List.getElem_cons_succ, List.getElem?_cons_zero, List.getElem?_cons_succ, Option.getD_some, List.setIfInBounds_toArray, List.set_cons_zero, List.set_cons_succ]); exact rfl) ?_
  · have hb : w₁.heap[w4.heap.size]? = some (.cells #[.chan none] 79 (0, 0)) := by rw [re_heap h₁]; exact b5
    exact store_T rfl infoCh1 rfl rfl rfl rfl (by rw [cell_of_row w₁ _ 0 _ _ _ hb]; rfl) (by simp [World.frozen?, hb])
  obtain ⟨w6, hw6⟩ : ∃ w6, w6 = w5.setCell ⟨w4.heap.size, 0, none⟩ (.chan (some w3.heap.size)) := ⟨_, rfl⟩
  have s6 : w6.heap.size = w5.heap.size := by rw [hw6]; exact setCell_size _ _ _
  have k6 : ∀ k, k ≠ w4.heap.size → w6.heap[k]? = w5.heap[k]? := fun k hk => by rw [hw6]; exact setCell_other _ _ _ hk
  have c6 : w6.cell? ⟨w4.heap.size, 0, none⟩ = some (.chan (some w3.heap.size)) := by
    rw [hw6, setCell_eq_setRow w5 _ 0 _ _ _ _ b5, cell_of_row _ _ 0 _ _ _ (setRow_heap w5 _ _ _ _ _ b5)]
    rfl
  have q6 : w6.os = w5.os ∧ w6.output = w5.output := by rw [hw6]; exact ⟨rfl, rfl⟩
  rw [← hw6]
  clear hw6
  refine .ctl rfl (fun _ => stepG_region_end) ?_
  refine .ctl rfl (fun _ => stepG_seq) ?_
  refine .ctl rfl (fun _ => stepG_region) ?_
  simp only [List.size_toArray, List.length_cons, List.length_nil, Nat.reduceAdd, Nat.zero_add, List.range, List.range.loop]
  refine T.val (v := .func (.func 104) #[] #[.pointer (some ⟨w4.heap.size, 0, none⟩), .pointer (some ⟨w2.heap.size, 0, none⟩)]) hkw rfl rfl (fun w₁ h₁ => ⟨(by go_simp), by simp [go_sem]⟩) (by (with_reducible simp only [Act.put, Act.eval, Array.getD_eq_getD_getElem?, List.getElem?_toArray, List.getElem_toArray, List.getElem_cons_zero, List.getElem_cons_succ, List.getElem?_cons_zero, List.getElem?_cons_succ, Option.getD_some, List.setIfInBounds_toArray, List.set_cons_zero, List.set_cons_succ]); exact rfl) ?_
  have hc3 : w3.heap.size < w6.heap.size := by omega
  obtain ⟨Sh, hSh⟩ : ∃ Sh : Nat → Prop, Sh = fun k => k < w6.heap.size ∧ k ≠ w3.heap.size ∧ k ≠ w1.heap.size := ⟨_, rfl⟩
  obtain ⟨B6, hB6⟩ : ∃ B6, B6 = w6.heap.size := ⟨_, rfl⟩
  have shlt : ∀ k, Sh k → k < B6 := fun k hk => by rw [hSh] at hk; rw [hB6]; exact hk.1
  have shw4 : Sh w4.heap.size := by rw [hSh]; exact ⟨by omega, by omega, by omega⟩
  have shw2 : Sh w2.heap.size := by rw [hSh]; exact ⟨by omega, by omega, by omega⟩
  have bc6 : w6.heap[w2.heap.size]? = some (.cells (cellsOf L) 63 (0, 0)) := by
    rw [k6 _ (by omega), o5.keep _ (by omega), o4.keep _ (by omega)]
    exact b3
  have hS : Fam Try.prog true Sh (RcvF Try.prog w3.heap.size Sh (PhiW B6) (.slice none 0 0) Stop) := fam_rcv
  refine T.fork (c := w3.heap.size) (Sh := Sh) (Phi := PhiW B6) (z := .slice none 0 0) (xs := wgo L.sum [] L) (s := 0) (tm := false) (M0 := fun k => k = w1.heap.size) (phiW_keeps _) hkw rfl rfl (fun w₁ => ?_) (fun w₁ => ?_) ?_ (fun k hk => hB6 ▸ shlt k hk)
    (by rw [hSh]; exact fun h => h.2.1 rfl) (fun k hk => ?_) (by (with_reducible simp only [Act.put, Act.eval, Array.getD_eq_getD_getElem?, List.getElem?_toArray, List.getElem_toArray, List.getElem_cons_zero, List.getElem_cons_succ, List.getElem?_cons_zero, List.getElem?_cons_succ, Option.getD_some, List.setIfInBounds_toArray, List.set_cons_zero, List.set_cons_succ]); exact rfl) ?_ (child_snd L w4.heap.size w2.heap.size w6 hL hs shlt (by omega) shw4 shw2 c6 bc6)
  · go_simp
  · go_simp
  · rw [k6 _ (by omega), o5.keep _ (by omega)]
    exact b4
  · subst hk
    rw [hSh]
    exact ⟨by omega, by omega, fun h => h.2.2 rfl⟩
  · refine hS.ctl rfl (fun _ => stepG_region_end) ?_
    refine hS.ctl rfl (fun _ => stepG_seq) ?_
    refine WpC.at (fn := 93) (R := fun a w' M' => a = { tmps := #[.agg (cellsOf L), .pointer (some ⟨w2.heap.size, 0, none⟩), .chan (some w3.heap.size), .pointer (some ⟨w4.heap.size, 0, none⟩), .chan (some w3.heap.size), .func (.func 104) #[] #[.pointer (some ⟨w4.heap.size, 0, none⟩), .pointer (some ⟨w2.heap.size, 0, none⟩)], .chan (some w3.heap.size)], defers := [] } ∧ w' = w6 ∧ M' = (some (wgo L.sum [] L), fun k => k = w1.heap.size)) ?_ (by rw [hbw]; rfl) hkw ?_
    · refine wpC_region hS ?_
      simp only [List.size_toArray, List.length_cons, List.length_nil, Nat.reduceAdd, Nat.zero_add, List.range, List.range.loop]
      refine opsC_load (ad := ⟨w4.heap.size, 0, none⟩) (v := .chan (some w3.heap.size)) hS rfl rfl rfl (by kernel_rfl) rfl (.inl shw4) c6 ?_
      repeat first
        | refine opsC_moveA hS rfl rfl (.inl rfl) ?_
        | refine opsC_moveA hS rfl rfl (.inr rfl) ?_
        | refine opsC_binA hS rfl rfl rfl rfl rfl rfl ?_
        | refine opsC_lenA hS rfl rfl rfl (by kernel_rfl) rfl ?_
        | (refine opsC_plain hS rfl rfl fun _ K hK => ?_; go_simp; refine hK _ (by simp [go_sem, events_cap_slice, events_slice_hi, *]) ?_; clear hK K; try walk_nrm)
      exact opsC_nil hS ⟨rfl, rfl, rfl, rfl⟩
    rintro a0 w0' M0' ⟨ha0, hw0, hM0⟩
    rw [ha0, hw0, hM0]
    clear ha0 hw0 hM0
    refine hS.ctl rfl (fun _ => stepG_ret') ?_
    refine hS.ctl rfl (fun w => stepG_leave (by rw [hbw]; rfl) rfl (by rw [hbw]; exact Try.func93) (resultsC_tmp rfl _ w).1 (resultsC_tmp rfl _ w).2) ?_
    rw [Frame.finish_at]
    refine hS.ctl rfl (fun _ => stepG_region_end) ?_
    have hJv := sum_valid h2
    have hJl : (join xs 0 ys xs.length).length = a + b := by rw [jn_len, hla, hlb]
    have hJ : ∀ {ι : Type} (w' : World) (M : Gh ι), Rl Sh (fun _ => False) w6 w' → SlK Sh w' M av (a + b) (join xs 0 ys xs.length) := by
      intro ι w' M hr
      refine ⟨hJl, fun hn => ?_⟩
      obtain ⟨a1, c1, e, hs1⟩ := ownw.sl
      rw [hJl] at e hs1
      cases e
      obtain ⟨bv, off, e, hlt, hc⟩ := hs1.row hn
      subst e
      have hbv : Sh bv := by rw [hSh]; exact ⟨by omega, by omega, by omega⟩
      refine ⟨bv, off, rfl, .inl hbv, fun j hj => ?_⟩
      have e1 : w'.heap[bv]? = w1.heap[bv]? := by rw [hr.keep bv (.inl hbv), k6 _ (by omega), o5.keep _ (by omega), o4.keep _ (by omega), o3.keep _ (by omega), o2.keep _ hlt]
      exact (cell_eq (ad := ⟨bv, off + j, none⟩) e1).trans (hc j hj)
    rw [hlw]
    refine WpC.at (fn := 57) (R := fun a' w' M => ∃ (u : Value) (vs : List Value) (x0 x1 x2 x3 x4 x6 x8 x9 x10 x11 x12 x13 x14 x15 x16 x17 x18 x19 x20 x21 x22 x23 x24 x25 x26 x27 x28 x29 x31 x32 x33 x34 x35 x36 x37 x38 x39 x40 x41 x42 x43 x44 x45 x46 : Value), a' = { tmps := #[x0, x1, x2, x3, x4, .slice av (a + b) cv, x6, u, x8, x9, x10, x11, x12, x13, x14, x15, x16, x17, x18, x19, x20, x21, x22, x23, x24, x25, x26, x27, x28, x29, .chan (some w3.heap.size), x31, x32, x33, x34, x35, x36, x37, x38, x39, x40, x41, x42, x43, x44, x45, x46], defers := [] } ∧ LoL w.heap.size w' M.2 u vs ((mxW a b).map (mxF xs ys)) ∧ M.1 = none ∧ There Sh w' M ∧ Rl Sh (fun _ => False) w6 w') ?_ (by rw [hbl]; rfl) hkb ?_
    · refine wpC_block hS ?_
      refine wpC_loop_of hS ?_
      refine loopC_list (fun rem a' w' M => M.1 = some rem ∧ ∃ (u : Value) (vs : List Value) (dn : List (List Int)) (x0 x1 x2 x3 x4 x6 x8 x9 x10 x11 x12 x13 x14 x15 x16 x17 x18 x19 x20 x21 x22 x23 x24 x25 x26 x27 x28 x29 x31 x32 x33 x34 x35 x36 x37 x38 x39 x40 x41 x42 x43 x44 x45 x46 : Value), a' = { tmps := #[x0, x1, x2, x3, x4, .slice av (a + b) cv, x6, u, x8, x9, x10, x11, x12, x13, x14, x15, x16, x17, x18, x19, x20, x21, x22, x23, x24, x25, x26, x27, x28, x29, .chan (some w3.heap.size), x31, x32, x33, x34, x35, x36, x37, x38, x39, x40, x41, x42, x43, x44, x45, x46], defers := [] } ∧ dn ++ rem = mxW a b ∧ LoL w.heap.size w' M.2 u vs (dn.map (mxF xs ys)) ∧ There Sh w' M ∧ Rl Sh (fun _ => False) w6 w' ∧ (∀ k, M.2 k → ¬ Sh k)) ?_ ?_ (mxW a b) _ _ _ ⟨rfl, .slice (some ⟨w1.heap.size, 0, none⟩) 0 0, [], [], _, _, _, _, _, _, _, _, _, _, _, _, _, _, _, _, _, _, _, _, _, _, _, _, _, _, _, _, _, _, _, _, _, _, _, _, _, _, _, _, _, _, _, _, rfl, rfl, ?_, ?_, Rl.refl _ _ _, ?_⟩
      · rintro x rem a' w' ⟨Mi, M'⟩ ⟨hix, u, vs, dn, x0, x1, x2, x3, x4, x6, x8, x9, x10, x11, x12, x13, x14, x15, x16, x17, x18, x19, x20, x21, x22, x23, x24, x25, x26, x27, x28, x29, x31, x32, x33, x34, x35, x36, x37, x38, x39, x40, x41, x42, x43, x44, x45, x46, rfl, hdn, hl, hth, hrl, hMSh⟩ hN
        simp only at hix
        subst hix
        have hxm : x ∈ mxW a b := by rw [← hdn]; simp
        obtain ⟨hxv, hxl⟩ := mxW_vw (by omega) hxm
        refine loopC_round hS ?_
        refine wpC_seq hS ?_
        refine wpC_region hS ?_
        simp only [List.size_toArray, List.length_cons, List.length_nil, Nat.reduceAdd, Nat.zero_add, List.range, List.range.loop]
        refine opsC_recv rfl rfl (fun w => by simp [go_sem, rcase]) fun w₂ v V h₂ hP hV => ?_
        obtain ⟨hv, hVe⟩ := hP
        have hl2 := hl.chg (w' := w₂) (M' := M') (fun k hk => h₂.keep k (.inr hk)) (fun _ h => h)
        have th2 : There Sh w₂ ((some rem, fun k => M' k ∨ V k) : Gh (Option (List (List Int)))) := fun k hk => by
          have hsz := h₂.size
          rcases hk with hk | hk | hk
          · have := hth k (.inl hk); omega
          · have := hth k (.inr hk); omega
          · exact (hV k hk).2.2.2
        have hlt2 : ∀ k, M' k → k < w₂.heap.size := fun k hk => th2 k (.inr (.inl hk))
        have rl2 : Rl Sh (fun _ => False) w6 w₂ := hrl.trans (h₂.mono fun k hk => hk.elim)
        have hvV : ∀ k, v.ownBlock = some k → V k := fun k hk => by rw [hVe]; exact hk
        obtain ⟨ax, cx, hvx, -⟩ := hv.sl
        rw [hxl] at hvx
        subst hvx
        have hsx : SlK Sh w₂ ((some rem, fun k => M' k ∨ V k) : Gh (Option (List (List Int)))) ax (a + b) x := SlK.of_own hv hxl fun k hk => .inr (hvV k hk)
        have h26 := rl2.size
        obtain ⟨M2, hM2⟩ : ∃ M2 : Gh (Option (List (List Int))), M2 = (some rem, fun k => M' k ∨ V k) := ⟨_, rfl⟩
        have hM2i : M2.1 = some rem := by rw [hM2]
        have hM2u : ∀ k, M' k → M2.2 k := fun k hk => by rw [hM2]; exact .inl hk
        have hM2n : ∀ k, M2.2 k → ¬ Sh k := fun k hk => by
          rw [hM2] at hk
          rcases hk with hk | hk
          · exact hMSh k hk
          · exact (hV k hk).2.1
        show OpsC _ _ _ _ _ _ w₂ ((some rem, fun k => M' k ∨ V k) : Gh (Option (List (List Int))))
        rw [← hM2] at th2 hsx ⊢
        clear hM2 hV hVe hvV hv
        (refine opsC_plain hS rfl rfl fun _ K hK => ?_; go_simp; refine hK _ (by simp [go_sem, events_cap_slice, events_slice_hi, *]) ?_; clear hK K; try walk_nrm)
        refine opsC_nil hS ?_
        show WpC _ _ _ _ _ _ _
        refine wpC_seq hS ?_
        refine wpC_cond (t := true) hS rfl ?_
        simp only [if_true, if_false, Bool.false_eq_true]
        refine wpC_skip hS ?_
        show WpC _ _ _ _ _ _ _
        refine wpC_block hS ?_
        refine wpC_seq hS ?_
        refine wpC_region hS ?_
        simp only [List.size_toArray, List.length_cons, List.length_nil, Nat.reduceAdd, Nat.zero_add, List.range, List.range.loop]
        (refine opsC_plain hS rfl rfl fun _ K hK => ?_; go_simp; refine hK _ (by simp [go_sem, events_cap_slice, events_slice_hi, *]) ?_; clear hK K; try walk_nrm)
        repeat first
          | refine opsC_moveA hS rfl rfl (.inl rfl) ?_
          | refine opsC_moveA hS rfl rfl (.inr rfl) ?_
          | refine opsC_binA hS rfl rfl rfl rfl rfl rfl ?_
          | refine opsC_lenA hS rfl rfl rfl (by kernel_rfl) rfl ?_
          | (refine opsC_plain hS rfl rfl fun _ K hK => ?_; go_simp; refine hK _ (by simp [go_sem, events_cap_slice, events_slice_hi, *]) ?_; clear hK K; try walk_nrm)
        refine opsC_nil hS ?_
        show WpC _ _ _ _ _ _ _
        repeat refine wpC_seq hS ?_
        refine wpC_region hS ?_
        simp only [List.size_toArray, List.length_cons, List.length_nil, Nat.reduceAdd, Nat.zero_add, List.range, List.range.loop]
        first
          | refine opsC_moveA hS rfl rfl (.inl rfl) ?_
          | refine opsC_moveA hS rfl rfl (.inr rfl) ?_
          | refine opsC_binA hS rfl rfl rfl rfl rfl rfl ?_
          | refine opsC_lenA hS rfl rfl rfl (by kernel_rfl) rfl ?_
          | (refine opsC_plain hS rfl rfl fun _ K hK => ?_; go_simp; refine hK _ (by simp [go_sem, events_cap_slice, events_slice_hi, *]) ?_; clear hK K; try walk_nrm)
        first
          | refine opsC_moveA hS rfl rfl (.inl rfl) ?_
          | refine opsC_moveA hS rfl rfl (.inr rfl) ?_
          | refine opsC_binA hS rfl rfl rfl rfl rfl rfl ?_
          | refine opsC_lenA hS rfl rfl rfl (by kernel_rfl) rfl ?_
          | (refine opsC_plain hS rfl rfl fun _ K hK => ?_; go_simp; refine hK _ (by simp [go_sem, events_cap_slice, events_slice_hi, *]) ?_; clear hK K; try walk_nrm)
        refine opsC_callF hS rfl rfl rfl Try.func95 (by kernel_rfl) rfl (by simp only [List.map_toArray, List.map_cons, List.map_nil]; rfl) (stC hS ax (a + b) cx x w₂ M2 th2 hsx hxv) ?_
        rintro _ w₃ M3 ⟨g1, rfl, own3, m3, s3⟩
        have rl3 : Rl Sh (fun _ => False) w6 w₃ := rl2.trans (s3.fwd.rl.mono fun k hk => hk.elim)
        have hrl1 : (rkA x).length = a + b := by rw [rkA_len, hxl]
        have hsr : SlK Sh w₃ M3 (some ⟨g1, 0, none⟩) (a + b) (rkA x) := SlK.of_own own3.own hrl1 fun k hk => by cases hk; exact m3
        refine opsC_callF hS rfl rfl rfl Try.func94 (by kernel_rfl) rfl (by simp only [List.map_toArray, List.map_cons, List.map_nil]; rfl) (muC hS av (a + b) cv (join xs 0 ys xs.length) (some ⟨g1, 0, none⟩) (a + b) (rkA x) w₃ M3 s3.there (hJ w₃ M3 rl3) hsr hJv (rkA_valid (by omega))) ?_
        rintro _ w₄ M4 ⟨g2, rfl, own4, m4, s4⟩
        have rl4 : Rl Sh (fun _ => False) w6 w₄ := rl3.trans (s4.fwd.rl.mono fun k hk => hk.elim)
        have h23 := s3.fwd.rl.size
        have h34 := s4.fwd.rl.size
        have hg2 : w₃.heap.size ≤ g2 ∧ g2 < w₄.heap.size := own4.lt
        have hM4i : M4.1 = some rem := by rw [s4.fwd.ix, s3.fwd.ix, hM2i]
        have hM4u : ∀ k, M' k → M4.2 k := fun k hk => s4.fwd.up k (s3.fwd.up k (hM2u k hk))
        have hshB : ∀ k, Sh k → k < w6.heap.size := fun k hk => hB6 ▸ shlt k hk
        have hM4n : ∀ k, M4.2 k → ¬ Sh k := fun k hk hS' => by
          have := hshB k hS'
          rcases s4.fwd.new k hk with hk | hk
          · rcases s3.fwd.new k hk with hk | hk
            · exact hM2n k hk hS'
            · omega
          · omega
        have hl4 := hl2.chg (w' := w₄) (M' := M') (fun k hk => (s4.fwd.rl.keep k (.inr (s3.fwd.up k (hM2u k hk)))).trans (s3.fwd.rl.keep k (.inr (hM2u k hk)))) (fun _ h => h)
        have own5 : Own w₄ w.heap.size (.slice (some ⟨g2, 0, none⟩) (a + b) (a + b)) (mxF xs ys x) := by
          have := own4.own
          exact this.mono (by have := rl3.size; omega)
        have th4 := s4.there
        have hvN : ∀ k, (Value.slice (some ⟨g2, 0, none⟩) (a + b) (a + b)).ownBlock = some k → ¬ M' k := fun k hk hM => by
          have e : g2 = k := Option.some.inj hk
          subst e
          have := hlt2 _ hM
          omega
        obtain ⟨v, hv⟩ : ∃ v, v = Value.slice (some ⟨g2, 0, none⟩) (a + b) (a + b) := ⟨_, rfl⟩
        have hvM4 : ∀ k, v.ownBlock = some k → M4.2 k := fun k hk => by rw [hv] at hk; cases hk; exact m4
        have hvlt : ∀ k, v.ownBlock = some k → k < w₄.heap.size := fun k hk => by rw [hv] at hk; cases hk; exact hg2.2
        rw [← hv] at own5 hvN ⊢
        clear hv own3 own4 m3 m4 s3 s4 hsr hsx
        first
          | refine opsC_moveA hS rfl rfl (.inl rfl) ?_
          | refine opsC_moveA hS rfl rfl (.inr rfl) ?_
          | refine opsC_binA hS rfl rfl rfl rfl rfl rfl ?_
          | refine opsC_lenA hS rfl rfl rfl (by kernel_rfl) rfl ?_
          | (refine opsC_plain hS rfl rfl fun _ K hK => ?_; go_simp; refine hK _ (by simp [go_sem, events_cap_slice, events_slice_hi, *]) ?_; clear hK K; try walk_nrm)
        (refine opsC_plain hS rfl rfl fun _ K hK => ?_; go_simp; refine hK _ (by simp [go_sem, events_cap_slice, events_slice_hi, *]) ?_; clear hK K; try walk_nrm)
        (refine opsC_plain hS rfl rfl fun _ K hK => ?_; go_simp; refine hK _ (by simp [go_sem, events_cap_slice, events_slice_hi, *]) ?_; clear hK K; try walk_nrm)
        repeat first
          | refine opsC_moveA hS rfl rfl (.inl rfl) ?_
          | refine opsC_moveA hS rfl rfl (.inr rfl) ?_
          | refine opsC_binA hS rfl rfl rfl rfl rfl rfl ?_
          | refine opsC_lenA hS rfl rfl rfl (by kernel_rfl) rfl ?_
          | (refine opsC_plain hS rfl rfl fun _ K hK => ?_; go_simp; refine hK _ (by simp [go_sem, events_cap_slice, events_slice_hi, *]) ?_; clear hK K; try walk_nrm)
        refine opsC_nil hS ?_
        show WpC _ _ _ _ _ _ _
        repeat refine wpC_seq hS ?_
        refine wpC_region hS ?_
        simp only [List.size_toArray, List.length_cons, List.length_nil, Nat.reduceAdd, Nat.zero_add, List.range, List.range.loop]
        repeat first
          | refine opsC_moveA hS rfl rfl (.inl rfl) ?_
          | refine opsC_moveA hS rfl rfl (.inr rfl) ?_
          | refine opsC_binA hS rfl rfl rfl rfl rfl rfl ?_
          | refine opsC_lenA hS rfl rfl rfl (by kernel_rfl) rfl ?_
          | (refine opsC_plain hS rfl rfl fun _ K hK => ?_; go_simp; refine hK _ (by simp [go_sem, events_cap_slice, events_slice_hi, *]) ?_; clear hK K; try walk_nrm)
        refine opsC_nil hS ?_
        show WpC _ _ _ _ _ _ _
        repeat refine wpC_seq hS ?_
        refine wpC_cond (t := true) hS rfl ?_
        simp only [if_true, if_false, Bool.false_eq_true]
        repeat refine wpC_seq hS ?_
        refine wpC_region hS ?_
        simp only [List.size_toArray, List.length_cons, List.length_nil, Nat.reduceAdd, Nat.zero_add, List.range, List.range.loop]
        first
          | refine opsC_moveA hS rfl rfl (.inl rfl) ?_
          | refine opsC_moveA hS rfl rfl (.inr rfl) ?_
          | refine opsC_binA hS rfl rfl rfl rfl rfl rfl ?_
          | refine opsC_lenA hS rfl rfl rfl (by kernel_rfl) rfl ?_
          | (refine opsC_plain hS rfl rfl fun _ K hK => ?_; go_simp; refine hK _ (by simp [go_sem, events_cap_slice, events_slice_hi, *]) ?_; clear hK K; try walk_nrm)
        first
          | refine opsC_moveA hS rfl rfl (.inl rfl) ?_
          | refine opsC_moveA hS rfl rfl (.inr rfl) ?_
          | refine opsC_binA hS rfl rfl rfl rfl rfl rfl ?_
          | refine opsC_lenA hS rfl rfl rfl (by kernel_rfl) rfl ?_
          | (refine opsC_plain hS rfl rfl fun _ K hK => ?_; go_simp; refine hK _ (by simp [go_sem, events_cap_slice, events_slice_hi, *]) ?_; clear hK K; try walk_nrm)
        obtain ⟨iL, hiL, zL0, zL1, zL2⟩ := info_parts infoL
        refine opsC_buildSlice (cells := #[v]) hS rfl rfl rfl Try.underlying38 hiL zL0 zL1 (by omega) ?_ fun wa ha => ?_
        · refine (congrArg (Instr.fill _ _) (show _ = [(0, v)] from ?_)).trans (fill1 _ v (own_cells own5))
          simp only [List.map_toArray, List.map_cons, List.map_nil]
          rfl
        have hgb := World.grownBy_alloc wa (.cells #[v] 23) none
        obtain ⟨wb, hwb⟩ : ∃ wb, wb = wa.alloc (.cells #[v] 23) := ⟨_, rfl⟩
        have hcb : wb.heap[wa.heap.size]? = some (.cells #[v] 23 (0, 0)) := by rw [hwb]; exact heap_alloc_new _ _
        have hsb : wa.heap.size < wb.heap.size := by rw [hwb, World.size_alloc]; exact Nat.lt_succ_self _
        rw [← hwb] at hgb ⊢
        have fb := (Fwd.refl Sh w₄ M4).grown ha hgb (fun k hk => by cases hk) th4
        have thb := th4.grown ha hgb.size
        have hlb4 := hl4.chg (w' := wb) (M' := M') (fun k hk => fb.rl.keep k (.inr (hM4u k hk))) (fun _ h => h)
        have hvb := own_chg (w' := wb) own5 fun k hk _ => fb.rl.keep k (.inr (hvM4 k hk))
        have has := ha.size
        clear hwb hgb
        have hdl : dn.length + 1 ≤ 1000000 := by
          have h1 := congrArg List.length hdn
          have h3 := mxW_len a b h5
          simp at h1
          omega
        refine opsC_append hS rfl rfl _ _ 38 rfl w.heap.size 23 iL (.slice none 0 0) Try.underlying38 hiL zL0 zL1 (by rw [zL2]; decide) rfl u (dn.map (mxF xs ys)).length vs rfl hlb4.row (fun k hk => .inl (hM4u k (hlb4.ub k hk))) ⟨wa.heap.size, 0, none⟩ 1 1 [v] rfl (.inr (.inr ⟨Nat.le_refl _, hsb⟩)) rfl
          (fun j y hj => ?_) (by intro y hy; simp at hy; subst hy; exact own5.oneCell) (by rw [List.length_map]; omega) (by have := rl4.size; omega) ?_
        · match j, hj with
          | 0, hj => simp at hj; subst hj; rw [show (⟨wa.heap.size, 0, none⟩ : Addr).add 0 = ⟨wa.heap.size, 0, none⟩ from rfl, cell_of_row wb _ 0 _ _ _ hcb]; rfl
        intro wc u' wd hc hrow hk hg hm
        have hcs := hc.size
        have hlc := hlb4.chg (w' := wc) (M' := M') (fun k hk => hc.keep k (.inr (.inl (hM4u k hk)))) (fun _ h => h)
        have hvc := own_chg (w' := wc) hvb fun k hk _ => hc.keep k (.inr (.inl (hvM4 k hk)))
        have hnew := hlc.app (w' := wd) (M' := grow (grow M4.2 wa wb) wc wd) hvc hvN hrow (hk.imp id fun e => ⟨wc.heap.size, e, fun h => by have := hlt2 _ h; omega, fun h => by have := hvlt _ h; omega⟩)
          (fun k hk' hne => hg.block k (by rcases hk' with h | h
                                           · have := hlt2 k h; omega
                                           · have := hvlt k h; omega) fun e => hne e.symm)
          (fun k hk' => by rcases hk' with h | h | h
                           · exact .inl (.inl (hM4u k h))
                           · exact .inl (.inl (hvM4 k h))
                           · exact hm k h)
        have thd := thb.grown hc hg.size
        have rld : Rl Sh (fun _ => False) w6 wd := by
          refine rl4.trans ((fb.rl.mono fun k hk => hk.elim).trans ((hc.mono fun k hk => hk.elim).trans ⟨hg.os, hg.output, hg.size, fun k hk => ?_⟩))
          rcases hk with hk | hk
          · refine hg.block k (by have := hshB k hk; have := rl4.size; omega) fun e => ?_
            have := hl.ub k e.symm
            exact absurd hk (hMSh k this)
          · exact hk.elim
        repeat first
          | refine opsC_moveA hS rfl rfl (.inl rfl) ?_
          | refine opsC_moveA hS rfl rfl (.inr rfl) ?_
          | refine opsC_binA hS rfl rfl rfl rfl rfl rfl ?_
          | refine opsC_lenA hS rfl rfl rfl (by kernel_rfl) rfl ?_
          | (refine opsC_plain hS rfl rfl fun _ K hK => ?_; go_simp; refine hK _ (by simp [go_sem, events_cap_slice, events_slice_hi, *]) ?_; clear hK K; try walk_nrm)
        refine opsC_nil hS ?_
        show LoopC _ _ _ _ _ _ _
        refine hN _ _ _ ⟨hM4i, u', vs ++ [v], dn ++ [x], _, _, _, _, _, _, _, _, _, _, _, _, _, _, _, _, _, _, _, _, _, _, _, _, _, _, _, _, _, _, _, _, _, _, _, _, _, _, _, _, _, _, _, _, rfl, by rw [← hdn]; simp, ?_, thd, rld, ?_⟩
        · rw [List.map_append]; exact hnew
        · intro k hk hS'
          have h6 := rl4.size
          have hk6 := hshB k hS'
          rcases hk with (hk | ⟨hk, _⟩) | ⟨hk, _⟩
          · exact hM4n k hk hS'
          · omega
          · omega
      · rintro a' w' ⟨Mi, M'⟩ ⟨hix, u, vs, dn, x0, x1, x2, x3, x4, x6, x8, x9, x10, x11, x12, x13, x14, x15, x16, x17, x18, x19, x20, x21, x22, x23, x24, x25, x26, x27, x28, x29, x31, x32, x33, x34, x35, x36, x37, x38, x39, x40, x41, x42, x43, x44, x45, x46, rfl, hdn, hl, hth, hrl, hMSh⟩
        simp only at hix
        subst hix
        refine loopC_round hS ?_
        refine wpC_seq hS ?_
        refine wpC_region hS ?_
        simp only [List.size_toArray, List.length_cons, List.length_nil, Nat.reduceAdd, Nat.zero_add, List.range, List.range.loop]
        refine opsC_recv_end rfl rfl (fun w => by simp [go_sem, rcase]) ?_
        (refine opsC_plain hS rfl rfl fun _ K hK => ?_; go_simp; refine hK _ (by simp [go_sem, events_cap_slice, events_slice_hi, *]) ?_; clear hK K; try walk_nrm)
        refine opsC_nil hS ?_
        show WpC _ _ _ _ _ _ _
        refine wpC_seq hS ?_
        refine wpC_cond (t := false) hS rfl ?_
        simp only [if_true, if_false, Bool.false_eq_true]
        have hdw : dn = mxW a b := by simpa using hdn
        rw [hdw] at hl
        refine wpC_exit hS ?_
        show (Exit.normal = Exit.normal) ∧ _
        exact ⟨rfl, u, vs, _, _, _, _, _, _, _, _, _, _, _, _, _, _, _, _, _, _, _, _, _, _, _, _, _, _, _, _, _, _, _, _, _, _, _, _, _, _, _, _, _, _, _, _, rfl, hl, rfl, hth, hrl⟩
      · have hb : w6.heap[w1.heap.size]? = some (.cells #[] 23 (0, 0)) := by rw [k6 _ (by omega), o5.keep _ (by omega), o4.keep _ (by omega), o3.keep _ (by omega)]; exact b2
        refine ⟨⟨rfl, .inr ⟨w1.heap.size, 0, #[], rfl, by omega, hb, Nat.le_refl _, Nat.zero_le _, rfl, rfl⟩⟩, fun k hk => by cases hk; rfl, fun j v hj => by simp at hj, fun i j v v' _ hj => by simp at hj⟩
      · intro k hk
        rcases hk with hk | hk
        · have := shlt k hk; omega
        · have : k = w1.heap.size := hk
          omega
      · intro k hk
        have : k = w1.heap.size := hk
        subst this
        rw [hSh]
        exact fun h => h.2.2 rfl
    · rintro _ w' ⟨Mi, M'⟩ ⟨u, vs, x0, x1, x2, x3, x4, x6, x8, x9, x10, x11, x12, x13, x14, x15, x16, x17, x18, x19, x20, x21, x22, x23, x24, x25, x26, x27, x28, x29, x31, x32, x33, x34, x35, x36, x37, x38, x39, x40, x41, x42, x43, x44, x45, x46, rfl, hl, rfl, hth, hrl⟩
      refine hS.ctl rfl (fun _ => stepG_seq) ?_
      refine WpC.at (fn := 57) (R := fun a w₂ M₂ => a.defers = [] ∧ a.tmps.getD 4 undef = u ∧ w₂ = w' ∧ M₂ = (none, M')) ?_ (by rw [hbl]; rfl) hkb ?_
      · refine wpC_region hS ?_
        simp only [List.size_toArray, List.length_cons, List.length_nil, Nat.reduceAdd, Nat.zero_add, List.range, List.range.loop]
        repeat first
          | refine opsC_moveA hS rfl rfl (.inl rfl) ?_
          | refine opsC_moveA hS rfl rfl (.inr rfl) ?_
          | refine opsC_binA hS rfl rfl rfl rfl rfl rfl ?_
          | refine opsC_lenA hS rfl rfl rfl (by kernel_rfl) rfl ?_
          | (refine opsC_plain hS rfl rfl fun _ K hK => ?_; go_simp; refine hK _ (by simp [go_sem, events_cap_slice, events_slice_hi, *]) ?_; clear hK K; try walk_nrm)
        exact opsC_nil hS ⟨rfl, rfl, rfl, rfl, rfl⟩
      rintro a0 w0' M0' ⟨hd, hd4, hw0, hM0⟩
      rw [hw0, hM0]
      clear hw0 hM0
      refine hS.ctl rfl (fun _ => stepG_ret') ?_
      refine hS.ctl rfl (fun w => stepG_leave (by rw [hbl]; rfl) hd (by rw [hbl]; exact Try.func57) (resultsC_tmp rfl _ w).1 (resultsC_tmp rfl _ w).2) ?_
      rw [hd4]
      intro w₂ h₂
      have hl2 := hl.chg (w' := w₂) (M' := M') (fun k hk => h₂.keep k (.inr hk)) (fun _ h => h)
      have hsz := h₂.size
      have hrs := hrl.size
      have hr2 : Rl Sh (fun _ => False) w6 w₂ := hrl.trans (h₂.mono fun k hk => hk.elim)
      refine hR u w₂ (hl2.own (by omega) fun k hk => Nat.lt_of_lt_of_le (hth k (.inr hk)) hsz) ?_
      have ho : Only w w5 := ⟨o5.os.trans (o4.os.trans (o3.os.trans (o2.os.trans o1.os))), o5.output.trans (o4.output.trans (o3.output.trans (o2.output.trans o1.output))), by omega, fun k hk => by
        rw [o5.keep k (by omega), o4.keep k (by omega), o3.keep k (by omega), o2.keep k (by omega), o1.keep k hk]⟩
      refine ⟨hr2.os.trans (q6.1.trans ho.os), hr2.output.trans (q6.2.trans ho.output), by omega, fun k hk => ?_⟩
      rw [hr2.keep k (.inl (by rw [hSh]; exact ⟨by omega, by omega, by omega⟩)), k6 k (by omega), ho.keep k hk]

end Go.Proofs.Ytjphaphnmclbcaa

