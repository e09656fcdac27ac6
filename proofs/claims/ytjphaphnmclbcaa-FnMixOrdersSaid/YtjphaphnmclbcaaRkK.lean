/- StandardOf for one of the two goroutines under way. Condition: the numbers are a word, of one's own or shared. -/
import Derived.Test.YtjphaphnmclbcaaBng
import Derived.Test.YtjphaphnmclbcaaWrd
import Derived.Test.YtjphaphnmclbcaaChV2
import Derived.Test.YtjphaphnmclbcaaBnd
namespace Go.Proofs.Ytjphaphnmclbcaa
open Go Go.RowKit Go.Conc

/-- make([]int, n), for one of the two goroutines under way. -/
theorem opsC_make_ints {main : Bool} {Sh : Nat → Prop} {ι : Type} {C : Gh ι → Goroutine → World → Prop} {fn : FuncId} {Q : Exit → Act → World → Gh ι → Prop} {a : Act} {w : World} {M : Gh ι} {ops : Array Oper} {i : Nat} {rest : List Nat} {o : Oper}
    (hS : Fam Try.prog main Sh C) (ho : ops[i]? = some o) (hw : Region.wanted o (yielded ops a.tmps) = true) {l c : Operand} (hop : o.op = .makeSlice 23 l c) (n : Nat) (hl : a.eval l = .int .i64 n) (hc : a.eval c = .int .i64 n) (hn : n ≤ 2000000)
    (h : ∀ w₁ w', Rl Sh M.2 w w₁ → OwS w' w₁.heap.size w₁.heap.size n n (List.replicate n 0) → w₁.grownBy w' none → w₁.heap.size < w'.heap.size →
      OpsC C fn ops rest Q (a.put o.dst (.slice (some ⟨w₁.heap.size, 0, none⟩) n n)) w' (M.1, grow M.2 w₁ w')) : OpsC C fn ops (i :: rest) Q a w M := by
  obtain ⟨i0, hi, hz0, hz1, hz2⟩ := info_parts infoI
  refine opsC_make hS ho hw fun w₁ h₁ => ?_
  have hby : i0.bytes * n ≤ 281474976710656 := by rw [hz2]; omega
  obtain ⟨w', hr, hown, hg⟩ := run_makeSlice_full (P := Try.prog) (w := w₁) w₁.heap.size 23 3 i0 (.int .i64 0) 1 Try.underlying23 hi hz0 hz1 .i64 .i64 n (by omega) hby (by unfold maxLen; omega) (Nat.le_refl _)
  have hevs : ∀ ev ∈ (execOp a.eval o).events Try.prog w₁ #[], ∃ m, ev = ⟨.mark m, false, true⟩ ∧ Neutral m := by
    have hu := Try.underlying23
    have wn : IntKind.i64.wrap (n : Int) = n := by rw [IntKind.wrap_i64]; omega
    have n1 : ¬ (n : Int) < 0 := by omega
    have n2 : ¬ (281474976710656 < (i0.bytes : Int) * n) := by rw [hz2]; omega
    intro ev hev
    unfold execOp at hev
    by_cases h0 : n = 0
    · subst h0
      simp [hop, hl, hc, Instr.makeSlice, run_underlying hu, typeInfo, sizeOf, hi, asInt, asIntOf, newRow, zeroValue, hz0] at hev
      rcases events_askRoom _ _ _ ev hev with h3 | h3
      · simp at h3
      · exact h3
    · simp [hop, hl, hc, Instr.makeSlice, run_underlying hu, typeInfo, sizeOf, hi, asInt, asIntOf, wn, n1, n2, newRow, zeroValue, hz0] at hev
      rcases events_askRoom _ _ _ ev hev with h3 | h3
      · simp at h3
      · exact h3
  have hlt := (World.ownsRow.lt hown _ rfl).2
  have hon : OwS w' w₁.heap.size w₁.heap.size n n (List.replicate n 0) := by
    unfold OwS
    have e : (madeCells (Value.cells (.int .i64 0)) (n * 1)).toList = (List.replicate n (0 : Int)).map (Value.int .i64) := by
      rw [Nat.mul_one, show Value.cells (.int .i64 0) = #[Value.int .i64 0] from rfl, toList_madeCells_one, List.map_replicate]
    rw [← e]; exact hown
  refine ⟨_, w', ?_, ⟨hg.os, hg.output, hg.size, fun k hk => hg.block k hk (by simp)⟩, fun ev he => ?_, h w₁ w' h₁ hon hg hlt⟩
  · unfold execOp
    simp [hop, hl, hc, hr]
  · obtain ⟨m, rfl, hm⟩ := hevs ev he
    exact evM_mark hm

theorem OwS.low {B B' g n cap : Nat} {w : World} {ys : List Int} (h : OwS w B g n cap ys) (hB : B' ≤ B) : OwS w B' g n cap ys := by
  refine ⟨h.1, ?_⟩
  rcases h.2 with ⟨h1, _⟩ | ⟨g', cap', cur, hv, hg, r⟩
  · simp at h1
  · exact Or.inr ⟨g', cap', cur, hv, Nat.le_trans hB hg, r⟩
/-- The greatest of the first k values, 0 at first. -/
def grP (xs : List Int) (k : Nat) : Int := if k = 0 then 0 else mxP xs k
theorem OwS.rl {Sh M : Nat → Prop} {w w₁ : World} {B g n cap : Nat} {ys : List Int} (h : OwS w B g n cap ys) (hr : Rl Sh M w w₁) (hm : M g) : OwS w₁ B g n cap ys := by
  refine ⟨h.1, ?_⟩
  rcases h.2 with ⟨h1, _⟩ | ⟨g', cap', cur, hv, hg, hh, r⟩
  · simp at h1
  · cases hv
    exact Or.inr ⟨_, _, cur, rfl, hg, (hr.keep g (.inr hm)).trans hh, r⟩

set_option linter.unusedSimpArgs false in
set_option maxHeartbeats 4000000 in
theorem stC {main : Bool} {Sh : Nat → Prop} {ι : Type} {C : Gh ι → Goroutine → World → Prop} (hS : Fam Try.prog main Sh C) (ao : Option Addr) (n cap : Nat) (xs : List Int) (w : World) (M : Gh ι) (hM : There Sh w M) (h : SlK Sh w M ao n xs) (hv : VW xs) :
    CallsC Try.prog C 95 #[.slice ao n cap] w M (fun r w' M' => ∃ g, r = .slice (some ⟨g, 0, none⟩) n n ∧ OwS w' w.heap.size g n n (rkA xs) ∧ M'.2 g ∧ St2 Sh w M w' M') := by
  have h7 : n ≤ 7 := by have := hv.len; rw [h.len] at this; exact this
  refine callsC_of_wpC hS Try.func95 rfl ?_
  simp only [Try.ntmps95, List.size_toArray, List.length_cons, List.length_nil, Nat.reduceAdd, Nat.reduceSub, Array.replicate_succ,
     Array.replicate_zero, List.push_toArray, List.append_toArray, List.nil_append, List.cons_append]
  repeat refine wpC_seq hS ?_
  refine wpC_region hS ?_
  simp only [List.size_toArray, List.length_cons, List.length_nil, Nat.reduceAdd, Nat.zero_add, List.range, List.range.loop]
  repeat first
    | refine opsC_moveA hS rfl rfl (.inl rfl) ?_
    | refine opsC_moveA hS rfl rfl (.inr rfl) ?_
    | refine opsC_binA hS rfl rfl rfl rfl rfl rfl ?_
    | refine opsC_lenA hS rfl rfl rfl (by kernel_rfl) rfl ?_
    | (refine opsC_plain hS rfl rfl fun _ K hK => ?_; go_simp; refine hK _ (by simp [go_sem, events_cap_slice, events_slice_hi, *]) ?_; clear hK K; try walk_nrm)
  refine opsC_nil hS ?_
  show WpC _ _ _ _ _ _ _
  repeat refine wpC_seq hS ?_
  refine wpC_region hS ?_
  simp only [List.size_toArray, List.length_cons, List.length_nil, Nat.reduceAdd, Nat.zero_add, List.range, List.range.loop]
  first
    | refine opsC_moveA hS rfl rfl (.inl rfl) ?_
    | refine opsC_moveA hS rfl rfl (.inr rfl) ?_
    | refine opsC_binA hS rfl rfl rfl rfl rfl rfl ?_
    | refine opsC_lenA hS rfl rfl rfl (by kernel_rfl) rfl ?_
    | (refine opsC_plain hS rfl rfl fun _ K hK => ?_; go_simp; refine hK _ (by simp [go_sem, events_cap_slice, events_slice_hi, *]) ?_; clear hK K; try walk_nrm)
  refine opsC_callF hS rfl rfl rfl Try.func31 (by kernel_rfl) rfl (by simp only [List.map_toArray, List.map_cons, List.map_nil]; rfl) (vwC hS ao n cap xs w M h hv) ?_
  rintro _ wv Mv ⟨rfl, ew, eM⟩
  rw [ew, eM]
  clear ew eM wv Mv
  (refine opsC_plain hS rfl rfl fun _ K hK => ?_; go_simp; refine hK _ (by simp [go_sem, events_cap_slice, events_slice_hi, *]) ?_; clear hK K; try walk_nrm)
  refine opsC_nil hS ?_
  show WpC _ _ _ _ _ _ _
  repeat refine wpC_seq hS ?_
  refine wpC_cond (t := false) hS rfl ?_
  simp only [if_true, if_false, Bool.false_eq_true]
  refine wpC_skip hS ?_
  show WpC _ _ _ _ _ _ _
  repeat refine wpC_seq hS ?_
  refine wpC_region hS ?_
  simp only [List.size_toArray, List.length_cons, List.length_nil, Nat.reduceAdd, Nat.zero_add, List.range, List.range.loop]
  first
    | refine opsC_moveA hS rfl rfl (.inl rfl) ?_
    | refine opsC_moveA hS rfl rfl (.inr rfl) ?_
    | refine opsC_binA hS rfl rfl rfl rfl rfl rfl ?_
    | refine opsC_lenA hS rfl rfl rfl (by kernel_rfl) rfl ?_
    | (refine opsC_plain hS rfl rfl fun _ K hK => ?_; go_simp; refine hK _ (by simp [go_sem, events_cap_slice, events_slice_hi, *]) ?_; clear hK K; try walk_nrm)
  first
    | refine opsC_moveA hS rfl rfl (.inl rfl) ?_
    | refine opsC_moveA hS rfl rfl (.inr rfl) ?_
    | refine opsC_binA hS rfl rfl rfl rfl rfl rfl ?_
    | refine opsC_lenA hS rfl rfl rfl (by kernel_rfl) rfl ?_
    | (refine opsC_plain hS rfl rfl fun _ K hK => ?_; go_simp; refine hK _ (by simp [go_sem, events_cap_slice, events_slice_hi, *]) ?_; clear hK K; try walk_nrm)
  refine opsC_make_ints hS rfl rfl rfl n rfl rfl (by omega) fun wa w2 ha hown hg hlt => ?_
  have s2 := (St2.refl hM).grown hM ha hg (fun k hk => by cases hk)
  have m2 : (grow M.2 wa w2) wa.heap.size := .inr ⟨Nat.le_refl _, hlt⟩
  replace hown := OwS.low hown ha.size
  have hB : w.heap.size ≤ wa.heap.size := ha.size
  obtain ⟨M2, hM2⟩ : ∃ M2 : Gh ι, M2 = (M.1, grow M.2 wa w2) := ⟨_, rfl⟩
  replace m2 : M2.2 wa.heap.size := by rw [hM2]; exact m2
  rw [← hM2] at s2 ⊢
  obtain ⟨g, hgg⟩ : ∃ g, g = wa.heap.size := ⟨_, rfl⟩
  rw [← hgg] at hown m2 hB ⊢
  clear hM2 hgg hg hlt ha
  repeat first
    | refine opsC_moveA hS rfl rfl (.inl rfl) ?_
    | refine opsC_moveA hS rfl rfl (.inr rfl) ?_
    | refine opsC_binA hS rfl rfl rfl rfl rfl rfl ?_
    | refine opsC_lenA hS rfl rfl rfl (by kernel_rfl) rfl ?_
    | (refine opsC_plain hS rfl rfl fun _ K hK => ?_; go_simp; refine hK _ (by simp [go_sem, events_cap_slice, events_slice_hi, *]) ?_; clear hK K; try walk_nrm)
  refine opsC_nil hS ?_
  show WpC _ _ _ _ _ _ _
  repeat refine wpC_seq hS ?_
  refine wpC_region hS ?_
  simp only [List.size_toArray, List.length_cons, List.length_nil, Nat.reduceAdd, Nat.zero_add, List.range, List.range.loop]
  repeat first
    | refine opsC_moveA hS rfl rfl (.inl rfl) ?_
    | refine opsC_moveA hS rfl rfl (.inr rfl) ?_
    | refine opsC_binA hS rfl rfl rfl rfl rfl rfl ?_
    | refine opsC_lenA hS rfl rfl rfl (by kernel_rfl) rfl ?_
    | (refine opsC_plain hS rfl rfl fun _ K hK => ?_; go_simp; refine hK _ (by simp [go_sem, events_cap_slice, events_slice_hi, *]) ?_; clear hK K; try walk_nrm)
  refine opsC_nil hS ?_
  show WpC _ _ _ _ _ _ _
  repeat refine wpC_seq hS ?_
  refine wpC_block hS ?_
  refine wpC_loop_of hS ?_
  refine loopC_count (fun k a wr M' => ∃ (zs : List Int) (x1 x2 x4 x5 x6 x7 x8 x9 x10 x11 x12 x13 x17 x18 x19 x20 x21 x22 x23 x24 x25 x26 x27 x28 x29 x30 x31 x32 x33 x34 x35 x36 x37 x38 x39 x40 x41 x42 x43 x44 x45 x46 x47 x48 x49 : Value), a = { tmps := #[.slice ao n cap, x1, x2, .slice (some ⟨g, 0, none⟩) n n, x4, x5, x6, x7, x8, x9, x10, x11, x12, x13, .slice ao n cap, .int .i64 (n : Int), .int .i64 (k : Int), x17, x18, x19, x20, x21, x22, x23, x24, x25, x26, x27, x28, x29, x30, x31, x32, x33, x34, x35, x36, x37, x38, x39, x40, x41, x42, x43, x44, x45, x46, x47, x48, x49], defers := [] } ∧ St2 Sh w M wr M' ∧ OwS wr w.heap.size g n n zs ∧ M'.2 g ∧ (∀ j, j < k → el zs j = cntP (rkF xs j) n) ∧ (∀ j, k ≤ j → j < n → el zs j = 0)) n ?_ ?_ 0 (Nat.zero_le _) _ _ _
    ⟨_, _, _, _, _, _, _, _, _, _, _, _, _, _, _, _, _, _, _, _, _, _, _, _, _, _, _, _, _, _, _, _, _, _, _, _, _, _, _, _, _, _, _, _, _, _, rfl, s2, hown, m2, fun j hj => by omega, fun j _ hj => by simp [el, hj]⟩
  · rintro k _ wr Mr hk ⟨zs, x1, x2, x4, x5, x6, x7, x8, x9, x10, x11, x12, x13, x17, x18, x19, x20, x21, x22, x23, x24, x25, x26, x27, x28, x29, x30, x31, x32, x33, x34, x35, x36, x37, x38, x39, x40, x41, x42, x43, x44, x45, x46, x47, x48, x49, rfl, s3, r3, m3, hz1, hz2⟩ hN
    have hsl := h.st s3
    obtain ⟨b, off, rfl, hm, hcr⟩ := hsl.row (by omega)
    have hcell := hcr k hk
    have hki : (k : Int) < n := by omega
    have hkw : IntKind.i64.wrap ((k : Int) + 1) = ((k + 1 : Nat) : Int) := by rw [IntKind.wrap_i64]; omega
    refine loopC_round hS ?_
    repeat refine wpC_seq hS ?_
    refine wpC_region hS ?_
    simp only [List.size_toArray, List.length_cons, List.length_nil, Nat.reduceAdd, Nat.zero_add, List.range, List.range.loop]
    refine opsC_binA (v := .bool true) hS rfl rfl rfl rfl rfl (by simp [int2]; omega) ?_
    refine opsC_nil hS ?_
    show WpC _ _ _ _ _ _ _
    repeat refine wpC_seq hS ?_
    refine wpC_cond (t := true) hS rfl ?_
    simp only [if_true, if_false, Bool.false_eq_true]
    refine wpC_skip hS ?_
    show WpC _ _ _ _ _ _ _
    repeat refine wpC_seq hS ?_
    refine wpC_block hS ?_
    repeat refine wpC_seq hS ?_
    refine wpC_region hS ?_
    simp only [List.size_toArray, List.length_cons, List.length_nil, Nat.reduceAdd, Nat.zero_add, List.range, List.range.loop]
    first
      | refine opsC_moveA hS rfl rfl (.inl rfl) ?_
      | refine opsC_moveA hS rfl rfl (.inr rfl) ?_
      | refine opsC_binA hS rfl rfl rfl rfl rfl rfl ?_
      | refine opsC_lenA hS rfl rfl rfl (by kernel_rfl) rfl ?_
      | (refine opsC_plain hS rfl rfl fun _ K hK => ?_; go_simp; refine hK _ (by simp [go_sem, events_cap_slice, events_slice_hi, *]) ?_; clear hK K; try walk_nrm)
    (refine opsC_plain hS rfl rfl fun _ K hK => ?_; go_simp; refine hK _ (by simp [go_sem, events_cap_slice, events_slice_hi, *]) ?_; clear hK K; try walk_nrm)
    refine opsC_load hS rfl rfl rfl (by kernel_rfl) rfl (hm) (hcell) ?_
    repeat first
      | refine opsC_moveA hS rfl rfl (.inl rfl) ?_
      | refine opsC_moveA hS rfl rfl (.inr rfl) ?_
      | refine opsC_binA hS rfl rfl rfl rfl rfl rfl ?_
      | refine opsC_lenA hS rfl rfl rfl (by kernel_rfl) rfl ?_
      | (refine opsC_plain hS rfl rfl fun _ K hK => ?_; go_simp; refine hK _ (by simp [go_sem, events_cap_slice, events_slice_hi, *]) ?_; clear hK K; try walk_nrm)
    refine opsC_nil hS ?_
    show WpC _ _ _ _ _ _ _
    repeat refine wpC_seq hS ?_
    refine wpC_region hS ?_
    simp only [List.size_toArray, List.length_cons, List.length_nil, Nat.reduceAdd, Nat.zero_add, List.range, List.range.loop]
    repeat first
      | refine opsC_moveA hS rfl rfl (.inl rfl) ?_
      | refine opsC_moveA hS rfl rfl (.inr rfl) ?_
      | refine opsC_binA hS rfl rfl rfl rfl rfl rfl ?_
      | refine opsC_lenA hS rfl rfl rfl (by kernel_rfl) rfl ?_
      | (refine opsC_plain hS rfl rfl fun _ K hK => ?_; go_simp; refine hK _ (by simp [go_sem, events_cap_slice, events_slice_hi, *]) ?_; clear hK K; try walk_nrm)
    refine opsC_nil hS ?_
    show WpC _ _ _ _ _ _ _
    repeat refine wpC_seq hS ?_
    refine wpC_block hS ?_
    refine wpC_loop_of hS ?_
    refine loopC_count (fun t a wt M' => ∃ (zs : List Int) (y1 y2 y6 y7 y8 y9 y10 y11 y12 y13 y17 y18 y19 y20 y24 y25 y26 y27 y28 y29 y30 y31 y32 y33 y34 y35 y36 y37 y38 y39 y40 y41 y42 y43 y44 y45 y46 y47 y48 y49 : Value), a = { tmps := #[.slice (some ⟨b, off, none⟩) n cap, y1, y2, .slice (some ⟨g, 0, none⟩) n n, .int .i64 (k : Int), .int .i64 (el xs k), y6, y7, y8, y9, y10, y11, y12, y13, .slice (some ⟨b, off, none⟩) n cap, .int .i64 (n : Int), .int .i64 (k : Int), y17, y18, y19, y20, .slice (some ⟨b, off, none⟩) n cap, .int .i64 (n : Int), .int .i64 (t : Int), y24, y25, y26, y27, y28, y29, y30, y31, y32, y33, y34, y35, y36, y37, y38, y39, y40, y41, y42, y43, y44, y45, y46, y47, y48, y49], defers := [] } ∧ St2 Sh w M wt M' ∧ OwS wt w.heap.size g n n zs ∧ M'.2 g ∧ (∀ j, j < k → el zs j = cntP (rkF xs j) n) ∧ (∀ j, k < j → j < n → el zs j = 0) ∧ el zs k = cntP (rkF xs k) t) n ?_ ?_ 0 (Nat.zero_le _) _ _ _
      ⟨zs, _, _, _, _, _, _, _, _, _, _, _, _, _, _, _, _, _, _, _, _, _, _, _, _, _, _, _, _, _, _, _, _, _, _, _, _, _, _, _, _, rfl, s3, r3, m3, hz1, fun j hj hjn => hz2 j (by omega) hjn, hz2 k (Nat.le_refl _) hk⟩
    · rintro t _ wt Mt ht ⟨ts, y1, y2, y6, y7, y8, y9, y10, y11, y12, y13, y17, y18, y19, y20, y24, y25, y26, y27, y28, y29, y30, y31, y32, y33, y34, y35, y36, y37, y38, y39, y40, y41, y42, y43, y44, y45, y46, y47, y48, y49, rfl, s4, r4, m4, ha1, ha2, hak⟩ hN2
      have hm4 : Sh b ∨ Mt.2 b := by
        obtain ⟨b', off', e, hm', _⟩ := (h.st s4).row (by omega)
        cases e
        exact hm'
      have hcell1 : wt.cell? ⟨b, off + t, none⟩ = some (.int .i64 (el xs t)) := by
        obtain ⟨b', off', e, _, hc'⟩ := (h.st s4).row (by omega)
        cases e
        exact hc' t ht
      have hti : (t : Int) < n := by omega
      have htw : IntKind.i64.wrap ((t : Int) + 1) = ((t + 1 : Nat) : Int) := by rw [IntKind.wrap_i64]; omega
      have hcur := r4.cell hk
      have hfr := r4.frozen k
      have hzl := r4.len
      have hbd := cntP_bd (rkF xs k) t
      rw [← hak] at hbd
      have hbd1 := hbd.1
      have hbd2 : el ts k ≤ 7 := by have := hbd.2; omega
      have Hak := hid hak
      clear hak hbd
      have hfw : IntKind.i64.wrap (el ts k + 1) = el ts k + 1 := by rw [IntKind.wrap_i64]; omega
      refine loopC_round hS ?_
      repeat refine wpC_seq hS ?_
      refine wpC_region hS ?_
      simp only [List.size_toArray, List.length_cons, List.length_nil, Nat.reduceAdd, Nat.zero_add, List.range, List.range.loop]
      refine opsC_binA (v := .bool true) hS rfl rfl rfl rfl rfl (by simp [int2]; omega) ?_
      refine opsC_nil hS ?_
      show WpC _ _ _ _ _ _ _
      repeat refine wpC_seq hS ?_
      refine wpC_cond (t := true) hS rfl ?_
      simp only [if_true, if_false, Bool.false_eq_true]
      refine wpC_skip hS ?_
      show WpC _ _ _ _ _ _ _
      repeat refine wpC_seq hS ?_
      refine wpC_block hS ?_
      repeat refine wpC_seq hS ?_
      refine wpC_region hS ?_
      simp only [List.size_toArray, List.length_cons, List.length_nil, Nat.reduceAdd, Nat.zero_add, List.range, List.range.loop]
      first
        | refine opsC_moveA hS rfl rfl (.inl rfl) ?_
        | refine opsC_moveA hS rfl rfl (.inr rfl) ?_
        | refine opsC_binA hS rfl rfl rfl rfl rfl rfl ?_
        | refine opsC_lenA hS rfl rfl rfl (by kernel_rfl) rfl ?_
        | (refine opsC_plain hS rfl rfl fun _ K hK => ?_; go_simp; refine hK _ (by simp [go_sem, events_cap_slice, events_slice_hi, *]) ?_; clear hK K; try walk_nrm)
      (refine opsC_plain hS rfl rfl fun _ K hK => ?_; go_simp; refine hK _ (by simp [go_sem, events_cap_slice, events_slice_hi, *]) ?_; clear hK K; try walk_nrm)
      refine opsC_load hS rfl rfl rfl (by kernel_rfl) rfl (hm4) (hcell1) ?_
      repeat first
        | refine opsC_moveA hS rfl rfl (.inl rfl) ?_
        | refine opsC_moveA hS rfl rfl (.inr rfl) ?_
        | refine opsC_binA hS rfl rfl rfl rfl rfl rfl ?_
        | refine opsC_lenA hS rfl rfl rfl (by kernel_rfl) rfl ?_
        | (refine opsC_plain hS rfl rfl fun _ K hK => ?_; go_simp; refine hK _ (by simp [go_sem, events_cap_slice, events_slice_hi, *]) ?_; clear hK K; try walk_nrm)
      refine opsC_nil hS ?_
      show WpC _ _ _ _ _ _ _
      repeat refine wpC_seq hS ?_
      refine wpC_region hS ?_
      simp only [List.size_toArray, List.length_cons, List.length_nil, Nat.reduceAdd, Nat.zero_add, List.range, List.range.loop]
      first
        | refine opsC_moveA hS rfl rfl (.inl rfl) ?_
        | refine opsC_moveA hS rfl rfl (.inr rfl) ?_
        | refine opsC_binA hS rfl rfl rfl rfl rfl rfl ?_
        | refine opsC_lenA hS rfl rfl rfl (by kernel_rfl) rfl ?_
        | (refine opsC_plain hS rfl rfl fun _ K hK => ?_; go_simp; refine hK _ (by simp [go_sem, events_cap_slice, events_slice_hi, *]) ?_; clear hK K; try walk_nrm)
      first
        | refine opsC_moveA hS rfl rfl (.inl rfl) ?_
        | refine opsC_moveA hS rfl rfl (.inr rfl) ?_
        | refine opsC_binA hS rfl rfl rfl rfl rfl rfl ?_
        | refine opsC_lenA hS rfl rfl rfl (by kernel_rfl) rfl ?_
        | (refine opsC_plain hS rfl rfl fun _ K hK => ?_; go_simp; refine hK _ (by simp [go_sem, events_cap_slice, events_slice_hi, *]) ?_; clear hK K; try walk_nrm)
      by_cases he : el xs t < el xs k
      · have hq : rkF xs k t = true := rkF_iff.2 (.inl he)
        refine opsC_binA (v := .bool true) hS rfl rfl rfl rfl rfl (by simp [int2]; omega) ?_
        first
          | refine opsC_moveA hS rfl rfl (.inl rfl) ?_
          | refine opsC_moveA hS rfl rfl (.inr rfl) ?_
          | refine opsC_binA hS rfl rfl rfl rfl rfl rfl ?_
          | refine opsC_lenA hS rfl rfl rfl (by kernel_rfl) rfl ?_
          | (refine opsC_plain hS rfl rfl fun _ K hK => ?_; go_simp; refine hK _ (by simp [go_sem, events_cap_slice, events_slice_hi, *]) ?_; clear hK K; try walk_nrm)
        refine opsC_unwantedA hS rfl rfl ?_
        refine opsC_unwantedA hS rfl rfl ?_
        refine opsC_unwantedA hS rfl rfl ?_
        refine opsC_unwantedA hS rfl rfl ?_
        refine opsC_unwantedA hS rfl rfl ?_
        refine opsC_unwantedA hS rfl rfl ?_
        refine opsC_unwantedA hS rfl rfl ?_
        refine opsC_unwantedA hS rfl rfl ?_
        (refine opsC_plain hS rfl rfl fun _ K hK => ?_; go_simp; refine hK _ (by simp [go_sem, events_cap_slice, events_slice_hi, *]) ?_; clear hK K; try walk_nrm)
        refine opsC_nil hS ?_
        show WpC _ _ _ _ _ _ _
        repeat refine wpC_seq hS ?_
        refine wpC_cond (t := true) hS rfl ?_
        simp only [if_true, if_false, Bool.false_eq_true]
        repeat refine wpC_seq hS ?_
        refine wpC_region hS ?_
        simp only [List.size_toArray, List.length_cons, List.length_nil, Nat.reduceAdd, Nat.zero_add, List.range, List.range.loop]
        first
          | refine opsC_moveA hS rfl rfl (.inl rfl) ?_
          | refine opsC_moveA hS rfl rfl (.inr rfl) ?_
          | refine opsC_binA hS rfl rfl rfl rfl rfl rfl ?_
          | refine opsC_lenA hS rfl rfl rfl (by kernel_rfl) rfl ?_
          | (refine opsC_plain hS rfl rfl fun _ K hK => ?_; go_simp; refine hK _ (by simp [go_sem, events_cap_slice, events_slice_hi, *]) ?_; clear hK K; try walk_nrm)
        first
          | refine opsC_moveA hS rfl rfl (.inl rfl) ?_
          | refine opsC_moveA hS rfl rfl (.inr rfl) ?_
          | refine opsC_binA hS rfl rfl rfl rfl rfl rfl ?_
          | refine opsC_lenA hS rfl rfl rfl (by kernel_rfl) rfl ?_
          | (refine opsC_plain hS rfl rfl fun _ K hK => ?_; go_simp; refine hK _ (by simp [go_sem, events_cap_slice, events_slice_hi, *]) ?_; clear hK K; try walk_nrm)
        (refine opsC_plain hS rfl rfl fun _ K hK => ?_; go_simp; refine hK _ (by simp [go_sem, events_cap_slice, events_slice_hi, *]) ?_; clear hK K; try walk_nrm)
        refine opsC_load hS rfl rfl rfl (by kernel_rfl) rfl (.inr m4) (hcur) ?_
        refine opsC_binA (v := .int .i64 (el ts k + 1)) hS rfl rfl rfl rfl rfl (by simp [int2, hfw]) ?_
        (refine opsC_plain hS rfl rfl fun _ K hK => ?_; go_simp; refine hK _ (by simp [go_sem, events_cap_slice, events_slice_hi, *]) ?_; clear hK K; try walk_nrm)
        refine opsC_store (ad := ⟨g, k, none⟩) (v := .int .i64 (el ts k + 1)) hS rfl rfl rfl (by kernel_rfl) rfl rfl rfl rfl m4 hcur hfr fun wc hwc => ?_
        have s5 := s4.store hM hwc ⟨g, k, none⟩ (.int .i64 (el ts k + 1)) hB
        have r5 := (r4.rl hwc m4).set k (el ts k + 1)
        refine opsC_nil hS ?_
        show WpC _ _ _ _ _ _ _
        repeat refine wpC_seq hS ?_
        refine wpC_region hS ?_
        simp only [List.size_toArray, List.length_cons, List.length_nil, Nat.reduceAdd, Nat.zero_add, List.range, List.range.loop]
        refine opsC_binA (v := .int .i64 ((t + 1 : Nat) : Int)) hS rfl rfl rfl rfl rfl (by simp [int2, htw]) ?_
        repeat first
          | refine opsC_moveA hS rfl rfl (.inl rfl) ?_
          | refine opsC_moveA hS rfl rfl (.inr rfl) ?_
          | refine opsC_binA hS rfl rfl rfl rfl rfl rfl ?_
          | refine opsC_lenA hS rfl rfl rfl (by kernel_rfl) rfl ?_
          | (refine opsC_plain hS rfl rfl fun _ K hK => ?_; go_simp; refine hK _ (by simp [go_sem, events_cap_slice, events_slice_hi, *]) ?_; clear hK K; try walk_nrm)
        refine opsC_nil hS ?_
        show LoopC _ _ _ _ _ _ _
        exact hN2 _ _ _ ⟨ts.set k (el ts k + 1), _, _, _, _, _, _, _, _, _, _, _, _, _, _, _, _, _, _, _, _, _, _, _, _, _, _, _, _, _, _, _, _, _, _, _, _, _, _, _, _, rfl, s5, r5, m4, fun j hj => by rw [el_set_ne (by omega)]; exact ha1 j hj, fun j hj hjn => by rw [el_set_ne (by omega)]; exact ha2 j hj hjn, by rw [el_set_same (by rw [hzl]; exact hk), cntP_yes hq, Hak.out]⟩
      · by_cases he2 : el xs t = el xs k
        · by_cases hlt3 : t < k
          · have hq : rkF xs k t = true := rkF_iff.2 (.inr ⟨he2, hlt3⟩)
            refine opsC_binA (v := .bool false) hS rfl rfl rfl rfl rfl (by simp [int2]; omega) ?_
            first
              | refine opsC_moveA hS rfl rfl (.inl rfl) ?_
              | refine opsC_moveA hS rfl rfl (.inr rfl) ?_
              | refine opsC_binA hS rfl rfl rfl rfl rfl rfl ?_
              | refine opsC_lenA hS rfl rfl rfl (by kernel_rfl) rfl ?_
              | (refine opsC_plain hS rfl rfl fun _ K hK => ?_; go_simp; refine hK _ (by simp [go_sem, events_cap_slice, events_slice_hi, *]) ?_; clear hK K; try walk_nrm)
            first
              | refine opsC_moveA hS rfl rfl (.inl rfl) ?_
              | refine opsC_moveA hS rfl rfl (.inr rfl) ?_
              | refine opsC_binA hS rfl rfl rfl rfl rfl rfl ?_
              | refine opsC_lenA hS rfl rfl rfl (by kernel_rfl) rfl ?_
              | (refine opsC_plain hS rfl rfl fun _ K hK => ?_; go_simp; refine hK _ (by simp [go_sem, events_cap_slice, events_slice_hi, *]) ?_; clear hK K; try walk_nrm)
            first
              | refine opsC_moveA hS rfl rfl (.inl rfl) ?_
              | refine opsC_moveA hS rfl rfl (.inr rfl) ?_
              | refine opsC_binA hS rfl rfl rfl rfl rfl rfl ?_
              | refine opsC_lenA hS rfl rfl rfl (by kernel_rfl) rfl ?_
              | (refine opsC_plain hS rfl rfl fun _ K hK => ?_; go_simp; refine hK _ (by simp [go_sem, events_cap_slice, events_slice_hi, *]) ?_; clear hK K; try walk_nrm)
            refine opsC_binA (v := .bool true) hS rfl rfl rfl rfl rfl (by simp [int2]; omega) ?_
            first
              | refine opsC_moveA hS rfl rfl (.inl rfl) ?_
              | refine opsC_moveA hS rfl rfl (.inr rfl) ?_
              | refine opsC_binA hS rfl rfl rfl rfl rfl rfl ?_
              | refine opsC_lenA hS rfl rfl rfl (by kernel_rfl) rfl ?_
              | (refine opsC_plain hS rfl rfl fun _ K hK => ?_; go_simp; refine hK _ (by simp [go_sem, events_cap_slice, events_slice_hi, *]) ?_; clear hK K; try walk_nrm)
            first
              | refine opsC_moveA hS rfl rfl (.inl rfl) ?_
              | refine opsC_moveA hS rfl rfl (.inr rfl) ?_
              | refine opsC_binA hS rfl rfl rfl rfl rfl rfl ?_
              | refine opsC_lenA hS rfl rfl rfl (by kernel_rfl) rfl ?_
              | (refine opsC_plain hS rfl rfl fun _ K hK => ?_; go_simp; refine hK _ (by simp [go_sem, events_cap_slice, events_slice_hi, *]) ?_; clear hK K; try walk_nrm)
            first
              | refine opsC_moveA hS rfl rfl (.inl rfl) ?_
              | refine opsC_moveA hS rfl rfl (.inr rfl) ?_
              | refine opsC_binA hS rfl rfl rfl rfl rfl rfl ?_
              | refine opsC_lenA hS rfl rfl rfl (by kernel_rfl) rfl ?_
              | (refine opsC_plain hS rfl rfl fun _ K hK => ?_; go_simp; refine hK _ (by simp [go_sem, events_cap_slice, events_slice_hi, *]) ?_; clear hK K; try walk_nrm)
            refine opsC_binA (v := .bool true) hS rfl rfl rfl rfl rfl (by simp [int2]; omega) ?_
            (refine opsC_plain hS rfl rfl fun _ K hK => ?_; go_simp; refine hK _ (by simp [go_sem, events_cap_slice, events_slice_hi, *]) ?_; clear hK K; try walk_nrm)
            (refine opsC_plain hS rfl rfl fun _ K hK => ?_; go_simp; refine hK _ (by simp [go_sem, events_cap_slice, events_slice_hi, *]) ?_; clear hK K; try walk_nrm)
            refine opsC_nil hS ?_
            show WpC _ _ _ _ _ _ _
            repeat refine wpC_seq hS ?_
            refine wpC_cond (t := true) hS rfl ?_
            simp only [if_true, if_false, Bool.false_eq_true]
            repeat refine wpC_seq hS ?_
            refine wpC_region hS ?_
            simp only [List.size_toArray, List.length_cons, List.length_nil, Nat.reduceAdd, Nat.zero_add, List.range, List.range.loop]
            first
              | refine opsC_moveA hS rfl rfl (.inl rfl) ?_
              | refine opsC_moveA hS rfl rfl (.inr rfl) ?_
              | refine opsC_binA hS rfl rfl rfl rfl rfl rfl ?_
              | refine opsC_lenA hS rfl rfl rfl (by kernel_rfl) rfl ?_
              | (refine opsC_plain hS rfl rfl fun _ K hK => ?_; go_simp; refine hK _ (by simp [go_sem, events_cap_slice, events_slice_hi, *]) ?_; clear hK K; try walk_nrm)
            first
              | refine opsC_moveA hS rfl rfl (.inl rfl) ?_
              | refine opsC_moveA hS rfl rfl (.inr rfl) ?_
              | refine opsC_binA hS rfl rfl rfl rfl rfl rfl ?_
              | refine opsC_lenA hS rfl rfl rfl (by kernel_rfl) rfl ?_
              | (refine opsC_plain hS rfl rfl fun _ K hK => ?_; go_simp; refine hK _ (by simp [go_sem, events_cap_slice, events_slice_hi, *]) ?_; clear hK K; try walk_nrm)
            (refine opsC_plain hS rfl rfl fun _ K hK => ?_; go_simp; refine hK _ (by simp [go_sem, events_cap_slice, events_slice_hi, *]) ?_; clear hK K; try walk_nrm)
            refine opsC_load hS rfl rfl rfl (by kernel_rfl) rfl (.inr m4) (hcur) ?_
            refine opsC_binA (v := .int .i64 (el ts k + 1)) hS rfl rfl rfl rfl rfl (by simp [int2, hfw]) ?_
            (refine opsC_plain hS rfl rfl fun _ K hK => ?_; go_simp; refine hK _ (by simp [go_sem, events_cap_slice, events_slice_hi, *]) ?_; clear hK K; try walk_nrm)
            refine opsC_store (ad := ⟨g, k, none⟩) (v := .int .i64 (el ts k + 1)) hS rfl rfl rfl (by kernel_rfl) rfl rfl rfl rfl m4 hcur hfr fun wc hwc => ?_
            have s5 := s4.store hM hwc ⟨g, k, none⟩ (.int .i64 (el ts k + 1)) hB
            have r5 := (r4.rl hwc m4).set k (el ts k + 1)
            refine opsC_nil hS ?_
            show WpC _ _ _ _ _ _ _
            repeat refine wpC_seq hS ?_
            refine wpC_region hS ?_
            simp only [List.size_toArray, List.length_cons, List.length_nil, Nat.reduceAdd, Nat.zero_add, List.range, List.range.loop]
            refine opsC_binA (v := .int .i64 ((t + 1 : Nat) : Int)) hS rfl rfl rfl rfl rfl (by simp [int2, htw]) ?_
            repeat first
              | refine opsC_moveA hS rfl rfl (.inl rfl) ?_
              | refine opsC_moveA hS rfl rfl (.inr rfl) ?_
              | refine opsC_binA hS rfl rfl rfl rfl rfl rfl ?_
              | refine opsC_lenA hS rfl rfl rfl (by kernel_rfl) rfl ?_
              | (refine opsC_plain hS rfl rfl fun _ K hK => ?_; go_simp; refine hK _ (by simp [go_sem, events_cap_slice, events_slice_hi, *]) ?_; clear hK K; try walk_nrm)
            refine opsC_nil hS ?_
            show LoopC _ _ _ _ _ _ _
            exact hN2 _ _ _ ⟨ts.set k (el ts k + 1), _, _, _, _, _, _, _, _, _, _, _, _, _, _, _, _, _, _, _, _, _, _, _, _, _, _, _, _, _, _, _, _, _, _, _, _, _, _, _, _, rfl, s5, r5, m4, fun j hj => by rw [el_set_ne (by omega)]; exact ha1 j hj, fun j hj hjn => by rw [el_set_ne (by omega)]; exact ha2 j hj hjn, by rw [el_set_same (by rw [hzl]; exact hk), cntP_yes hq, Hak.out]⟩
          · have hq : ¬ rkF xs k t = true := fun e => by rw [rkF_iff] at e; omega
            refine opsC_binA (v := .bool false) hS rfl rfl rfl rfl rfl (by simp [int2]; omega) ?_
            first
              | refine opsC_moveA hS rfl rfl (.inl rfl) ?_
              | refine opsC_moveA hS rfl rfl (.inr rfl) ?_
              | refine opsC_binA hS rfl rfl rfl rfl rfl rfl ?_
              | refine opsC_lenA hS rfl rfl rfl (by kernel_rfl) rfl ?_
              | (refine opsC_plain hS rfl rfl fun _ K hK => ?_; go_simp; refine hK _ (by simp [go_sem, events_cap_slice, events_slice_hi, *]) ?_; clear hK K; try walk_nrm)
            first
              | refine opsC_moveA hS rfl rfl (.inl rfl) ?_
              | refine opsC_moveA hS rfl rfl (.inr rfl) ?_
              | refine opsC_binA hS rfl rfl rfl rfl rfl rfl ?_
              | refine opsC_lenA hS rfl rfl rfl (by kernel_rfl) rfl ?_
              | (refine opsC_plain hS rfl rfl fun _ K hK => ?_; go_simp; refine hK _ (by simp [go_sem, events_cap_slice, events_slice_hi, *]) ?_; clear hK K; try walk_nrm)
            first
              | refine opsC_moveA hS rfl rfl (.inl rfl) ?_
              | refine opsC_moveA hS rfl rfl (.inr rfl) ?_
              | refine opsC_binA hS rfl rfl rfl rfl rfl rfl ?_
              | refine opsC_lenA hS rfl rfl rfl (by kernel_rfl) rfl ?_
              | (refine opsC_plain hS rfl rfl fun _ K hK => ?_; go_simp; refine hK _ (by simp [go_sem, events_cap_slice, events_slice_hi, *]) ?_; clear hK K; try walk_nrm)
            refine opsC_binA (v := .bool true) hS rfl rfl rfl rfl rfl (by simp [int2]; omega) ?_
            first
              | refine opsC_moveA hS rfl rfl (.inl rfl) ?_
              | refine opsC_moveA hS rfl rfl (.inr rfl) ?_
              | refine opsC_binA hS rfl rfl rfl rfl rfl rfl ?_
              | refine opsC_lenA hS rfl rfl rfl (by kernel_rfl) rfl ?_
              | (refine opsC_plain hS rfl rfl fun _ K hK => ?_; go_simp; refine hK _ (by simp [go_sem, events_cap_slice, events_slice_hi, *]) ?_; clear hK K; try walk_nrm)
            first
              | refine opsC_moveA hS rfl rfl (.inl rfl) ?_
              | refine opsC_moveA hS rfl rfl (.inr rfl) ?_
              | refine opsC_binA hS rfl rfl rfl rfl rfl rfl ?_
              | refine opsC_lenA hS rfl rfl rfl (by kernel_rfl) rfl ?_
              | (refine opsC_plain hS rfl rfl fun _ K hK => ?_; go_simp; refine hK _ (by simp [go_sem, events_cap_slice, events_slice_hi, *]) ?_; clear hK K; try walk_nrm)
            first
              | refine opsC_moveA hS rfl rfl (.inl rfl) ?_
              | refine opsC_moveA hS rfl rfl (.inr rfl) ?_
              | refine opsC_binA hS rfl rfl rfl rfl rfl rfl ?_
              | refine opsC_lenA hS rfl rfl rfl (by kernel_rfl) rfl ?_
              | (refine opsC_plain hS rfl rfl fun _ K hK => ?_; go_simp; refine hK _ (by simp [go_sem, events_cap_slice, events_slice_hi, *]) ?_; clear hK K; try walk_nrm)
            refine opsC_binA (v := .bool false) hS rfl rfl rfl rfl rfl (by simp [int2]; omega) ?_
            (refine opsC_plain hS rfl rfl fun _ K hK => ?_; go_simp; refine hK _ (by simp [go_sem, events_cap_slice, events_slice_hi, *]) ?_; clear hK K; try walk_nrm)
            (refine opsC_plain hS rfl rfl fun _ K hK => ?_; go_simp; refine hK _ (by simp [go_sem, events_cap_slice, events_slice_hi, *]) ?_; clear hK K; try walk_nrm)
            refine opsC_nil hS ?_
            show WpC _ _ _ _ _ _ _
            repeat refine wpC_seq hS ?_
            refine wpC_cond (t := false) hS rfl ?_
            simp only [if_true, if_false, Bool.false_eq_true]
            refine wpC_skip hS ?_
            show WpC _ _ _ _ _ _ _
            repeat refine wpC_seq hS ?_
            refine wpC_region hS ?_
            simp only [List.size_toArray, List.length_cons, List.length_nil, Nat.reduceAdd, Nat.zero_add, List.range, List.range.loop]
            refine opsC_binA (v := .int .i64 ((t + 1 : Nat) : Int)) hS rfl rfl rfl rfl rfl (by simp [int2, htw]) ?_
            repeat first
              | refine opsC_moveA hS rfl rfl (.inl rfl) ?_
              | refine opsC_moveA hS rfl rfl (.inr rfl) ?_
              | refine opsC_binA hS rfl rfl rfl rfl rfl rfl ?_
              | refine opsC_lenA hS rfl rfl rfl (by kernel_rfl) rfl ?_
              | (refine opsC_plain hS rfl rfl fun _ K hK => ?_; go_simp; refine hK _ (by simp [go_sem, events_cap_slice, events_slice_hi, *]) ?_; clear hK K; try walk_nrm)
            refine opsC_nil hS ?_
            show LoopC _ _ _ _ _ _ _
            exact hN2 _ _ _ ⟨ts, _, _, _, _, _, _, _, _, _, _, _, _, _, _, _, _, _, _, _, _, _, _, _, _, _, _, _, _, _, _, _, _, _, _, _, _, _, _, _, _, rfl, s4, r4, m4, ha1, ha2, by rw [cntP_no (by simpa using hq)]; exact Hak.out⟩
        · have hq : ¬ rkF xs k t = true := fun e => by rw [rkF_iff] at e; omega
          refine opsC_binA (v := .bool false) hS rfl rfl rfl rfl rfl (by simp [int2]; omega) ?_
          first
            | refine opsC_moveA hS rfl rfl (.inl rfl) ?_
            | refine opsC_moveA hS rfl rfl (.inr rfl) ?_
            | refine opsC_binA hS rfl rfl rfl rfl rfl rfl ?_
            | refine opsC_lenA hS rfl rfl rfl (by kernel_rfl) rfl ?_
            | (refine opsC_plain hS rfl rfl fun _ K hK => ?_; go_simp; refine hK _ (by simp [go_sem, events_cap_slice, events_slice_hi, *]) ?_; clear hK K; try walk_nrm)
          first
            | refine opsC_moveA hS rfl rfl (.inl rfl) ?_
            | refine opsC_moveA hS rfl rfl (.inr rfl) ?_
            | refine opsC_binA hS rfl rfl rfl rfl rfl rfl ?_
            | refine opsC_lenA hS rfl rfl rfl (by kernel_rfl) rfl ?_
            | (refine opsC_plain hS rfl rfl fun _ K hK => ?_; go_simp; refine hK _ (by simp [go_sem, events_cap_slice, events_slice_hi, *]) ?_; clear hK K; try walk_nrm)
          first
            | refine opsC_moveA hS rfl rfl (.inl rfl) ?_
            | refine opsC_moveA hS rfl rfl (.inr rfl) ?_
            | refine opsC_binA hS rfl rfl rfl rfl rfl rfl ?_
            | refine opsC_lenA hS rfl rfl rfl (by kernel_rfl) rfl ?_
            | (refine opsC_plain hS rfl rfl fun _ K hK => ?_; go_simp; refine hK _ (by simp [go_sem, events_cap_slice, events_slice_hi, *]) ?_; clear hK K; try walk_nrm)
          refine opsC_binA (v := .bool false) hS rfl rfl rfl rfl rfl (by simp [int2]; omega) ?_
          first
            | refine opsC_moveA hS rfl rfl (.inl rfl) ?_
            | refine opsC_moveA hS rfl rfl (.inr rfl) ?_
            | refine opsC_binA hS rfl rfl rfl rfl rfl rfl ?_
            | refine opsC_lenA hS rfl rfl rfl (by kernel_rfl) rfl ?_
            | (refine opsC_plain hS rfl rfl fun _ K hK => ?_; go_simp; refine hK _ (by simp [go_sem, events_cap_slice, events_slice_hi, *]) ?_; clear hK K; try walk_nrm)
          refine opsC_unwantedA hS rfl rfl ?_
          refine opsC_unwantedA hS rfl rfl ?_
          refine opsC_unwantedA hS rfl rfl ?_
          (refine opsC_plain hS rfl rfl fun _ K hK => ?_; go_simp; refine hK _ (by simp [go_sem, events_cap_slice, events_slice_hi, *]) ?_; clear hK K; try walk_nrm)
          (refine opsC_plain hS rfl rfl fun _ K hK => ?_; go_simp; refine hK _ (by simp [go_sem, events_cap_slice, events_slice_hi, *]) ?_; clear hK K; try walk_nrm)
          refine opsC_nil hS ?_
          show WpC _ _ _ _ _ _ _
          repeat refine wpC_seq hS ?_
          refine wpC_cond (t := false) hS rfl ?_
          simp only [if_true, if_false, Bool.false_eq_true]
          refine wpC_skip hS ?_
          show WpC _ _ _ _ _ _ _
          repeat refine wpC_seq hS ?_
          refine wpC_region hS ?_
          simp only [List.size_toArray, List.length_cons, List.length_nil, Nat.reduceAdd, Nat.zero_add, List.range, List.range.loop]
          refine opsC_binA (v := .int .i64 ((t + 1 : Nat) : Int)) hS rfl rfl rfl rfl rfl (by simp [int2, htw]) ?_
          repeat first
            | refine opsC_moveA hS rfl rfl (.inl rfl) ?_
            | refine opsC_moveA hS rfl rfl (.inr rfl) ?_
            | refine opsC_binA hS rfl rfl rfl rfl rfl rfl ?_
            | refine opsC_lenA hS rfl rfl rfl (by kernel_rfl) rfl ?_
            | (refine opsC_plain hS rfl rfl fun _ K hK => ?_; go_simp; refine hK _ (by simp [go_sem, events_cap_slice, events_slice_hi, *]) ?_; clear hK K; try walk_nrm)
          refine opsC_nil hS ?_
          show LoopC _ _ _ _ _ _ _
          exact hN2 _ _ _ ⟨ts, _, _, _, _, _, _, _, _, _, _, _, _, _, _, _, _, _, _, _, _, _, _, _, _, _, _, _, _, _, _, _, _, _, _, _, _, _, _, _, _, rfl, s4, r4, m4, ha1, ha2, by rw [cntP_no (by simpa using hq)]; exact Hak.out⟩
    · rintro _ wt Mt ⟨ts, y1, y2, y6, y7, y8, y9, y10, y11, y12, y13, y17, y18, y19, y20, y24, y25, y26, y27, y28, y29, y30, y31, y32, y33, y34, y35, y36, y37, y38, y39, y40, y41, y42, y43, y44, y45, y46, y47, y48, y49, rfl, s4, r4, m4, ha1, ha2, hak⟩
      refine loopC_round hS ?_
      repeat refine wpC_seq hS ?_
      refine wpC_region hS ?_
      simp only [List.size_toArray, List.length_cons, List.length_nil, Nat.reduceAdd, Nat.zero_add, List.range, List.range.loop]
      refine opsC_binA (v := .bool false) hS rfl rfl rfl rfl rfl (by simp [int2]) ?_
      refine opsC_nil hS ?_
      show WpC _ _ _ _ _ _ _
      repeat refine wpC_seq hS ?_
      refine wpC_cond (t := false) hS rfl ?_
      simp only [if_true, if_false, Bool.false_eq_true]
      refine wpC_exit hS ?_
      show WpC _ _ _ _ _ _ _
      repeat refine wpC_seq hS ?_
      repeat refine wpC_seq hS ?_
      refine wpC_region hS ?_
      simp only [List.size_toArray, List.length_cons, List.length_nil, Nat.reduceAdd, Nat.zero_add, List.range, List.range.loop]
      refine opsC_binA (v := .int .i64 ((k + 1 : Nat) : Int)) hS rfl rfl rfl rfl rfl (by simp [int2, hkw]) ?_
      repeat first
        | refine opsC_moveA hS rfl rfl (.inl rfl) ?_
        | refine opsC_moveA hS rfl rfl (.inr rfl) ?_
        | refine opsC_binA hS rfl rfl rfl rfl rfl rfl ?_
        | refine opsC_lenA hS rfl rfl rfl (by kernel_rfl) rfl ?_
        | (refine opsC_plain hS rfl rfl fun _ K hK => ?_; go_simp; refine hK _ (by simp [go_sem, events_cap_slice, events_slice_hi, *]) ?_; clear hK K; try walk_nrm)
      refine opsC_nil hS ?_
      show LoopC _ _ _ _ _ _ _
      exact hN _ _ _ ⟨ts, _, _, _, _, _, _, _, _, _, _, _, _, _, _, _, _, _, _, _, _, _, _, _, _, _, _, _, _, _, _, _, _, _, _, _, _, _, _, _, _, _, _, _, _, _, rfl, s4, r4, m4, upto_step ha1 hak, fun j hj hjn => ha2 j (by omega) hjn⟩
  · rintro _ wr Mr ⟨zs, x1, x2, x4, x5, x6, x7, x8, x9, x10, x11, x12, x13, x17, x18, x19, x20, x21, x22, x23, x24, x25, x26, x27, x28, x29, x30, x31, x32, x33, x34, x35, x36, x37, x38, x39, x40, x41, x42, x43, x44, x45, x46, x47, x48, x49, rfl, s3, r3, m3, hz1, hz2⟩
    have e : zs = rkA xs := ext_el (by rw [r3.len, rkA_len, h.len]) (fun j hj => by rw [r3.len] at hj; rw [hz1 j hj, el_rkA (by rw [h.len]; exact hj), h.len])
    refine loopC_round hS ?_
    repeat refine wpC_seq hS ?_
    refine wpC_region hS ?_
    simp only [List.size_toArray, List.length_cons, List.length_nil, Nat.reduceAdd, Nat.zero_add, List.range, List.range.loop]
    refine opsC_binA (v := .bool false) hS rfl rfl rfl rfl rfl (by simp [int2]) ?_
    refine opsC_nil hS ?_
    show WpC _ _ _ _ _ _ _
    repeat refine wpC_seq hS ?_
    refine wpC_cond (t := false) hS rfl ?_
    simp only [if_true, if_false, Bool.false_eq_true]
    refine wpC_exit hS ?_
    show WpC _ _ _ _ _ _ _
    repeat refine wpC_seq hS ?_
    repeat refine wpC_seq hS ?_
    refine wpC_region hS ?_
    simp only [List.size_toArray, List.length_cons, List.length_nil, Nat.reduceAdd, Nat.zero_add, List.range, List.range.loop]
    repeat first
      | refine opsC_moveA hS rfl rfl (.inl rfl) ?_
      | refine opsC_moveA hS rfl rfl (.inr rfl) ?_
      | refine opsC_binA hS rfl rfl rfl rfl rfl rfl ?_
      | refine opsC_lenA hS rfl rfl rfl (by kernel_rfl) rfl ?_
      | (refine opsC_plain hS rfl rfl fun _ K hK => ?_; go_simp; refine hK _ (by simp [go_sem, events_cap_slice, events_slice_hi, *]) ?_; clear hK K; try walk_nrm)
    refine opsC_nil hS ?_
    show WpC _ _ _ _ _ _ _
    refine wpC_ret hS ⟨rfl, _, resultsC_tmp rfl _, ?_⟩
    rw [← e]
    exact ⟨g, rfl, r3, m3, s3⟩

end Go.Proofs.Ytjphaphnmclbcaa
