/- listWords: all words of a content, made by the goroutine that wordsOf starts. No condition. -/
import Derived.Test.YtjphaphnmclbcaaBnf
import Derived.Test.YtjphaphnmclbcaaChX
namespace Go.Proofs.Ytjphaphnmclbcaa
open Go Go.Conc Go.RowKit

/-- What the receiver holds: a list of lists of its own, each in blocks of M, each apart from all others. -/
structure LoL (B : Nat) (w : World) (M : Nat → Prop) (u : Value) (vs : List Value) (yss : List (List Int)) : Prop where
  row : w.ownsRow B 23 1 u yss.length vs
  ub : ∀ k, u.ownBlock = some k → M k
  it : ∀ (j : Nat) (v : Value), vs[j]? = some v → Own w B v (ell yss j) ∧ (∀ k, v.ownBlock = some k → M k) ∧ Apart v u
  ap : ∀ (i j : Nat) (v v' : Value), i < j → vs[i]? = some v → vs[j]? = some v' → Apart v v'

theorem row_chg {w w' : World} {B e s : Nat} {u : Value} {n : Nat} {vs : List Value} (h : w.ownsRow B e s u n vs) (hk : ∀ k, u.ownBlock = some k → w'.heap[k]? = w.heap[k]?) : w'.ownsRow B e s u n vs := by
  refine ⟨h.1, ?_⟩
  rcases h.2 with h2 | ⟨g, cap, cur, hv, hg, hh, r⟩
  · exact .inl h2
  · exact .inr ⟨g, cap, cur, hv, hg, (hk g (by rw [hv]; rfl)).trans hh, r⟩

theorem LoL.chg {B : Nat} {w w' : World} {M M' : Nat → Prop} {u : Value} {vs : List Value} {yss : List (List Int)} (h : LoL B w M u vs yss) (hk : ∀ k, M k → w'.heap[k]? = w.heap[k]?) (hM : ∀ k, M k → M' k) : LoL B w' M' u vs yss :=
  ⟨row_chg h.row fun k e => hk k (h.ub k e), fun k e => hM k (h.ub k e), fun j v hj => ⟨own_chg (h.it j v hj).1 fun k e _ => hk k ((h.it j v hj).2.1 k e), fun k e => hM k ((h.it j v hj).2.1 k e), (h.it j v hj).2.2⟩, h.ap⟩

theorem LoL.own {B : Nat} {w : World} {M : Nat → Prop} {u : Value} {vs : List Value} {yss : List (List Int)} (h : LoL B w M u vs yss) (hB : B ≤ w.heap.size) (hM : ∀ k, M k → k < w.heap.size) : OwnL w B w.heap.size u yss :=
  ⟨hB, Nat.le_refl _, vs, h.row, fun k hk => ⟨hM k (h.ub k hk), fun e => by cases e⟩, fun j v hj => ⟨(h.it j v hj).1, fun k hk => ⟨hM k ((h.it j v hj).2.1 k hk), fun e => by cases e⟩, (h.it j v hj).2.2⟩, h.ap⟩

theorem LoL.app {B : Nat} {w w' : World} {M M' : Nat → Prop} {u u' v : Value} {vs : List Value} {yss : List (List Int)} {ys : List Int} (h : LoL B w M u vs yss) (hv : Own w B v ys) (hvM : ∀ k, v.ownBlock = some k → ¬ M k)
    (hrow : w'.ownsRow B 23 1 u' (yss.length + 1) (vs ++ [v])) (hu' : u'.ownBlock = u.ownBlock ∨ ∃ K, u'.ownBlock = some K ∧ ¬ M K ∧ v.ownBlock ≠ some K) (hk : ∀ k, M k ∨ v.ownBlock = some k → u.ownBlock ≠ some k → w'.heap[k]? = w.heap[k]?)
    (hM : ∀ k, M k ∨ v.ownBlock = some k ∨ u'.ownBlock = some k → M' k) : LoL B w' M' u' (vs ++ [v]) (yss ++ [ys]) := by
  have hvl : vs.length = yss.length := by rw [h.row.1, Nat.mul_one]
  have hvu : Apart v u := by
    unfold Apart
    cases e : v.ownBlock with
    | none => exact .inl rfl
    | some k => exact .inr fun e2 => hvM k e (h.ub k e2.symm)
  have hvu' : Apart v u' := by
    rcases hu' with e | ⟨K, e, _, hK⟩
    · unfold Apart at *; rw [e]; exact hvu
    · exact .inr (by rw [e]; exact hK)
  have hap : ∀ t, Apart t u → (∀ k, t.ownBlock = some k → M k) → Apart t u' := by
    intro t ht htM
    rcases hu' with e | ⟨K, e, hK, _⟩
    · unfold Apart at *; rw [e]; exact ht
    · unfold Apart
      cases e2 : t.ownBlock with
      | none => exact .inl rfl
      | some k => exact .inr fun e3 => hK (by rw [e] at e3; cases e3; exact htM _ e2)
  have ne_of : ∀ {t : Value}, Apart t u → ∀ k, t.ownBlock = some k → u.ownBlock ≠ some k := by
    intro t ht k e e2
    rcases ht with h1 | h1
    · rw [h1] at e; cases e
    · exact h1 (e.trans e2.symm)
  refine ⟨by rw [List.length_append]; exact hrow, fun k e => hM k (.inr (.inr e)), fun j t hj => ?_, fun i j t t' hij hti htj => ?_⟩
  · by_cases hjl : j < vs.length
    · rw [List.getElem?_append_left hjl] at hj
      obtain ⟨p, q, r⟩ := h.it j t hj
      rw [ell_app_lt (by omega)]
      exact ⟨own_chg p fun k e _ => hk k (.inl (q k e)) (ne_of r k e), fun k e => hM k (.inl (q k e)), hap t r q⟩
    · have hj2 : j = yss.length := by
        have := (List.getElem?_eq_some_iff.1 hj).1
        rw [List.length_append, List.length_singleton] at this
        omega
      subst hj2
      rw [List.getElem?_append_right (by omega), hvl, Nat.sub_self] at hj
      simp at hj
      subst hj
      rw [ell_app_eq]
      exact ⟨own_chg hv fun k e _ => hk k (.inr e) (ne_of hvu k e), fun k e => hM k (.inr (.inl e)), hvu'⟩
  · have hil : i < vs.length := by
      have := (List.getElem?_eq_some_iff.1 htj).1
      rw [List.length_append, List.length_singleton] at this
      omega
    rw [List.getElem?_append_left hil] at hti
    by_cases hjl : j < vs.length
    · rw [List.getElem?_append_left hjl] at htj
      exact h.ap i j t t' hij hti htj
    · have hj2 : j = vs.length := by
        have := (List.getElem?_eq_some_iff.1 htj).1
        rw [List.length_append, List.length_singleton] at this
        omega
      subst hj2
      rw [List.getElem?_append_right (Nat.le_refl _), Nat.sub_self] at htj
      simp at htj
      subst htj
      unfold Apart
      cases e : t.ownBlock with
      | none => exact .inl rfl
      | some k => exact .inr fun e2 => hvM k e2.symm ((h.it i t hti).2.1 k e)

/-- At the head of listWords' loop: these words are still to come. -/
structure InvL (L : List Nat) (g1 c B : Nat) (Sh : Nat → Prop) (w6 : World) (words : List (List Int)) (rem : List (List Int)) (a : Act) (w : World) (M : Gh (Option (List (List Int)))) : Prop where
  act : ∃ (u : Value) (vs : List Value) (done : List (List Int)) (x2 x4 x5 x6 x8 x9 x10 x11 x12 x13 x14 x15 : Value), a = { tmps := #[.agg (cellsOf L), .pointer (some ⟨g1, 0, none⟩), x2, u, x4, x5, x6, .chan (some c), x8, x9, x10, x11, x12, x13, x14, x15], defers := [] } ∧ done ++ rem = words ∧ LoL B w M.2 u vs done
  ix : M.1 = some rem
  there : There Sh w M
  rl : Rl Sh (fun _ => False) w6 w
  ns : ∀ k, M.2 k → ¬ Sh k

theorem fill1 (f : Nat → Value) (v : Value) (hv : v.cells = #[v]) : Instr.fill (fun i => some (i * 1, 1)) ((Array.range (1 * 1)).map f) [(0, v)] = some #[v] := by
  simp [Instr.fill, hv]
  apply Array.ext'
  simp [List.range, List.range.loop]
theorem own_cells {w : World} {B : Nat} {v : Value} {ys : List Int} (h : Own w B v ys) : v.cells = #[v] := by
  rcases h.place with ⟨rfl, _⟩ | ⟨gv, cv, rfl, _⟩ <;> rfl

theorem load_T {w : World} {a : Act} {o : Oper} {ty t : TypeId} {x : Operand} {g : Nat} {cs : Array Value} {fr : Nat × Nat} (hop : o.op = .load ty x) (hd : aggT Try.prog ty = true) (hi : (Try.prog.info? ty).map (·.size) = some cs.size) (hx : a.eval x = .pointer (some ⟨g, 0, none⟩)) (hc : w.heap[g]? = some (.cells cs t fr)) :
    (execOp a.eval o).run Try.prog w = .ok (.value (.agg cs)) w ∧ ∀ e ∈ (execOp a.eval o).events Try.prog w #[], Hears e := by
  obtain ⟨d, hu, hdd⟩ := aggT_out hd
  have hr := run_loadVar_row (P := Try.prog) w g t ty cs fr d hc hu (by cases d <;> first | rfl | exact hdd) hi
  obtain ⟨ti, hinf, hsz⟩ := Option.map_eq_some_iff.1 hi
  unfold execOp
  simp only [hop]
  refine ⟨?_, fun ev he => ?_⟩
  · simp [Instr.loadAt, Instr.sureAddr, hx, hr]
  · simp [Instr.loadAt, Instr.sureAddr, hx, loadVar, isAgg_agg hd, sizeOf, typeInfo, hinf, loadCells] at he
    rcases events_loadCellsFrom_reads (P := Try.prog) _ _ _ _ _ _ ev he with h2 | ⟨ad, h2, h3⟩
    · simp at h2
    · exact ⟨by rw [h2]; simp, by rw [h2]; simp⟩

theorem infoCh : (Try.prog.info? 79).map (fun i => i.zero) = some (some (.chan none)) := by kernel_rfl
theorem infoCh1 : (Try.prog.info? 79).map (·.size) = some 1 := by kernel_rfl

theorem store_T {w : World} {a : Act} {o : Oper} {t : TypeId} {x y : Operand} {ad : Addr} {v u : Value} (hop : o.op = .store t x y) (hi : (Try.prog.info? t).map (·.size) = some 1) (hv : v.cells = #[v]) (h1 : v.oneCell' = true) (hx : a.eval x = .pointer (some ad)) (hy : a.eval y = v) (hc : w.cell? ad = some u) (hf : w.frozen? ad = false) :
    (execOp a.eval o).run Try.prog w = .ok .skip (w.setCell ad v) ∧ ∀ e ∈ (execOp a.eval o).events Try.prog w #[], Hears e := by
  obtain ⟨inf, hinf, hsz⟩ := Option.map_eq_some_iff.1 hi
  have e0 : ad.add 0 = ad := by simp [Addr.add]
  have hst : (store ad v).run Try.prog w = .ok () (w.setCell ad v) := by rw [run_store Try.prog w ad v .plain h1]; simp [hc, hf]
  have hev : (store ad v).events Try.prog w #[] = #[⟨.cell ad, true, false⟩] := by rw [events_store Try.prog w #[] ad v .plain h1]; simp [hc, hf]
  refine ⟨?_, fun e he => ?_⟩
  · unfold execOp
    simp [hop, Instr.storeAt, Instr.sureAddr, hx, hy, storeVar, sizeOf, hv, storeCells, typeInfo, hinf, hsz, e0, hst]
  · unfold execOp at he
    simp [hop, Instr.storeAt, Instr.sureAddr, hx, hy, storeVar, sizeOf, hv, storeCells, typeInfo, hinf, hsz, e0, hev] at he
    subst he
    exact ⟨by simp, by simp⟩

set_option linter.unusedSimpArgs false in
set_option maxHeartbeats 4000000 in
theorem listWords_T (L : List Nat) (w : World) (hL : L.length = 4) (hs : L.sum ≤ 100) (hlen : (wgo L.sum [] L).length ≤ 1000000) (cf : Frame) (cs : List Frame) (Stop : Goroutine → World → Prop)
    (hR : ∀ v w', OwnL w' w.heap.size w'.heap.size v (wgo L.sum [] L) → Only w w' → T Try.prog Stop (G (cf.finish v) cs) w') :
    T Try.prog Stop (G (Frame.enter Try.prog 72 #[.agg (cellsOf L)] .normal) (cf :: cs)) w := by
  rw [enter_at _ Try.func72 rfl]
  simp only [Try.ntmps72, List.size_toArray, List.length_cons, List.length_nil, Nat.reduceAdd, Nat.reduceSub, Array.replicate_succ,
     Array.replicate_zero, List.push_toArray, List.append_toArray, List.nil_append, List.cons_append]
  obtain ⟨bl, hbl⟩ : ∃ bl, bl = base 72 := ⟨_, rfl⟩
  have hkb : bl.kind ≠ .early := by rw [hbl]; simp [base]
  rw [← hbl]
  refine .ctl rfl (fun _ => stepG_seq) ?_
  refine .ctl rfl (fun _ => stepG_region) ?_
  simp only [List.size_toArray, List.length_cons, List.length_nil, Nat.reduceAdd, Nat.zero_add, List.range, List.range.loop]
  refine T.new (v := .pointer (some ⟨w.heap.size, 0, none⟩)) (ob := .cells (cellsOf L) 63) hkb rfl rfl (fun w₁ h₁ => ⟨?_, by simp [go_sem]⟩) (by (with_reducible simp only [Act.put, Act.eval, Array.getD_eq_getD_getElem?, List.getElem?_toArray, List.getElem_toArray, List.getElem_cons_zero, List.getElem_cons_succ, List.getElem?_cons_zero, List.getElem?_cons_succ, Option.getD_some, List.setIfInBounds_toArray, List.set_cons_zero, List.set_cons_succ]); exact rfl) ?_
  · go_simp
    simp [Instr.box, newVar, newRow, Value.cells, re_heap h₁]
  refine T.val hkb rfl rfl (fun w₁ h₁ => ⟨(by go_simp; exact rfl), by simp [go_sem]⟩) (by (with_reducible simp only [Act.put, Act.eval, Array.getD_eq_getD_getElem?, List.getElem?_toArray, List.getElem_toArray, List.getElem_cons_zero, List.getElem_cons_succ, List.getElem?_cons_zero, List.getElem?_cons_succ, Option.getD_some, List.setIfInBounds_toArray, List.set_cons_zero, List.set_cons_succ]); exact rfl) ?_
  refine .ctl rfl (fun _ => stepG_region_end) ?_
  obtain ⟨w1, hw1⟩ : ∃ w1, w1 = w.alloc (.cells (cellsOf L) 63) := ⟨_, rfl⟩
  have s1 : w.heap.size < w1.heap.size := by rw [hw1, World.size_alloc]; exact Nat.lt_succ_self _
  have b1 : w1.heap[w.heap.size]? = some (.cells (cellsOf L) 63 (0, 0)) := by rw [hw1]; exact heap_alloc_new _ _
  have o1 : Only w w1 := by rw [hw1]; exact ⟨rfl, rfl, by rw [World.size_alloc]; exact Nat.le_succ _, fun k hk => heap_alloc_old _ _ hk⟩
  rw [← hw1]
  clear hw1
  refine .ctl rfl (fun _ => stepG_seq) ?_
  refine .ctl rfl (fun _ => stepG_region) ?_
  simp only [List.size_toArray, List.length_cons, List.length_nil, Nat.reduceAdd, Nat.zero_add, List.range, List.range.loop]
  refine T.new (v := .slice (some ⟨w1.heap.size, 0, none⟩) 0 0) (ob := .cells #[] 23) hkb rfl rfl (fun w₁ h₁ => ⟨?_, ?_⟩) (by (with_reducible simp only [Act.put, Act.eval, Array.getD_eq_getD_getElem?, List.getElem?_toArray, List.getElem_toArray, List.getElem_cons_zero, List.getElem_cons_succ, List.getElem?_cons_zero, List.getElem?_cons_succ, Option.getD_some, List.setIfInBounds_toArray, List.set_cons_zero, List.set_cons_succ]); exact rfl) ?_
  · go_simp
    simp [re_heap h₁]
  · simp [go_sem]
  refine T.val hkb rfl rfl (fun w₁ h₁ => ⟨(by go_simp; exact rfl), by simp [go_sem]⟩) (by (with_reducible simp only [Act.put, Act.eval, Array.getD_eq_getD_getElem?, List.getElem?_toArray, List.getElem_toArray, List.getElem_cons_zero, List.getElem_cons_succ, List.getElem?_cons_zero, List.getElem?_cons_succ, Option.getD_some, List.setIfInBounds_toArray, List.set_cons_zero, List.set_cons_succ]); exact rfl) ?_
  refine .ctl rfl (fun _ => stepG_region_end) ?_
  obtain ⟨w2, hw2⟩ : ∃ w2, w2 = w1.alloc (.cells #[] 23) := ⟨_, rfl⟩
  have s2 : w1.heap.size < w2.heap.size := by rw [hw2, World.size_alloc]; exact Nat.lt_succ_self _
  have b2 : w2.heap[w1.heap.size]? = some (.cells #[] 23 (0, 0)) := by rw [hw2]; exact heap_alloc_new _ _
  have o2 : Only w1 w2 := by rw [hw2]; exact ⟨rfl, rfl, by rw [World.size_alloc]; exact Nat.le_succ _, fun k hk => heap_alloc_old _ _ hk⟩
  rw [← hw2]
  clear hw2
  refine .ctl rfl (fun _ => stepG_seq) ?_
  refine .ctl rfl (fun _ => stepG_seq) ?_
  refine .ctl rfl (fun _ => stepG_region) ?_
  simp only [List.size_toArray, List.length_cons, List.length_nil, Nat.reduceAdd, Nat.zero_add, List.range, List.range.loop]
  have hcs : (cellsOf L).size = 4 := by simp [cellsOf, hL]
  have bo : w2.heap[w.heap.size]? = some (.cells (cellsOf L) 63 (0, 0)) := (o2.keep _ s1).trans b1
  refine T.val (v := .agg (cellsOf L)) hkb rfl rfl (fun w₁ h₁ => ?_) (by (with_reducible simp only [Act.put, Act.eval, Array.getD_eq_getD_getElem?, List.getElem?_toArray, List.getElem_toArray, List.getElem_cons_zero, List.getElem_cons_succ, List.getElem?_cons_zero, List.getElem?_cons_succ, Option.getD_some, List.setIfInBounds_toArray, List.set_cons_zero, List.set_cons_succ]); exact rfl) ?_
  · exact load_T rfl (by kernel_rfl) (by rw [hcs]; exact info4) rfl (by rw [re_heap h₁]; exact bo)
  refine T.enterF (vs := #[.agg (cellsOf L)]) hkb rfl rfl rfl Try.func93 (by kernel_rfl) rfl (by simp only [List.map_toArray, List.map_cons, List.map_nil]; rfl) ?_
  simp only [Try.ntmps93, List.size_toArray, List.length_cons, List.length_nil, Nat.reduceAdd, Nat.reduceSub, Array.replicate_succ,
     Array.replicate_zero, List.push_toArray, List.append_toArray, List.nil_append, List.cons_append]
  obtain ⟨bw, hbw⟩ : ∃ bw, bw = base 93 := ⟨_, rfl⟩
  have hkw : bw.kind ≠ .early := by rw [hbw]; simp [base]
  rw [← hbw]
  refine .ctl rfl (fun _ => stepG_seq) ?_
  refine .ctl rfl (fun _ => stepG_region) ?_
  simp only [List.size_toArray, List.length_cons, List.length_nil, Nat.reduceAdd, Nat.zero_add, List.range, List.range.loop]
  refine T.new (v := .pointer (some ⟨w2.heap.size, 0, none⟩)) (ob := .cells (cellsOf L) 63) hkw rfl rfl (fun w₁ h₁ => ⟨?_, by simp [go_sem]⟩) (by (with_reducible simp only [Act.put, Act.eval, Array.getD_eq_getD_getElem?, List.getElem?_toArray, List.getElem_toArray, List.getElem_cons_zero, List.getElem_cons_succ, List.getElem?_cons_zero, List.getElem?_cons_succ, Option.getD_some, List.setIfInBounds_toArray, List.set_cons_zero, List.set_cons_succ]); exact rfl) ?_
  · go_simp
    simp [Instr.box, newVar, newRow, Value.cells, re_heap h₁]
  refine T.val hkw rfl rfl (fun w₁ h₁ => ⟨(by go_simp; exact rfl), by simp [go_sem]⟩) (by (with_reducible simp only [Act.put, Act.eval, Array.getD_eq_getD_getElem?, List.getElem?_toArray, List.getElem_toArray, List.getElem_cons_zero, List.getElem_cons_succ, List.getElem?_cons_zero, List.getElem?_cons_succ, Option.getD_some, List.setIfInBounds_toArray, List.set_cons_zero, List.set_cons_succ]); exact rfl) ?_
  refine .ctl rfl (fun _ => stepG_region_end) ?_
  obtain ⟨w3, hw3⟩ : ∃ w3, w3 = w2.alloc (.cells (cellsOf L) 63) := ⟨_, rfl⟩
  have s3 : w2.heap.size < w3.heap.size := by rw [hw3, World.size_alloc]; exact Nat.lt_succ_self _
  have b3 : w3.heap[w2.heap.size]? = some (.cells (cellsOf L) 63 (0, 0)) := by rw [hw3]; exact heap_alloc_new _ _
  have o3 : Only w2 w3 := by rw [hw3]; exact ⟨rfl, rfl, by rw [World.size_alloc]; exact Nat.le_succ _, fun k hk => heap_alloc_old _ _ hk⟩
  rw [← hw3]
  clear hw3
  refine .ctl rfl (fun _ => stepG_seq) ?_
  refine .ctl rfl (fun _ => stepG_region) ?_
  simp only [List.size_toArray, List.length_cons, List.length_nil, Nat.reduceAdd, Nat.zero_add, List.range, List.range.loop]
  refine T.new (v := .chan (some w3.heap.size)) (ob := .chan 0 #[] false 0 0 false) hkw rfl rfl (fun w₁ h₁ => ⟨?_, ?_⟩) (by (with_reducible simp only [Act.put, Act.eval, Array.getD_eq_getD_getElem?, List.getElem?_toArray, List.getElem_toArray, List.getElem_cons_zero, List.getElem_cons_succ, List.getElem?_cons_zero, List.getElem?_cons_succ, Option.getD_some, List.setIfInBounds_toArray, List.set_cons_zero, List.set_cons_succ]); exact rfl) ?_
  · go_simp
    simp [Instr.makeChan, asInt, asIntOf, re_heap h₁]
  · go_simp
    simp [Instr.makeChan, asInt, asIntOf]
  obtain ⟨w4, hw4⟩ : ∃ w4, w4 = w3.alloc (.chan 0 #[] false 0 0 false) := ⟨_, rfl⟩
  have s4 : w3.heap.size < w4.heap.size := by rw [hw4, World.size_alloc]; exact Nat.lt_succ_self _
  have b4 : w4.heap[w3.heap.size]? = some (.chan 0 #[] false 0 0 false) := by rw [hw4]; exact heap_alloc_new _ _
  have o4 : Only w3 w4 := by rw [hw4]; exact ⟨rfl, rfl, by rw [World.size_alloc]; exact Nat.le_succ _, fun k hk => heap_alloc_old _ _ hk⟩
  rw [← hw4]
  clear hw4
  obtain ⟨ic, hic, hzc⟩ := Option.map_eq_some_iff.1 infoCh
  refine T.new (v := .pointer (some ⟨w4.heap.size, 0, none⟩)) (ob := .cells #[.chan none] 79) hkw rfl rfl (fun w₁ h₁ => ⟨?_, ?_⟩) (by (with_reducible simp only [Act.put, Act.eval, Array.getD_eq_getD_getElem?, List.getElem?_toArray, List.getElem_toArray, List.getElem_cons_zero, List.getElem_cons_succ, List.getElem?_cons_zero, List.getElem?_cons_succ, Option.getD_some, List.setIfInBounds_toArray, List.set_cons_zero, List.set_cons_succ]); exact rfl) ?_
  · go_simp
    simp [Instr.alloc, newVar, newRow, zeroValue, typeInfo, hic, hzc, Value.cells, re_heap h₁]
  · go_simp
  obtain ⟨w5, hw5⟩ : ∃ w5, w5 = w4.alloc (.cells #[.chan none] 79) := ⟨_, rfl⟩
  have s5 : w4.heap.size < w5.heap.size := by rw [hw5, World.size_alloc]; exact Nat.lt_succ_self _
  have b5 : w5.heap[w4.heap.size]? = some (.cells #[.chan none] 79 (0, 0)) := by rw [hw5]; exact heap_alloc_new _ _
  have o5 : Only w4 w5 := by rw [hw5]; exact ⟨rfl, rfl, by rw [World.size_alloc]; exact Nat.le_succ _, fun k hk => heap_alloc_old _ _ hk⟩
  rw [← hw5]
  clear hw5
  refine T.upd (ad := ⟨w4.heap.size, 0, none⟩) (v := .chan (some w3.heap.size)) hkw rfl rfl (fun w₁ h₁ => ?_) (by (with_reducible simp only [Act.put, Act.eval, Array.getD_eq_getD_getElem?, List.getElem?_toArray, List.getElem_toArray, List.getElem_cons_zero, List.getElem_cons_succ, List.getElem?_cons_zero, List.getElem?_cons_succ, Option.getD_some, List.setIfInBounds_toArray, List.set_cons_zero, List.set_cons_succ]); exact rfl) ?_
  · have hb : w₁.heap[w4.heap.size]? = some (.cells #[.chan none] 79 (0, 0)) := by rw [re_heap h₁]; exact b5
    exact store_T rfl infoCh1 rfl rfl rfl rfl (by rw [cell_of_row w₁ _ 0 _ _ _ hb]; rfl) (by simp [World.frozen?, hb])
  obtain ⟨w6, hw6⟩ : ∃ w6, w6 = w5.setCell ⟨w4.heap.size, 0, none⟩ (.chan (some w3.heap.size)) := ⟨_, rfl⟩
  have s6 : w6.heap.size = w5.heap.size := by rw [hw6]; exact setCell_size _ _ _
  have k6 : ∀ k, k ≠ w4.heap.size → w6.heap[k]? = w5.heap[k]? := fun k hk => by rw [hw6]; exact setCell_other _ _ _ hk
  have c6 : w6.cell? ⟨w4.heap.size, 0, none⟩ = some (.chan (some w3.heap.size)) := by
    rw [hw6, setCell_eq_setRow w5 _ 0 _ _ _ _ b5, cell_of_row _ _ 0 _ _ _ (setRow_heap w5 _ _ _ _ _ b5)]
    rfl
  have q6 : w6.os = w5.os ∧ w6.output = w5.output := by rw [hw6]; exact ⟨rfl, rfl⟩
  rw [← hw6]
  clear hw6
  refine .ctl rfl (fun _ => stepG_region_end) ?_
  refine .ctl rfl (fun _ => stepG_seq) ?_
  refine .ctl rfl (fun _ => stepG_region) ?_
  simp only [List.size_toArray, List.length_cons, List.length_nil, Nat.reduceAdd, Nat.zero_add, List.range, List.range.loop]
  refine T.val (v := .func (.func 104) #[] #[.pointer (some ⟨w4.heap.size, 0, none⟩), .pointer (some ⟨w2.heap.size, 0, none⟩)]) hkw rfl rfl (fun w₁ h₁ => ⟨(by go_simp), by simp [go_sem]⟩) (by (with_reducible simp only [Act.put, Act.eval, Array.getD_eq_getD_getElem?, List.getElem?_toArray, List.getElem_toArray, List.getElem_cons_zero, List.getElem_cons_succ, List.getElem?_cons_zero, List.getElem?_cons_succ, Option.getD_some, List.setIfInBounds_toArray, List.set_cons_zero, List.set_cons_succ]); exact rfl) ?_
  have hc3 : w3.heap.size < w6.heap.size := by omega
  obtain ⟨Sh, hSh⟩ : ∃ Sh : Nat → Prop, Sh = fun k => k < w6.heap.size ∧ k ≠ w3.heap.size ∧ k ≠ w1.heap.size := ⟨_, rfl⟩
  obtain ⟨B6, hB6⟩ : ∃ B6, B6 = w6.heap.size := ⟨_, rfl⟩
  have shlt : ∀ k, Sh k → k < B6 := fun k hk => by rw [hSh] at hk; rw [hB6]; exact hk.1
  have shw4 : Sh w4.heap.size := by rw [hSh]; exact ⟨by omega, by omega, by omega⟩
  have shw2 : Sh w2.heap.size := by rw [hSh]; exact ⟨by omega, by omega, by omega⟩
  have bc6 : w6.heap[w2.heap.size]? = some (.cells (cellsOf L) 63 (0, 0)) := by
    rw [k6 _ (by omega), o5.keep _ (by omega), o4.keep _ (by omega)]
    exact b3
  have hS : Fam Try.prog true Sh (RcvF Try.prog w3.heap.size Sh (PhiW B6) (.slice none 0 0) Stop) := fam_rcv
  refine T.fork (c := w3.heap.size) (Sh := Sh) (Phi := PhiW B6) (z := .slice none 0 0) (xs := wgo L.sum [] L) (s := 0) (tm := false) (M0 := fun k => k = w1.heap.size) (phiW_keeps _) hkw rfl rfl (fun w₁ => ?_) (fun w₁ => ?_) ?_ (fun k hk => hB6 ▸ shlt k hk)
    (by rw [hSh]; exact fun h => h.2.1 rfl) (fun k hk => ?_) (by (with_reducible simp only [Act.put, Act.eval, Array.getD_eq_getD_getElem?, List.getElem?_toArray, List.getElem_toArray, List.getElem_cons_zero, List.getElem_cons_succ, List.getElem?_cons_zero, List.getElem?_cons_succ, Option.getD_some, List.setIfInBounds_toArray, List.set_cons_zero, List.set_cons_succ]); exact rfl) ?_ (child_snd L w4.heap.size w2.heap.size w6 hL hs shlt (by omega) shw4 shw2 c6 bc6)
  · go_simp
  · go_simp
  · rw [k6 _ (by omega), o5.keep _ (by omega)]
    exact b4
  · subst hk
    rw [hSh]
    exact ⟨by omega, by omega, fun h => h.2.2 rfl⟩
  · refine hS.ctl rfl (fun _ => stepG_region_end) ?_
    refine hS.ctl rfl (fun _ => stepG_seq) ?_
    refine WpC.at (fn := 93) (R := fun a w' M' => a = { tmps := #[.agg (cellsOf L), .pointer (some ⟨w2.heap.size, 0, none⟩), .chan (some w3.heap.size), .pointer (some ⟨w4.heap.size, 0, none⟩), .chan (some w3.heap.size), .func (.func 104) #[] #[.pointer (some ⟨w4.heap.size, 0, none⟩), .pointer (some ⟨w2.heap.size, 0, none⟩)], .chan (some w3.heap.size)], defers := [] } ∧ w' = w6 ∧ M' = (some (wgo L.sum [] L), fun k => k = w1.heap.size)) ?_ (by rw [hbw]; rfl) hkw ?_
    · refine wpC_region hS ?_
      simp only [List.size_toArray, List.length_cons, List.length_nil, Nat.reduceAdd, Nat.zero_add, List.range, List.range.loop]
      refine opsC_load (ad := ⟨w4.heap.size, 0, none⟩) (v := .chan (some w3.heap.size)) hS rfl rfl rfl (by kernel_rfl) rfl (.inl shw4) c6 ?_
      repeat first
        | refine opsC_moveA hS rfl rfl (.inl rfl) ?_
        | refine opsC_moveA hS rfl rfl (.inr rfl) ?_
        | refine opsC_binA hS rfl rfl rfl rfl rfl rfl ?_
        | refine opsC_lenA hS rfl rfl rfl (by kernel_rfl) rfl ?_
        | (refine opsC_plain hS rfl rfl fun _ K hK => ?_; go_simp; refine hK _ (by simp [go_sem, events_cap_slice, events_slice_hi, *]) ?_; clear hK K; try walk_nrm)
      exact opsC_nil hS ⟨rfl, rfl, rfl, rfl⟩
    rintro a0 w0' M0' ⟨ha0, hw0, hM0⟩
    rw [ha0, hw0, hM0]
    clear ha0 hw0 hM0
    refine hS.ctl rfl (fun _ => stepG_ret') ?_
    refine hS.ctl rfl (fun w => stepG_leave (by rw [hbw]; rfl) rfl (by rw [hbw]; exact Try.func93) (resultsC_tmp rfl _ w).1 (resultsC_tmp rfl _ w).2) ?_
    rw [Frame.finish_at]
    refine hS.ctl rfl (fun _ => stepG_region_end) ?_
    refine WpC.at (fn := 72) (R := fun a w' M' => ∃ (u : Value) (vs : List Value) (x2 x4 x5 x6 x8 x9 x10 x11 x12 x13 x14 x15 : Value), a = { tmps := #[.agg (cellsOf L), .pointer (some ⟨w.heap.size, 0, none⟩), x2, u, x4, x5, x6, .chan (some w3.heap.size), x8, x9, x10, x11, x12, x13, x14, x15], defers := [] } ∧ LoL w.heap.size w' M'.2 u vs (wgo L.sum [] L) ∧ M'.1 = none ∧ There Sh w' M' ∧ Rl Sh (fun _ => False) w6 w') ?_ (by rw [hbl]; rfl) hkb ?_
    · refine wpC_block hS ?_
      refine wpC_loop_of hS ?_
      refine loopC_list (InvL L w.heap.size w3.heap.size w.heap.size Sh w6 (wgo L.sum [] L)) ?_ ?_ (wgo L.sum [] L) _ _ _ ⟨⟨.slice (some ⟨w1.heap.size, 0, none⟩) 0 0, [], [], _, _, _, _, _, _, _, _, _, _, _, _, rfl, rfl, ?_⟩, rfl, ?_, Rl.refl _ _ _, ?_⟩
      · rintro x rem a w' ⟨Mi, M'⟩ ⟨⟨u, vs, done, x2, x4, x5, x6, x8, x9, x10, x11, x12, x13, x14, x15, rfl, hdn, hl⟩, hix, hth, hrl, hMSh⟩ hN
        simp only at hix
        subst hix
        refine loopC_round hS ?_
        refine wpC_seq hS ?_
        refine wpC_region hS ?_
        simp only [List.size_toArray, List.length_cons, List.length_nil, Nat.reduceAdd, Nat.zero_add, List.range, List.range.loop]
        refine opsC_recv rfl rfl (fun w => by simp [go_sem, rcase]) fun w₂ v V h₂ hP hV => ?_
        obtain ⟨hv, hVe⟩ := hP
        have hl2 := hl.chg (w' := w₂) (M' := M') (fun k hk => h₂.keep k (.inr hk)) (fun _ h => h)
        have th2 : There Sh w₂ ((some rem, fun k => M' k ∨ V k) : Gh (Option (List (List Int)))) := fun k hk => by
          have hsz := h₂.size
          rcases hk with hk | hk | hk
          · have := hth k (.inl hk); omega
          · have := hth k (.inr hk); omega
          · exact (hV k hk).2.2.2
        have hlt2 : ∀ k, M' k → k < w₂.heap.size := fun k hk => th2 k (.inr (.inl hk))
        have rl2 : Rl Sh (fun _ => False) w6 w₂ := hrl.trans (h₂.mono fun k hk => hk.elim)
        have hvV : ∀ k, v.ownBlock = some k → V k := fun k hk => by rw [hVe]; exact hk
        have hvN : ∀ k, v.ownBlock = some k → ¬ M' k := fun k hk => (hV k (hvV k hk)).1
        have hvlt : ∀ k, v.ownBlock = some k → k < w₂.heap.size := fun k hk => (hV k (hvV k hk)).2.2.2
        (refine opsC_plain hS rfl rfl fun _ K hK => ?_; go_simp; refine hK _ (by simp [go_sem, events_cap_slice, events_slice_hi, *]) ?_; clear hK K; try walk_nrm)
        refine opsC_nil hS ?_
        show WpC _ _ _ _ _ _ _
        refine wpC_seq hS ?_
        refine wpC_cond (t := true) hS rfl ?_
        simp only [if_true, if_false, Bool.false_eq_true]
        refine wpC_skip hS ?_
        show WpC _ _ _ _ _ _ _
        refine wpC_block hS ?_
        refine wpC_seq hS ?_
        refine wpC_region hS ?_
        simp only [List.size_toArray, List.length_cons, List.length_nil, Nat.reduceAdd, Nat.zero_add, List.range, List.range.loop]
        (refine opsC_plain hS rfl rfl fun _ K hK => ?_; go_simp; refine hK _ (by simp [go_sem, events_cap_slice, events_slice_hi, *]) ?_; clear hK K; try walk_nrm)
        repeat first
          | refine opsC_moveA hS rfl rfl (.inl rfl) ?_
          | refine opsC_moveA hS rfl rfl (.inr rfl) ?_
          | refine opsC_binA hS rfl rfl rfl rfl rfl rfl ?_
          | refine opsC_lenA hS rfl rfl rfl (by kernel_rfl) rfl ?_
          | (refine opsC_plain hS rfl rfl fun _ K hK => ?_; go_simp; refine hK _ (by simp [go_sem, events_cap_slice, events_slice_hi, *]) ?_; clear hK K; try walk_nrm)
        refine opsC_nil hS ?_
        show WpC _ _ _ _ _ _ _
        refine wpC_region hS ?_
        simp only [List.size_toArray, List.length_cons, List.length_nil, Nat.reduceAdd, Nat.zero_add, List.range, List.range.loop]
        first
          | refine opsC_moveA hS rfl rfl (.inl rfl) ?_
          | refine opsC_moveA hS rfl rfl (.inr rfl) ?_
          | refine opsC_binA hS rfl rfl rfl rfl rfl rfl ?_
          | refine opsC_lenA hS rfl rfl rfl (by kernel_rfl) rfl ?_
          | (refine opsC_plain hS rfl rfl fun _ K hK => ?_; go_simp; refine hK _ (by simp [go_sem, events_cap_slice, events_slice_hi, *]) ?_; clear hK K; try walk_nrm)
        first
          | refine opsC_moveA hS rfl rfl (.inl rfl) ?_
          | refine opsC_moveA hS rfl rfl (.inr rfl) ?_
          | refine opsC_binA hS rfl rfl rfl rfl rfl rfl ?_
          | refine opsC_lenA hS rfl rfl rfl (by kernel_rfl) rfl ?_
          | (refine opsC_plain hS rfl rfl fun _ K hK => ?_; go_simp; refine hK _ (by simp [go_sem, events_cap_slice, events_slice_hi, *]) ?_; clear hK K; try walk_nrm)
        obtain ⟨iL, hiL, zL0, zL1, zL2⟩ := info_parts infoL
        refine opsC_buildSlice (cells := #[v]) hS rfl rfl rfl Try.underlying38 hiL zL0 zL1 (by omega) ?_ fun wa ha => ?_
        · refine (congrArg (Instr.fill _ _) (show _ = [(0, v)] from ?_)).trans (fill1 _ v (own_cells hv))
          simp only [List.map_toArray, List.map_cons, List.map_nil]
          rfl
        have hgb := World.grownBy_alloc wa (.cells #[v] 23) none
        obtain ⟨wb, hwb⟩ : ∃ wb, wb = wa.alloc (.cells #[v] 23) := ⟨_, rfl⟩
        have hcb : wb.heap[wa.heap.size]? = some (.cells #[v] 23 (0, 0)) := by rw [hwb]; exact heap_alloc_new _ _
        have hsb : wa.heap.size < wb.heap.size := by rw [hwb, World.size_alloc]; exact Nat.lt_succ_self _
        rw [← hwb] at hgb ⊢
        have fb := (Fwd.refl Sh w₂ ((some rem, fun k => M' k ∨ V k) : Gh (Option (List (List Int))))).grown ha hgb (fun k hk => by cases hk) th2
        have thb := th2.grown ha hgb.size
        have hlb := hl2.chg (w' := wb) (M' := M') (fun k hk => fb.rl.keep k (.inr (.inl hk))) (fun _ h => h)
        have hvb := own_chg (w' := wb) hv fun k hk _ => fb.rl.keep k (.inr (.inr (hvV k hk)))
        have has := ha.size
        clear hwb hgb
        have hdl : done.length + 1 ≤ 1000000 := by
          have := congrArg List.length hdn
          simp at this
          omega
        refine opsC_append hS rfl rfl _ _ 38 rfl w.heap.size 23 iL (.slice none 0 0) Try.underlying38 hiL zL0 zL1 (by rw [zL2]; decide) rfl u done.length vs rfl hlb.row (fun k hk => .inl (.inl (hlb.ub k hk))) ⟨wa.heap.size, 0, none⟩ 1 1 [v] rfl (.inr (.inr ⟨Nat.le_refl _, hsb⟩)) rfl
          (fun j y hj => ?_) (by intro y hy; simp at hy; subst hy; exact hv.oneCell) (by omega) (by have := rl2.size; omega) ?_
        · match j, hj with
          | 0, hj => simp at hj; subst hj; rw [show (⟨wa.heap.size, 0, none⟩ : Addr).add 0 = ⟨wa.heap.size, 0, none⟩ from rfl, cell_of_row wb _ 0 _ _ _ hcb]; rfl
        intro wc u' wd hc hrow hk hg hm
        have hcs := hc.size
        have hlc := hlb.chg (w' := wc) (M' := M') (fun k hk => hc.keep k (.inr (.inl (.inl hk)))) (fun _ h => h)
        have hvc := own_chg (w' := wc) hvb fun k hk _ => hc.keep k (.inr (.inl (.inr (hvV k hk))))
        have hnew := hlc.app (w' := wd) (M' := grow (grow (fun k => M' k ∨ V k) wa wb) wc wd) (hvc.mono (by have := rl2.size; omega)) hvN hrow (hk.imp id fun e => ⟨wc.heap.size, e, fun h => by have := hlt2 _ h; omega, fun h => by have := hvlt _ h; omega⟩)
          (fun k hk' hne => hg.block k (by rcases hk' with h | h
                                           · have := hlt2 k h; omega
                                           · have := hvlt k h; omega) fun e => hne e.symm)
          (fun k hk' => by rcases hk' with h | h | h
                           · exact .inl (.inl (.inl h))
                           · exact .inl (.inl (.inr (hvV k h)))
                           · exact hm k h)
        have thd := thb.grown hc hg.size
        have hsh : ∀ k, Sh k → k < w6.heap.size := fun k hk => hB6 ▸ shlt k hk
        have rld : Rl Sh (fun _ => False) w6 wd := by
          refine rl2.trans ((fb.rl.mono fun k hk => hk.elim).trans ((hc.mono fun k hk => hk.elim).trans ⟨hg.os, hg.output, hg.size, fun k hk => ?_⟩))
          rcases hk with hk | hk
          · refine hg.block k (by have := hsh k hk; have := rl2.size; omega) fun e => ?_
            have := hl.ub k e.symm
            exact absurd hk (hMSh k this)
          · exact hk.elim
        repeat first
          | refine opsC_moveA hS rfl rfl (.inl rfl) ?_
          | refine opsC_moveA hS rfl rfl (.inr rfl) ?_
          | refine opsC_binA hS rfl rfl rfl rfl rfl rfl ?_
          | refine opsC_lenA hS rfl rfl rfl (by kernel_rfl) rfl ?_
          | (refine opsC_plain hS rfl rfl fun _ K hK => ?_; go_simp; refine hK _ (by simp [go_sem, events_cap_slice, events_slice_hi, *]) ?_; clear hK K; try walk_nrm)
        refine opsC_nil hS ?_
        show LoopC _ _ _ _ _ _ _
        refine hN _ _ _ ⟨⟨u', vs ++ [v], done ++ [x], _, _, _, _, _, _, _, _, _, _, _, _, rfl, by rw [← hdn]; simp, hnew⟩, rfl, thd, rld, ?_⟩
        intro k hk hS'
        have h6 := rl2.size
        have hk6 := hsh k hS'
        rcases hk with (hk | ⟨hk, _⟩) | ⟨hk, _⟩
        · rcases hk with hk | hk
          · exact hMSh k hk hS'
          · exact (hV k hk).2.1 hS'
        · omega
        · omega
      · rintro a w' ⟨Mi, M'⟩ ⟨⟨u, vs, done, x2, x4, x5, x6, x8, x9, x10, x11, x12, x13, x14, x15, rfl, hdn, hl⟩, hix, hth, hrl, hMSh⟩
        simp only at hix
        subst hix
        refine loopC_round hS ?_
        refine wpC_seq hS ?_
        refine wpC_region hS ?_
        simp only [List.size_toArray, List.length_cons, List.length_nil, Nat.reduceAdd, Nat.zero_add, List.range, List.range.loop]
        refine opsC_recv_end rfl rfl (fun w => by simp [go_sem, rcase]) ?_
        (refine opsC_plain hS rfl rfl fun _ K hK => ?_; go_simp; refine hK _ (by simp [go_sem, events_cap_slice, events_slice_hi, *]) ?_; clear hK K; try walk_nrm)
        refine opsC_nil hS ?_
        show WpC _ _ _ _ _ _ _
        refine wpC_seq hS ?_
        refine wpC_cond (t := false) hS rfl ?_
        simp only [if_true, if_false, Bool.false_eq_true]
        have hdw : done = wgo L.sum [] L := by simpa using hdn
        rw [hdw] at hl
        refine wpC_exit hS ?_
        show (Exit.normal = Exit.normal) ∧ _
        exact ⟨rfl, u, vs, _, _, _, _, _, _, _, _, _, _, _, _, rfl, hl, rfl, hth, hrl⟩
      · have hb : w6.heap[w1.heap.size]? = some (.cells #[] 23 (0, 0)) := by rw [k6 _ (by omega), o5.keep _ (by omega), o4.keep _ (by omega), o3.keep _ (by omega)]; exact b2
        refine ⟨⟨rfl, .inr ⟨w1.heap.size, 0, #[], rfl, by omega, hb, Nat.le_refl _, Nat.zero_le _, rfl, rfl⟩⟩, fun k hk => by cases hk; rfl, fun j v hj => by simp at hj, fun i j v v' _ hj => by simp at hj⟩
      · intro k hk
        rcases hk with hk | hk
        · have := shlt k hk; omega
        · have : k = w1.heap.size := hk
          omega
      · intro k hk
        have : k = w1.heap.size := hk
        subst this
        rw [hSh]
        exact fun h => h.2.2 rfl
    · rintro _ w' ⟨Mi, M'⟩ ⟨u, vs, x2, x4, x5, x6, x8, x9, x10, x11, x12, x13, x14, x15, rfl, hl, rfl, hth, hrl⟩
      refine hS.ctl rfl (fun _ => stepG_seq) ?_
      refine WpC.at (fn := 72) (R := fun a w₂ M₂ => a.defers = [] ∧ a.tmps.getD 2 undef = u ∧ w₂ = w' ∧ M₂ = (none, M')) ?_ (by rw [hbl]; rfl) hkb ?_
      · refine wpC_region hS ?_
        simp only [List.size_toArray, List.length_cons, List.length_nil, Nat.reduceAdd, Nat.zero_add, List.range, List.range.loop]
        repeat first
          | refine opsC_moveA hS rfl rfl (.inl rfl) ?_
          | refine opsC_moveA hS rfl rfl (.inr rfl) ?_
          | refine opsC_binA hS rfl rfl rfl rfl rfl rfl ?_
          | refine opsC_lenA hS rfl rfl rfl (by kernel_rfl) rfl ?_
          | (refine opsC_plain hS rfl rfl fun _ K hK => ?_; go_simp; refine hK _ (by simp [go_sem, events_cap_slice, events_slice_hi, *]) ?_; clear hK K; try walk_nrm)
        exact opsC_nil hS ⟨rfl, rfl, rfl, rfl, rfl⟩
      rintro a w0' M0' ⟨hd, h2, hw0, hM0⟩
      rw [hw0, hM0]
      clear hw0 hM0
      refine hS.ctl rfl (fun _ => stepG_ret') ?_
      refine hS.ctl rfl (fun w => stepG_leave (by rw [hbl]; rfl) hd (by rw [hbl]; exact Try.func72) (resultsC_tmp rfl _ w).1 (resultsC_tmp rfl _ w).2) ?_
      rw [h2]
      intro w₂ h₂
      have hl2 := hl.chg (w' := w₂) (M' := M') (fun k hk => h₂.keep k (.inr hk)) (fun _ h => h)
      have hsz := h₂.size
      have hrs := hrl.size
      have hr2 : Rl Sh (fun _ => False) w6 w₂ := hrl.trans (h₂.mono fun k hk => hk.elim)
      refine hR u w₂ (hl2.own (by omega) fun k hk => Nat.lt_of_lt_of_le (hth k (.inr hk)) hsz) ?_
      have ho : Only w w5 := ⟨o5.os.trans (o4.os.trans (o3.os.trans (o2.os.trans o1.os))), o5.output.trans (o4.output.trans (o3.output.trans (o2.output.trans o1.output))), by omega, fun k hk => by
        rw [o5.keep k (by omega), o4.keep k (by omega), o3.keep k (by omega), o2.keep k (by omega), o1.keep k hk]⟩
      refine ⟨hr2.os.trans (q6.1.trans ho.os), hr2.output.trans (q6.2.trans ho.output), by omega, fun k hk => ?_⟩
      rw [hr2.keep k (.inl (by rw [hSh]; exact ⟨by omega, by omega, by omega⟩)), k6 k (by omega), ho.keep k hk]

end Go.Proofs.Ytjphaphnmclbcaa
