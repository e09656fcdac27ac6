/- Lists of lists with none in blocks of a predicate; a round's plain regions; ranges over functions whose iterator keeps cells. No condition. -/
import Derived.Test.YtjgaglfinpeeoacBnd
import Derived.RangeFuncNested
import Derived.RangeFuncBound
import Derived.RangeFuncCalls
import Derived.RangeFuncLeaves
import Derived.Shelf.Abstract
import Derived.Shelf.RegionOpen
import Derived.WalkKit
import Derived.OwnWalkIn
import Derived.TacticsInMore
import Derived.LoopNIn
import Derived.LoopIn
namespace Go.Proofs.Ytjgaglfinpeeoac
open Go.RowKit

/-- What a call made: a list of lists, all in blocks from B on and below C and in no block of which q holds, each apart from all others. -/
structure OwnLp (q : Nat → Prop) (w : World) (B C : Nat) (u : Value) (yss : List (List Int)) : Prop where
  ge : B ≤ C
  le : C ≤ w.heap.size
  ex : ∃ vs : List Value, w.ownsRow B 28 1 u yss.length vs ∧ (∀ k, u.ownBlock = some k → k < C ∧ ¬ q k) ∧
    (∀ (j : Nat) (v : Value), vs[j]? = some v → Own w B v (ell yss j) ∧ (∀ k, v.ownBlock = some k → k < C ∧ ¬ q k) ∧ Apart v u) ∧
    (∀ (i j : Nat) (v v' : Value), i < j → vs[i]? = some v → vs[j]? = some v' → Apart v v')

theorem OwnLp.kept {q : Nat → Prop} {w w' : World} {B C : Nat} {u : Value} {yss : List (List Int)} (h : OwnLp q w B C u yss) (hs : w.heap.size ≤ w'.heap.size) (hk : ∀ k, B ≤ k → k < C → ¬ q k → w'.heap[k]? = w.heap[k]?) : OwnLp q w' B C u yss := by
  obtain ⟨vs, h1, h2, h3, h4⟩ := h.ex
  refine ⟨h.ge, Nat.le_trans h.le hs, vs, ⟨h1.1, ?_⟩, h2, fun j v hj => ?_, h4⟩
  · rcases h1.2 with h5 | ⟨g, cap, cur, hv, hg, hh, r⟩
    · exact Or.inl h5
    · have hlt := h2 g (by rw [hv]; rfl)
      exact Or.inr ⟨g, cap, cur, hv, hg, (hk g hg hlt.1 hlt.2).trans hh, r⟩
  · obtain ⟨a, b, c⟩ := h3 j v hj
    exact ⟨own_chg a (fun k e _ => hk k (a.blocks k e).1 (b k e).1 (b k e).2), b, c⟩
theorem OwnLp.mono {q : Nat → Prop} {w : World} {B B' C : Nat} {u : Value} {yss : List (List Int)} (h : OwnLp q w B C u yss) (hB : B' ≤ B) : OwnLp q w B' C u yss := by
  obtain ⟨vs, h1, h2, h3, h4⟩ := h.ex
  refine ⟨Nat.le_trans hB h.ge, h.le, vs, ⟨h1.1, ?_⟩, h2, fun j v hj => ?_, h4⟩
  · rcases h1.2 with h5 | ⟨g, cap, cur, hv, hg, r⟩
    · exact Or.inl h5
    · exact Or.inr ⟨g, cap, cur, hv, Nat.le_trans hB hg, r⟩
  · obtain ⟨a, b, c⟩ := h3 j v hj
    exact ⟨a.mono hB, b, c⟩
theorem OwnLp.any {q : Nat → Prop} {w : World} {B C : Nat} {u : Value} {yss : List (List Int)} (h : OwnLp q w B C u yss) : OwnL w B C u yss := by
  obtain ⟨vs, h1, h2, h3, h4⟩ := h.ex
  exact ⟨h.ge, h.le, vs, h1, fun k hk => ⟨(h2 k hk).1, fun e => by cases e⟩, fun j v hj => ⟨(h3 j v hj).1, fun k hk => ⟨((h3 j v hj).2.1 k hk).1, fun e => by cases e⟩, (h3 j v hj).2.2⟩, h4⟩
theorem OwnLp.now {q : Nat → Prop} {w : World} {B C : Nat} {u : Value} {yss : List (List Int)} (h : OwnLp q w B C u yss) : OwnLp q w B w.heap.size u yss := by
  obtain ⟨vs, h1, h2, h3, h4⟩ := h.ex
  have := h.le
  exact ⟨Nat.le_trans h.ge h.le, Nat.le_refl _, vs, h1, fun k hk => ⟨by have := (h2 k hk).1; omega, (h2 k hk).2⟩, fun j v hj => ⟨(h3 j v hj).1, fun k hk => ⟨by have := ((h3 j v hj).2.1 k hk).1; omega, ((h3 j v hj).2.1 k hk).2⟩, (h3 j v hj).2.2⟩, h4⟩
theorem ownLp_lit {w : World} {B : Nat} {q : Nat → Prop} (hB : B ≤ w.heap.size) (hq : ¬ q w.heap.size) : OwnLp q (w.alloc (.cells #[] 28)) B (w.heap.size + 1) (.slice (some ⟨w.heap.size, 0, none⟩) 0 0) [] :=
  ⟨by omega, by simp, [], World.ownsRow_lit w #[] 0 hB (Nat.zero_le _) rfl, fun k hk => by
    simp [Value.ownBlock] at hk
    subst hk
    exact ⟨by omega, hq⟩, fun j v hj => by simp at hj, fun i j v v' _ hj => by simp at hj⟩

/-- append(out, list), out the call's own, the list newer than it. -/
theorem app_lstp (q : Nat → Prop) (D : Nat) (w : World) (v : Value) (ys : List Int) {ops : Array Oper} {rest : List Oper} {o : Oper} {a : Act} {Q : Exit → Act → World → Prop}
    (hg : o.guard = none) (s x : Operand) (hop : o.op = Op.call { callee := Callee.builtin Builtin.append, args := #[s, x], argTypes := #[24, 24] })
    (B C : Nat) (u : Value) (yss : List (List Int)) (h0 : OwnLp q w B C u yss) (hC : C ≤ D) (hws : D ≤ w.heap.size) (hq : ∀ k, q k → k < D) (hv : Own w D v ys) (hs : a.eval s = u) (hx : a.eval x = .slice (some ⟨w.heap.size, 0, none⟩) 1 1) (hlen : yss.length ≤ 2000000)
    (hK : ∀ u' w', OwnLp q w' B w'.heap.size u' (yss ++ [ys]) → Below B w w' → w.grownBy w' u.ownBlock → wpList Try.prog ops Q rest (a.put o.dst u') w') :
    wpList Try.prog ops Q (o :: rest) a (w.alloc (.cells #[v] 28)) := by
  obtain ⟨i0, hi, hz0, hz1, hz2⟩ := info_parts infoL
  obtain ⟨vs, h1, h2, h3, h4⟩ := h0.ex
  have hBC := h0.ge
  have hone := hv.oneCell
  have hvb := hv.blocks
  refine wpList_plain hg fun _ hK' => wp_app2 (P := Try.prog) _ s x 24 hop B 28 i0 (.slice none 0 0) Try.underlying24 hi hz0 hz1 (by rw [hz2]; decide) rfl u yss.length vs hs (World.ownsRow.alloc h1 _) ⟨w.heap.size, 0, none⟩ 1 v hx ?_ hone hlen ?_ ?_
  · simp
  · simp; omega
  · intro u' w' hown' hgrow hk
    have hgr : w.grownBy w' u.ownBlock := grown_trans (World.grownBy_alloc w _ _) hgrow
    have hsz : w.heap.size + 1 ≤ w'.heap.size := by have := hgrow.size; simpa using this
    have hblk : u'.ownBlock = u.ownBlock ∨ u'.ownBlock = some (w.heap.size + 1) := by
      rcases hk with hk | hk
      · exact Or.inl hk
      · exact Or.inr (by rw [hk]; simp)
    have hub : ∀ k, u.ownBlock = some k → B ≤ k := fun k hk => (World.ownsRow.lt h1 k hk).1
    have hvl : vs.length = yss.length := by rw [h1.1, Nat.mul_one]
    have hvu : Apart v u := by
      unfold Apart
      cases e : v.ownBlock with
      | none => exact Or.inl rfl
      | some k => exact Or.inr (fun e2 => by have a1 := (h2 k e2.symm).1; have a2 := (hvb k e).1; omega)
    have hmv : ∀ t, (∀ k, t.ownBlock = some k → k < w.heap.size) → Apart t u → Apart t u' := by
      intro t ht hap
      unfold Apart at *
      rcases hblk with e | e
      · rw [e]; exact hap
      · rw [e]
        cases e2 : t.ownBlock with
        | none => exact Or.inl rfl
        | some k => exact Or.inr (fun e3 => by have := ht k e2; have := Option.some.inj e3; omega)
    have hqn : ∀ k, D ≤ k → ¬ q k := fun k hk e => by have := hq k e; omega
    refine hK' _ _ (hK u' w' ⟨by omega, Nat.le_refl _, vs ++ [v], ?_, ?_, ?_, ?_⟩ ?_ hgr)
    · rw [List.length_append]; exact hown'
    · intro k hk
      refine ⟨(World.ownsRow.lt hown' k hk).2, ?_⟩
      rcases hblk with e | e
      · rw [e] at hk; exact (h2 k hk).2
      · rw [e] at hk; obtain rfl := Option.some.inj hk; exact hqn _ (by omega)
    · intro j t hj
      by_cases hjl : j < vs.length
      · rw [List.getElem?_append_left hjl] at hj
        obtain ⟨p, q', r⟩ := h3 j t hj
        rw [ell_app_lt (by omega)]
        exact ⟨p.kept hgr r, fun k hk => ⟨by have := (q' k hk).1; omega, (q' k hk).2⟩, hmv t (fun k hk => by have := (q' k hk).1; omega) r⟩
      · have hj2 : j = yss.length := by
          have := (List.getElem?_eq_some_iff.1 hj).1
          rw [List.length_append, List.length_singleton] at this
          omega
        subst hj2
        rw [List.getElem?_append_right (by omega), hvl, Nat.sub_self] at hj
        simp at hj
        subst hj
        rw [ell_app_eq]
        exact ⟨(hv.kept hgr hvu).mono (by omega), fun k hk => ⟨by have := (hvb k hk).2; omega, hqn k (hvb k hk).1⟩, hmv v (fun k hk => (hvb k hk).2) hvu⟩
    · intro i j t t' hij hti htj
      have hil : i < vs.length := by
        have := (List.getElem?_eq_some_iff.1 htj).1
        rw [List.length_append, List.length_singleton] at this
        omega
      rw [List.getElem?_append_left hil] at hti
      by_cases hjl : j < vs.length
      · rw [List.getElem?_append_left hjl] at htj
        exact h4 i j t t' hij hti htj
      · have hj2 : j = vs.length := by
          have := (List.getElem?_eq_some_iff.1 htj).1
          rw [List.length_append, List.length_singleton] at this
          omega
        subst hj2
        rw [List.getElem?_append_right (Nat.le_refl _), Nat.sub_self] at htj
        simp at htj
        subst htj
        unfold Apart
        cases e : t.ownBlock with
        | none => exact Or.inl rfl
        | some k => exact Or.inr (fun e2 => by have a1 := ((h3 i t hti).2.1 k e).1; have a2 := (hvb k e2.symm).1; omega)
    · exact below_of_grown hgr (by omega) (fun k hk => hub k hk)


/-- A change of blocks of which q holds, and new blocks, leave it as it is. -/
theorem OwnLp.chg {q : Nat → Prop} {w w' : World} {B C lo hi : Nat} {u : Value} {yss : List (List Int)} (h : OwnLp q w B C u yss) (k : Chg lo hi w w') (hq : ∀ k, lo ≤ k → k < hi → q k) : OwnLp q w' B C u yss :=
  h.kept k.size (fun j _ h2 hn => k.block j (Nat.lt_of_lt_of_le h2 h.le) (by
    by_cases h3 : j < lo
    · exact Or.inl h3
    · by_cases h4 : hi ≤ j
      · exact Or.inr h4
      · exact absurd (hq j (by omega) (by omega)) hn))
theorem OwnLp.later {q : Nat → Prop} {w w' : World} {B C : Nat} {u : Value} {yss : List (List Int)} (h : OwnLp q w B C u yss) (k : Below w.heap.size w w') : OwnLp q w' B C u yss :=
  h.kept k.size (fun j _ h2 _ => k.block j (Nat.lt_of_lt_of_le h2 h.le))

/-- Operations that are no deferred calls are carried out in a round as anywhere. -/
theorem listIn_of {P : Program} {l n : Nat} {ops : Array Oper} {Q : Exit → Act → World → Prop} (hQ : ¬ LetsOut Q) : ∀ (rest : List Oper) (a : Act) (w : World), (∀ o ∈ rest, ∀ c, o.op ≠ .defer c) →
    wpList P ops Q rest a w → wpListIn (Fence.wide.inRound l) n P ops Q rest a w := by
  intro rest
  induction rest with
  | nil => intro a w _ h; exact h
  | cons o rest ih =>
    intro a w hp h
    have ih' : ∀ a w, wpList P ops Q rest a w → wpListIn (Fence.wide.inRound l) n P ops Q rest a w := fun a w => ih a w (fun o ho => hp o (List.mem_cons_of_mem _ ho))
    simp only [wpList] at h
    simp only [wpListIn]
    by_cases hw : Region.wanted o (yielded ops a.tmps) = true
    · rw [if_pos hw] at h ⊢
      rcases h with h | h
      · refine ⟨fun f _ => trivial, ?_⟩
        rw [Oper.semAt_plain (Fence.wide.inRound l) a.eval o (hp o (List.mem_cons_self ..))]
        unfold Oper.wp at h
        revert h
        generalize (execOp a.eval o).run P w = r
        intro h
        cases r with
        | ok v w' =>
          cases v with
          | value v => exact ih' _ _ h
          | skip => exact ih' _ _ h
          | defer d => exact ih' _ _ h
          | enter f args =>
            refine ⟨(fun hd => by cases hd), ?_⟩
            refine CallsIn.inRound l (callsIn_wide.2 (Calls.mono h ?_))
            intro e w'' he
            cases e with
            | returned v => exact ih' _ _ he
            | panicked chain => exact he
            | outgrown => exact he
          | row row args =>
            refine ⟨(fun hd => by cases hd), fun c cs _ => ?_⟩
            obtain ⟨v, w'', hr, hs⟩ := h c cs
            exact ⟨v, w'', ih' _ _ hr, stepsIn_wide.2 hs⟩
          | _ => exact h.elim
        | halt x w' =>
          cases x with
          | panic v => exact h
          | _ => exact h.elim
      · exact absurd h.2 hQ
    · rw [if_neg hw] at h ⊢
      exact ⟨fun f _ => trivial, ih' _ _ h⟩

/-- One operation, at the wide fence. -/
theorem opIn_of {P : Program} {n : Nat} {o : Oper} {a : Act} {w : World} {K : Act → World → Prop} {Q : Exit → Act → World → Prop} (hp : ∀ c, o.op ≠ .defer c) (h : o.wp P a w K Q) : o.wpIn Fence.wide n P a w K Q := by
  refine ⟨fun f _ => trivial, ?_⟩
  rw [Oper.semAt_plain Fence.wide a.eval o hp]
  unfold Oper.wp at h
  revert h
  generalize (execOp a.eval o).run P w = r
  intro h
  cases r with
  | ok v w' =>
    cases v with
    | value v => exact h
    | skip => exact h
    | defer d => exact h
    | enter f args =>
      refine ⟨(fun hd => by cases hd), ?_⟩
      refine callsIn_wide.2 (Calls.mono h ?_)
      intro e w'' he
      cases e with
      | returned v => exact he
      | panicked chain => exact he
      | outgrown => exact he
    | row row args =>
      refine ⟨(fun hd => by cases hd), fun c cs _ => ?_⟩
      obtain ⟨v, w'', hr, hs⟩ := h c cs
      exact ⟨v, w'', hr, stepsIn_wide.2 hs⟩
    | _ => exact h.elim
  | halt x w' =>
    cases x with
    | panic v => exact h
    | _ => exact h.elim

/-- A row is loaded, at the wide fence, guarded or not. -/
theorem loadIn_row {P : Program} {n : Nat} {ops : Array Oper} {rest : List Oper} {o : Oper} {a : Act} {w : World} {Q : Exit → Act → World → Prop} (hw : Region.wanted o (yielded ops a.tmps) = true) (ty : TypeId) (x : Operand) (ho : o.op = .load ty x)
    (g : Nat) (hx : a.eval x = .pointer (some ⟨g, 0, none⟩)) (t : TypeId) (cs : Array Value) (fr : Nat × Nat) (d : TypeDesc) (hg : w.heap[g]? = some (.cells cs t fr))
    (hu : P.underlying ty = some d) (hd : (match d with | .struct _ | .array _ _ => true | _ => false) = true) (hi : (P.info? ty).map (·.size) = some cs.size)
    (h : wpListIn Fence.wide n P ops Q rest (a.put o.dst (.agg cs)) w) : wpListIn Fence.wide n P ops Q (o :: rest) a w :=
  BigFrame.wpListIn_want hw fun _ hK => opIn_of (by rw [ho]; intro c hc; cases hc) (wp_load_row ty x ho g hx t cs fr d hg hu hd hi (hK _ _ h))

/-- A row is stored, at the wide fence. -/
theorem storeIn_row {P : Program} {n : Nat} {ops : Array Oper} {rest : List Oper} {o : Oper} {a : Act} {w : World} {Q : Exit → Act → World → Prop} (hw : Region.wanted o (yielded ops a.tmps) = true) (ty : TypeId) (x y : Operand) (ho : o.op = .store ty x y)
    (g : Nat) (cells : Array Value) (hx : a.eval x = .pointer (some ⟨g, 0, none⟩)) (hy : a.eval y = .agg cells)
    (t : TypeId) (old : Array Value) (hg : w.heap[g]? = some (.cells old t (0, 0))) (hi : (P.info? ty).map (·.size) = some cells.size)
    (hold : old.size = cells.size) (h1 : cells.all (·.oneCell') = true)
    (hdst : o.dst = none) (h : wpListIn Fence.wide n P ops Q rest a (w.setRow g cells)) : wpListIn Fence.wide n P ops Q (o :: rest) a w :=
  BigFrame.wpListIn_want hw fun _ hK => opIn_of (by rw [ho]; intro c hc; cases hc) (wp_store_row ty x y ho g cells hx hy t old hg hi hold h1 (by rw [hdst]; exact hK _ _ h))

theorem regionIn_of {P : Program} {l n id : Nat} {ops : Array Oper} {Q : Exit → Act → World → Prop} {a : Act} {w : World} (hQ : ¬ LetsOut Q) (hp : ∀ o ∈ ops.toList, ∀ c, o.op ≠ .defer c)
    (h : wpList P ops Q ops.toList a w) : (Code.region id ops false).wpIn (Fence.wide.inRound l) n P Q a w :=
  wpIn_region_list (listIn_of hQ _ _ _ hp h)

theorem chg_putObj {w : World} {l lo hi : Nat} (o : Obj) (h1 : lo ≤ l) (h2 : l < hi) : Chg lo hi w (w.putObj l o) :=
  Chg.of_grown (grownBy_putObj' w l o) (fun k e => by cases e; exact ⟨h1, h2⟩)

/-- How a round's body must be left: off its end; the blocks from lo on and below hi, and those of which S holds, are as they were. -/
def rndPost (S : Nat → Prop) (lo hi : Nat) (I : World → Prop) (W : World) : Exit → Act → World → Prop
  | .normal, _, W' => I W' ∧ W.heap.size ≤ W'.heap.size ∧ ∀ j, (S j ∨ (lo ≤ j ∧ j < hi)) → W'.heap[j]? = W.heap[j]?
  | _, _, _ => False
theorem rndPost_in {S : Nat → Prop} {lo hi : Nat} {I : World → Prop} {W : World} : ¬ LetsOut (rndPost S lo hi I W) := fun ⟨_, _, h⟩ => h

/-- **'for x := range seq { .. }', seq's own cells among blocks that it lays first.** -/
theorem wpIn_range_cells {P : Program} {g : Operand} {ps : Array Tmp} {assign body : Code} {Q : Exit → Act → World → Prop} {a : Act} {w : World} {gf : Nat} {lb : Array Value}
    (hg : a.eval g = .func (.func gf) #[] lb) (eg : ∀ args w, (callFunc gf args).run P w = .ok (.enter gf args) w)
    (N c : Nat) (enc : Nat → Array Value) (hps : ∀ k, (enc k).size = ps.size) (S : Nat → Prop) (hS : ∀ j, S j → j < w.heap.size)
    (I : Nat → World → Prop) (hI : ∀ k A B, I k A → Chg w.heap.size (w.heap.size + 2 + c) A B → I k B) (h0 : I 0 w)
    (hit : ∀ (W : World) (J : Nat → World → Prop), W.heap.size = w.heap.size + 2 → Below w.heap.size w W →
      (∀ k A B, J k A → Chg W.heap.size (W.heap.size + c) A B → J k B) → J 0 W →
      (∀ k A, k < N → J k A → W.heap.size + c ≤ A.heap.size → YieldAt Fence.wide 0 P (w.heap.size + 1) (enc k) A fun e B => e = .returned (.bool true) ∧ J (k + 1) B ∧ A.heap.size ≤ B.heap.size ∧
        ∀ j, (S j ∨ (W.heap.size ≤ j ∧ j < W.heap.size + c)) → B.heap[j]? = A.heap[j]?) →
      CallsIn Fence.wide 0 P gf (#[.func (.yield (w.heap.size + 1)) #[] #[]] ++ lb) W fun e W' => (∃ v, e = .returned v) ∧ J N W')
    (hround : ∀ (k : Nat) (A : World), k < N → I k A → w.heap.size + 2 + c ≤ A.heap.size →
      assign.wpIn (Fence.wide.inRound (w.heap.size + 1)) 0 P (Exit.then (fun a₁ w₁ => I k w₁ ∧ A.heap.size ≤ w₁.heap.size ∧ (∀ j, (S j ∨ (w.heap.size ≤ j ∧ j < w.heap.size + 2 + c)) → w₁.heap[j]? = A.heap[j]?) ∧
        ∀ w₂, Chg w.heap.size (w.heap.size + 2) w₁ w₂ → w₂.heap.size = w₁.heap.size → I k w₂ →
          body.wpIn (Fence.wide.inRound (w.heap.size + 1)) 0 P (rndPost S w.heap.size (w.heap.size + 2 + c) (I (k + 1)) w₂) a₁ w₂) (fun _ _ _ => False))
        { tmps := (ps.zip (enc k)).foldl (fun t (p, v) => t.setIfInBounds p v) a.tmps, defers := [] } A)
    (hdone : ∀ W : World, I N W → W.heap[w.heap.size]? = some (.deferred (some [])) → Q .normal { a with defers := { target := .collected w.heap.size, args := #[] } :: a.defers } W) :
    (Code.rangeFunc g ps assign body).wpIn Fence.wide 0 P Q a w := by
  refine wpIn_rangeFunc ?_
  intro fn hfn
  rw [show Fence.wide.round = none from rfl]
  obtain ⟨rec, hrec⟩ : ∃ rec : LoopState → Option Code → Loop, rec = fun st pe => { state := st, pending := pe, fn, tmps := a.tmps, params := ps, assign, body, defers := w.heap.size } := ⟨_, rfl⟩
  obtain ⟨W1, hW1⟩ : ∃ W1, (w.alloc (.deferred (some []))).alloc (.loop (rec .ready none)) = W1 := ⟨_, rfl⟩
  have hL1 : W1.heap[w.heap.size + 1]? = some (.loop (rec .ready none)) := by
    rw [← hW1]; have := World.alloc_heap_new (w.alloc (.deferred (some []))) (.loop (rec .ready none)); rwa [World.size_alloc] at this
  have hK1 : W1.heap[w.heap.size]? = some (.deferred (some [])) := by
    rw [← hW1]; exact (Below.heap_alloc _ _ _ (by simp)).trans (World.alloc_heap_new w _)
  have hsz : W1.heap.size = w.heap.size + 2 := by rw [← hW1]; simp
  have hb1 : Below w.heap.size w W1 := by
    rw [← hW1]; exact (((Below.refl _ w).alloc (Nat.le_refl _) _).alloc (by simp) _)
  have hI1 : I 0 W1 := hI 0 w W1 h0 (Chg.of_below hb1)
  refine ⟨w.heap.size + 1, [{ target := .collected w.heap.size, args := #[] }], W1, { target := .fn (.func gf) lb, args := #[.func (.yield (w.heap.size + 1)) #[] #[]] }, W1, gf,
    #[.func (.yield (w.heap.size + 1)) #[] #[]] ++ lb, W1, ?_, ?_, fun _ _ => trivial, ?_, (fun hd => by cases hd), ?_⟩
  · rw [← hW1, hrec]; exact run_enterLoop_outer _ _ _ _ _
  · simp only [resolve, hg]
    simp [go_sem]
  · simp [invoke, go_sem, eg]
  · refine (hit W1 (fun k W => I k W ∧ W.heap[w.heap.size + 1]? = some (.loop (rec .ready none)) ∧ W.heap[w.heap.size]? = some (.deferred (some []))) hsz hb1 ?_ ⟨hI1, hL1, hK1⟩ ?_).mono ?_
    · rintro k A B ⟨hi, hl, hk⟩ hc
      have hlt := (Array.getElem?_eq_some_iff.1 hl).1
      rw [hsz] at hc
      refine ⟨hI k A B hi ⟨hc.os, hc.tape, hc.output, hc.size, fun j h1 h2 => hc.block j h1 (by omega)⟩, (hc.block _ hlt (Or.inl (by omega))).trans hl, (hc.block _ (by omega) (Or.inl (by omega))).trans hk⟩
    · rintro k A hkN ⟨hi, hl, hk⟩ hAs
      rw [hsz] at hAs
      have hlt : w.heap.size + 1 < A.heap.size := (Array.getElem?_eq_some_iff.1 hl).1
      have hy := run_yield (P := P) (args := enc k) hl (by rw [hrec]; exact hps k)
      rw [hrec] at hy
      refine ⟨fn, _, assign, body, hy, roundIn_of_wpIn hfn (wpIn_mono (hround k A hkN hi hAs) ?_)⟩
      rintro e a₁ w₁ hq
      cases e with
      | normal =>
        obtain ⟨hi1, hs1, hb, hbody⟩ := hq
        have hl1 : w₁.heap[w.heap.size + 1]? = some (.loop (rec .ready none)) := (hb _ (Or.inr ⟨by omega, by omega⟩)).trans hl
        have hk1 : w₁.heap[w.heap.size]? = some (.deferred (some [])) := (hb _ (Or.inr ⟨by omega, by omega⟩)).trans hk
        have hc1 : Chg w.heap.size (w.heap.size + 2) w₁ (w₁.putObj (w.heap.size + 1) (.loop { rec .ready none with state := .busy })) := chg_putObj _ (by omega) (by omega)
        have hc1' : Chg w.heap.size (w.heap.size + 2 + c) w₁ (w₁.putObj (w.heap.size + 1) (.loop { rec .ready none with state := .busy })) := chg_putObj _ (by omega) (by omega)
        refine ⟨_, run_beginRound hl1 (by rw [hrec]), ?_⟩
        have hl2 : (w₁.putObj (w.heap.size + 1) (.loop { rec .ready none with state := .busy })).heap[w.heap.size + 1]? = some (.loop { rec .ready none with state := .busy }) := World.putObj_heap_same (by omega)
        have hk2 : (w₁.putObj (w.heap.size + 1) (.loop { rec .ready none with state := .busy })).heap[w.heap.size]? = some (.deferred (some [])) := (World.putObj_heap_other (by omega)).trans hk1
        refine wpIn_mono (hbody _ hc1 (by simp) (hI _ _ _ hi1 hc1')) ?_
        rintro e2 a₂ w₂ hp
        cases e2 with
        | normal =>
          obtain ⟨hi3, hs3, hb3⟩ := hp
          have hl3 := (hb3 (w.heap.size + 1) (Or.inr ⟨by omega, by omega⟩)).trans hl2
          have hk3 := (hb3 w.heap.size (Or.inr ⟨by omega, by omega⟩)).trans hk2
          have hend := run_endRound (P := P) none hl3
          simp only [World.putObj_size] at hs3
          have hlt3 : w.heap.size + 1 < w₂.heap.size := by omega
          refine ⟨_, _, hend, rfl, ⟨hI _ _ _ hi3 (chg_putObj _ (by omega) (by omega)), ?_, (World.putObj_heap_other (by omega)).trans hk3⟩, ?_, ?_⟩
          · rw [World.putObj_heap_same hlt3, hrec]; rfl
          · simp only [World.putObj_size]; omega
          · intro j hj
            have hne : j ≠ w.heap.size + 1 := by
              rcases hj with h | h
              · have := hS j h; omega
              · omega
            have h1 := hb3 j (by rcases hj with h | h; exact Or.inl h; exact Or.inr ⟨by omega, by omega⟩)
            have h2 := hb j (by rcases hj with h | h; exact Or.inl h; exact Or.inr ⟨by omega, by omega⟩)
            rw [World.putObj_heap_other hne, h1, World.putObj_heap_other hne, h2]
        | exit id => exact hp.elim
        | goto t => exact hp.elim
        | ret => exact hp.elim
        | panic ch => exact hp.elim
        | outgrown => exact hp.elim
      | exit id => exact hq.elim
      | goto t => exact hq.elim
      | ret => exact hq.elim
      | panic ch => exact hq.elim
      | outgrown => exact hq.elim
    · rintro e W2 ⟨⟨v, rfl⟩, hi, hl, hk⟩
      exact ⟨none, _, by have := run_endLoop (P := P) hl (by rw [hrec]; simp); rw [hrec] at this; exact this,
        hdone _ (hI _ _ _ hi (chg_putObj _ (by omega) (by omega))) ((World.putObj_heap_other (by omega)).trans hk)⟩

end Go.Proofs.Ytjgaglfinpeeoac
