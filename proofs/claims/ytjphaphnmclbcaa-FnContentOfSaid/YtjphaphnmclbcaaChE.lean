/- A step of a plain stack of frames: it is the goroutine's own and plain again, or the run is at its end. No condition. -/
import Derived.Test.YtjphaphnmclbcaaChD
namespace Go.Proofs.Ytjphaphnmclbcaa
open Go Go.Conc

theorem mem_seen {P : Program} {fn : FuncId} {es : Array Event} {e : Event} (h : e ∈ seen P fn es) : e ∈ es := by
  unfold seen at h
  have key : ∀ (l : List Event) (q : Bool) (kept : Array Event), e ∈ (l.foldl (fun (x : Bool × Array Event) e =>
      match e.loc with
      | .mark (.extern f) => ((P.funcs[f]?).any (·.norace), x.2)
      | _ => (x.1, if x.1 && !e.sync then x.2 else x.2.push e)) (q, kept)).2 → e ∈ kept ∨ e ∈ l := by
    intro l
    induction l with
    | nil => intro q kept h; exact .inl h
    | cons y l ih =>
      intro q kept h
      rw [List.foldl_cons] at h
      rcases ih _ _ h with h' | h'
      · dsimp only at h'
        split at h'
        · exact .inl h'
        · dsimp only at h'
          split at h'
          · exact .inl h'
          · rcases Array.mem_push.1 h' with h'' | rfl
            · exact .inl h''
            · exact .inr (by simp)
      · exact .inr (by simp [h'])
  dsimp only at h
  rw [← Array.foldl_toList] at h
  rcases key es.toList _ #[] h with h' | h'
  · simp at h'
  · exact Array.mem_toList_iff.1 h'

/-- The sentinels: what ends a run at once. -/
def ks : List Item := [.code (.refuse "")]
def c0 : Frame := { fn := 0, tmps := #[], todo := ks, defers := [{ target := .nil, args := #[] }], mode := .run, kind := .normal }

/-- What stands below the lowest frame's own work: the sentinel, or nothing. -/
def kz (z : Bool) : List Item := if z then ks else []

/-- No state behind this one, run alone, stands above the sentinel. -/
def DeadIn (P : Program) (g : Goroutine) (w : World) : Prop := ∀ m g' w', runN P (m + 1) (solo g w) = .next (solo g' w') → g'.callers ≠ [c0]

theorem step_solo {P : Program} {g : Goroutine} {w : World} (hs : g.status = .running) : step P (solo g w) = (runT P (solo g w) 0).1 := by rw [step, stepT_solo hs]
theorem step_solo_go {P : Program} {g g' : Goroutine} {w w' : World} {es : Array Event} (hs : g.status = .running) (h : stepG P true g w = .go g' w' es) : step P (solo g w) = .next (solo g' w') := by
  rw [step_solo hs, runT_solo_go h]
theorem step_solo_ended {P : Program} {g : Goroutine} {w w' : World} {o : Outcome} {es : Array Event} (hs : g.status = .running) (h : stepG P true g w = .ended o w' es) : step P (solo g w) = .ended o w' := by
  rw [step_solo hs]
  have := runT_many_ended (P := P) (gs := #[g]) (w := w) (sl := none) (i := 0) (g := g) rfl (show stepG P (0 == 0) g w = _ from h)
  rw [solo_eq_crowd, this]

theorem deadIn_ended {P : Program} {g : Goroutine} {w w' : World} {o : Outcome} {es : Array Event} (hs : g.status = .running) (h : stepG P true g w = .ended o w' es) : DeadIn P g w := by
  intro m g' w₁ hr
  simp only [runN, step_solo_ended hs h] at hr
  cases hr

theorem deadIn_two {P : Program} {g g₁ : Goroutine} {w w₁ w₂ : World} {o : Outcome} {es es' : Array Event} (hs : g.status = .running) (h : stepG P true g w = .go g₁ w₁ es) (hs₁ : g₁.status = .running) (hc : g₁.callers = [])
    (h₁ : stepG P true g₁ w₁ = .ended o w₂ es') : DeadIn P g w := by
  intro m g' w' hr
  simp only [runN, step_solo_go hs h] at hr
  cases m with
  | zero =>
    simp only [runN, Stepped.next.injEq] at hr
    have : g₁ = g' := by
      have := congrArg (fun m => m.gs[0]?) hr
      simpa [solo] using this
    rw [← this, hc]
    simp
  | succ m =>
    simp only [runN, step_solo_ended hs₁ h₁] at hr
    cases hr

/-- The step is the goroutine's own, whatever stands below, and plain again. -/
def StepA (z : Bool) (P : Program) (F : Nat → Bool) (σ : List Frame) (w : World) : Prop :=
  ∃ (σ' : List Frame) (w' : World) (es : Array Event) (n : Nat), StackOk P F σ' ∧ (∀ e ∈ es, Hears e) ∧ DrewN w w' n ∧
    ∀ τ d, Ag τ d w.tape w.drawn n → ∀ k cs, (z = false → k = []) → stepG P true (gx (ext k σ) cs) (rt w τ d) = .go (gx (ext k σ') cs) (rt w' τ (d + n)) es

def kk (k : List Item) (inner : List Frame) : List Item := if inner.isEmpty then k else []

section
variable {z : Bool} {P : Program} {F : Nat → Bool} {f : Frame} {inner : List Frame}

theorem tp_run (hO : OkF P F f) (hm : f.mode = .run) (k : List Item) : tp k f inner = f.at ⟨f.tmps, []⟩ (f.todo ++ kk k inner) := by
  obtain ⟨fn, tmps, todo, defers, mode, kind, round⟩ := f
  obtain ⟨h1, h2, h3, _, _⟩ := hO
  simp only at h1 h2 hm
  subst h1 h2 hm
  rfl

theorem tp_at (a : Act) (T : List Item) (k : List Item) : tp k (f.at a T) inner = f.at a (T ++ kk k inner) := rfl

theorem okF_at (hO : OkF P F f) (a : Act) (T : List Item) (ha : a.defers = []) (hT : ∀ x ∈ T, okItem F x = true) : OkF P F (f.at a T) := ⟨ha, rfl, hO.kind, hT, hO.res⟩

/-- A move of control. -/
theorem stepA_ctl (h : StackOk P F (f :: inner)) (hm : f.mode = .run) {T' : List Item} (hT : ∀ x ∈ T', okItem F x = true)
    (hstep : ∀ (r : List Item) (cs : List Frame) (w : World), stepG P true (G (f.at ⟨f.tmps, []⟩ (f.todo ++ r)) cs) w = .go (G (f.at ⟨f.tmps, []⟩ (T' ++ r)) cs) w) (w : World) : StepA z P F (f :: inner) w := by
  refine ⟨f.at ⟨f.tmps, []⟩ T' :: inner, w, #[], 0, ⟨okF_at h.1 _ _ rfl hT, h.2⟩, by simp, ⟨rfl, rfl⟩, fun τ d _ k cs _ => ?_⟩
  rw [gx_ext, gx_ext, tp_run h.1 hm, tp_at]
  exact hstep _ _ _

/-- The static facts of a program. -/
structure Plain (P : Program) (F : Nat → Bool) : Prop where
  fns : ∀ f, F f = true → plainFn P F f = true ∧ tmpRes P f = true
  ahead : P.follows .staticDataAhead = true
  steps : ∀ g, P.stepOf g = none

theorem early_ended (H : Plain P F) (fr : Frame) (cs : List Frame) (g : Nat) (w : World) : early P fr cs none g w = .ended (.unsupported (.initOrder g) (fr.pos P)) w := by
  unfold early
  simp only [H.ahead, H.steps g, Bool.not_true, Bool.false_eq_true, if_false]

theorem dead_ctl {w : World} {g : Goroutine} (hs : g.status = .running) (h : ∀ w, ∃ o es, stepG P true g w = .ended o w es) : ∃ n, ∀ τ d, Ag τ d w.tape w.drawn n → DeadIn P g (rt w τ d) :=
  ⟨0, fun τ d _ => let ⟨_, _, h'⟩ := h (rt w τ d); deadIn_ended hs h'⟩

theorem oper_step (H : Plain P F) (h : StackOk P F (f :: inner)) {ops : Array Oper} {i : Nat} {rest : List Nat} {T : List Item} (hT : f.todo = .inRegion ops (i :: rest) :: T) (hm : f.mode = .run) {o : Oper} (ho : ops[i]? = some o)
    (hw : Region.wanted o (yielded ops f.tmps) = true) (w : World) : StepA z P F (f :: inner) w ∨ ∃ n, ∀ τ d, Ag τ d w.tape w.drawn n → DeadIn P (gx (ext (kz z) (f :: inner)) [c0]) (rt w τ d) := by
  have hall : ops.all (okOp F) = true := by have := h.1.todo (.inRegion ops (i :: rest)) (by rw [hT]; simp); simpa [okItem] using this
  have hok : okOp F o = true := by
    rw [Array.all_eq_true_iff_forall_mem] at hall
    exact hall o (Array.mem_of_getElem? ho)
  have hTo : ∀ x ∈ T, okItem F x = true := fun x hx => h.1.todo x (by rw [hT]; simp [hx])
  have hreg : ∀ rest', okItem F (.inRegion ops rest') = true := fun _ => by simpa [okItem] using hall
  have hstep : ∀ (r : List Item) (cs : List Frame) (w : World), stepG P true (G (f.at ⟨f.tmps, []⟩ (f.todo ++ r)) cs) w = stepG.apply P true (f.at ⟨f.tmps, []⟩ (f.todo ++ r)) cs none (execOp (Act.eval ⟨f.tmps, []⟩) o) w := by
    intro r cs w
    rw [hT]
    exact stepG_oper ho hw
  have hk : (f.kind == CallKind.early) = false := by rw [h.1.kind]; rfl
  have hfin : ∀ (r : List Item) (v : Value), (f.at ⟨f.tmps, []⟩ (f.todo ++ r)).finish v = f.at (Act.put ⟨f.tmps, []⟩ o.dst v) ((.inRegion ops rest :: T) ++ r) := by
    intro r v
    rw [hT]
    have := Frame.finish_at f ⟨f.tmps, []⟩ ops i rest (T ++ r) v
    rw [ho] at this
    exact this
  have hTR : ∀ x ∈ (.inRegion ops rest :: T), okItem F x = true := fun x hx => by
    rcases List.mem_cons.1 hx with rfl | hx
    · exact hreg _
    · exact hTo x hx
  rcases execOp_ok (P := P) (fun g hg => okFn_of_plain (H.fns g hg).1) hok (Act.eval ⟨f.tmps, []⟩) (fun _ => rfl) with ⟨g, args, hg, hrun⟩ | ⟨ht, hl⟩
  · -- a call
    left
    obtain ⟨hp, hres⟩ := H.fns g hg
    refine ⟨Frame.enter P g args .normal :: f :: inner, w, #[], 0, ⟨⟨rfl, rfl, rfl, ?_, hres⟩, ?_⟩, by simp, ⟨rfl, rfl⟩, fun τ d _ k cs _ => ?_⟩
    · intro x hx
      simp only [Frame.enter, List.mem_cons, List.not_mem_nil, or_false] at hx
      subst hx
      unfold plainFn at hp
      cases hfn : P.funcs[g]? with
      | none => rw [hfn] at hp; cases hp
      | some fn =>
        rw [hfn] at hp
        simp only [Bool.and_eq_true] at hp
        have := hp.2
        cases hb : fn.body with
        | none => rw [hb] at this; cases this
        | some c => rw [hb] at this; simpa [okItem, hb] using this
    · intro y hy
      rcases List.mem_cons.1 hy with rfl | hy
      · exact ⟨h.1, hm, ops, i, rest, T, hT⟩
      · exact h.2 y hy
    · rw [gx_ext, gx_ext, tp_run h.1 hm, hstep]
      unfold stepG.apply
      simp only [if_true, hrun]
      have e1 : (Frame.at f ⟨f.tmps, []⟩ (f.todo ++ kk k inner)).kind = f.kind := rfl
      have e2 : (Frame.at f ⟨f.tmps, []⟩ (f.todo ++ kk k inner)).todo = .inRegion ops (i :: rest) :: (T ++ kk k inner) := by show f.todo ++ _ = _; rw [hT]; rfl
      simp only [e1, e2, hk, Bool.false_eq_true, if_false]
      have e3 : ext k (f :: inner) = f.at ⟨f.tmps, []⟩ (f.todo ++ kk k inner) :: ext k inner := by rw [ext_cons, tp_run h.1 hm]
      have e4 : tp k (Frame.enter P g args .normal) (f :: inner) = Frame.enter P g args .normal := by simp [tp, Frame.enter]
      rw [e3, e4]
      simp [GStep.after, seen, G]
  · -- an operation that is carried out
    obtain ⟨r, us, n, hu, hr, hd, hloc⟩ := tame_local P ht w #[]
    have hself := hloc w.tape w.drawn (fun _ _ => rfl)
    have e0 : rt w w.tape w.drawn = w := rfl
    have hes : ∀ e ∈ seen P f.fn (#[] ++ us), Hears e := fun e he => hu e (by simpa using mem_seen he)
    cases r with
    | ok a w' =>
      have hv : isVS a := leaf_ok P hl w #[] a (rt w' w.tape (w.drawn + n)) (by rw [e0] at hself; rw [hself]; rfl)
      left
      have key : ∀ v, (a = .value v ∨ (a = .skip ∧ v = undef)) → StepA z P F (f :: inner) w := by
        intro v hav
        refine ⟨f.at (Act.put ⟨f.tmps, []⟩ o.dst v) (.inRegion ops rest :: T) :: inner, w', seen P f.fn (#[] ++ us), n, ⟨okF_at h.1 _ _ (by cases o.dst <;> rfl) hTR, h.2⟩, hes, hd, fun τ d hA k cs _ => ?_⟩
        rw [gx_ext, gx_ext, tp_run h.1 hm, tp_at, hstep]
        unfold stepG.apply
        simp only [if_true, hloc τ d hA]
        have e1 : (Frame.at f ⟨f.tmps, []⟩ (f.todo ++ kk k inner)).kind = f.kind := rfl
        have e2 : (Frame.at f ⟨f.tmps, []⟩ (f.todo ++ kk k inner)).fn = f.fn := rfl
        rcases hav with rfl | ⟨rfl, rfl⟩ <;>
        · simp only [resT, e1, e2, hk, Bool.false_eq_true, if_false, hfin]
          simp [GStep.after, G]
      cases a <;> first | exact hv.elim | skip
      · exact key _ (.inl rfl)
      · exact key _ (.inr ⟨rfl, rfl⟩)
    | halt x w' =>
      cases x <;> first | exact hr.elim | skip
      case panic v =>
        left
        have er : f.raise [{ v, recovered := false }] = { f with mode := .panicking [{ v, recovered := false }] } := by unfold Frame.raise; rw [hm]
        refine ⟨(f.raise [{ v, recovered := false }]) :: inner, w', seen P f.fn (#[] ++ us), n, ⟨by rw [er]; exact ⟨h.1.defers, h.1.round, h.1.kind, h.1.todo, h.1.res⟩, h.2⟩, hes, hd, fun τ d hA k cs _ => ?_⟩
        rw [gx_ext, gx_ext, tp_run h.1 hm, hstep, er]
        unfold stepG.apply
        simp only [if_true, hloc τ d hA]
        have e1 : (Frame.at f ⟨f.tmps, []⟩ (f.todo ++ kk k inner)).kind = f.kind := rfl
        have e2 : (Frame.at f ⟨f.tmps, []⟩ (f.todo ++ kk k inner)).fn = f.fn := rfl
        simp only [resT, e1, e2, hk, Bool.false_eq_true, if_false]
        have e5 : tp k { f with mode := .panicking [{ v, recovered := false }] } inner = { f.at ⟨f.tmps, []⟩ (f.todo ++ kk k inner) with mode := .panicking [{ v, recovered := false }] } := by
          rw [← tp_run h.1 hm]; rfl
        rw [e5]
        simp [GStep.after, G, Frame.raise, Frame.at]
      case stuck s =>
        right
        refine ⟨n, fun τ d hA => ?_⟩
        rw [gx_ext]
        have e1 : (Frame.at f ⟨f.tmps, []⟩ (f.todo ++ kk (kz z) inner)).kind = f.kind := rfl
        have e2 : (Frame.at f ⟨f.tmps, []⟩ (f.todo ++ kk (kz z) inner)).fn = f.fn := rfl
        have hs : stepG P true (G (tp (kz z) f inner) (ext (kz z) inner ++ [c0])) (rt w τ d) = stepG.apply P true (f.at ⟨f.tmps, []⟩ (f.todo ++ kk (kz z) inner)) (ext (kz z) inner ++ [c0]) none (execOp (Act.eval ⟨f.tmps, []⟩) o) (rt w τ d) := by
          rw [tp_run h.1 hm, hstep]
        unfold stepG.apply at hs
        simp only [if_true, hloc τ d hA, resT, e1, e2, hk, Bool.false_eq_true, if_false] at hs
        exact deadIn_ended rfl hs
      case unsupported u =>
        right
        refine ⟨n, fun τ d hA => ?_⟩
        rw [gx_ext]
        have e1 : (Frame.at f ⟨f.tmps, []⟩ (f.todo ++ kk (kz z) inner)).kind = f.kind := rfl
        have e2 : (Frame.at f ⟨f.tmps, []⟩ (f.todo ++ kk (kz z) inner)).fn = f.fn := rfl
        have hs : stepG P true (G (tp (kz z) f inner) (ext (kz z) inner ++ [c0])) (rt w τ d) = stepG.apply P true (f.at ⟨f.tmps, []⟩ (f.todo ++ kk (kz z) inner)) (ext (kz z) inner ++ [c0]) none (execOp (Act.eval ⟨f.tmps, []⟩) o) (rt w τ d) := by
          rw [tp_run h.1 hm, hstep]
        unfold stepG.apply at hs
        simp only [if_true, hloc τ d hA, resT, e1, e2, hk, Bool.false_eq_true, if_false] at hs
        cases u <;> first
          | exact deadIn_ended rfl hs
          | (dsimp only at hs; rw [early_ended H] at hs; exact deadIn_ended rfl hs)

theorem mapM_pureL {α β : Type} {g : α → Sem β} : ∀ (l : List α), (∀ x ∈ l, ∃ y, g x = pure y) → ∃ ys, l.mapM g = pure ys
  | [], _ => ⟨[], List.mapM_nil⟩
  | a :: l, h => by
    obtain ⟨y, hy⟩ := h a (by simp)
    obtain ⟨ys, hys⟩ := mapM_pureL l fun x hx => h x (by simp [hx])
    exact ⟨y :: ys, by rw [List.mapM_cons, hy, hys]; rfl⟩

theorem results_tmps {fn : Func} (h : (fn.results.all fun | .tmp _ => true | _ => false) = true) (tmps : Array Value) : ∃ v, ∀ P w es, (results fn tmps).runT P w es = (.ok v w, es) := by
  rw [Array.all_eq_true_iff_forall_mem] at h
  unfold results
  rw [Array.mapM_eq_mapM_toList]
  have key : ∀ g : ResultVar → Sem Value, (∀ x ∈ fn.results.toList, ∃ y, g x = pure y) →
      ∃ v, ∀ P w es, Sem.runT P (do let vs ← List.toArray <$> List.mapM g fn.results.toList; pure (if h : vs.size = 1 then vs[0] else .tuple vs)) w es = (.ok v w, es) := by
    intro g hg
    obtain ⟨ys, hys⟩ := mapM_pureL fn.results.toList hg
    exact ⟨_, fun P w es => by rw [hys]; rfl⟩
  refine key _ fun x hx => ?_
  have := h x (Array.mem_toList_iff.1 hx)
  cases x with
  | tmp t => exact ⟨_, rfl⟩
  | cell a t => cases this

theorem exitTo_app {id : Nat} {r : List Item} : ∀ {T k' : List Item}, exitTo id T = some k' → exitTo id (T ++ r) = some (k' ++ r) ∧ ∀ x ∈ k', x ∈ T
  | [], _, h => by simp [exitTo] at h
  | x :: T, k', h => by
    cases x with
    | inBlock id' =>
      simp only [exitTo, List.cons_append] at h ⊢
      split at h
      · cases h
        rename_i he
        simp only [he, if_true, true_and]
        intro x hx; simp [hx]
      · rename_i he
        simp only [he]
        obtain ⟨h1, h2⟩ := exitTo_app (r := r) h
        exact ⟨h1, fun x hx => by simp [h2 x hx]⟩
    | _ =>
      simp only [exitTo, List.cons_append] at h ⊢
      obtain ⟨h1, h2⟩ := exitTo_app (r := r) h
      exact ⟨h1, fun x hx => by simp [h2 x hx]⟩

theorem exitTo_none {id : Nat} {r : List Item} (hr : exitTo id r = none) : ∀ {T : List Item}, exitTo id T = none → exitTo id (T ++ r) = none
  | [], _ => hr
  | x :: T, h => by
    cases x with
    | inBlock id' =>
      simp only [exitTo, List.cons_append] at h ⊢
      split at h
      · cases h
      · rename_i he
        simp only [he]
        exact exitTo_none hr h
    | _ =>
      simp only [exitTo, List.cons_append] at h ⊢
      exact exitTo_none hr h

theorem kk_exit (z : Bool) (id : Nat) (inner : List Frame) : exitTo id (kk (kz z) inner) = none := by unfold kk; split <;> cases z <;> rfl

theorem dich (H : Plain P F) {σ : List Frame} (h : StackOk P F σ) (w : World) : StepA z P F σ w ∨ ∃ n, ∀ τ d, Ag τ d w.tape w.drawn n → DeadIn P (gx (ext (kz z) σ) [c0]) (rt w τ d) := by
  cases σ with
  | nil => exact h.elim
  | cons f inner =>
  cases hm : f.mode with
  | returning =>
    have hres := h.1.res
    unfold tmpRes at hres
    cases hfn : P.funcs[f.fn]? with
    | none => rw [hfn] at hres; cases hres
    | some fn =>
      rw [hfn] at hres
      obtain ⟨v, hv⟩ := results_tmps hres f.tmps
      have hstep : ∀ (k : List Item) (c : Frame) (cs : List Frame) (w : World), stepG P true (G (tp k f inner) (c :: cs)) w = .go (G (c.finish v) cs) w := by
        intro k c cs w
        have h1 : (results fn f.tmps).run P w = .ok v w := by rw [← Sem.runT_fst P _ w #[], hv]
        have h2 : (results fn f.tmps).events P w #[] = #[] := by unfold Sem.events; rw [hv]
        simp [G, stepG, unwind, doReturn, tp, hm, h.1.defers, hfn, h1, h2, h.1.kind, seen, GStep.after]
      cases inner with
      | nil =>
        refine .inr ⟨0, fun τ d _ => ?_⟩
        rw [gx_ext]
        obtain ⟨o, ho⟩ : ∃ o, stepG P true (G (c0.finish v) []) (rt w τ d) = .ended o (rt w τ d) #[] := ⟨_, by simp [G, stepG, stepG.exec, c0, ks, Frame.finish]; rfl⟩
        exact deadIn_two (g₁ := G (c0.finish v) []) (w₂ := rt w τ d) rfl (hstep (kz z) c0 [] _) rfl rfl ho
      | cons g r =>
        left
        obtain ⟨hg, hgm, ops, i, rest, T, hgT⟩ := h.2 g (by simp)
        have hall : ∀ rest', okItem F (.inRegion ops rest') = true := fun _ => by have := hg.todo (.inRegion ops (i :: rest)) (by rw [hgT]; simp); simpa [okItem] using this
        have hfin : ∀ x, x ∈ (g.finish v).todo → okItem F x = true := by
          intro x hx
          simp only [Frame.finish, hgT, List.mem_cons] at hx
          rcases hx with rfl | hx
          · exact hall _
          · exact hg.todo x (by rw [hgT]; simp [hx])
        refine ⟨g.finish v :: r, w, #[], 0, ⟨⟨by simp [Frame.finish, hgT, hg.defers], by simp [Frame.finish, hgT, hg.round], by simp [Frame.finish, hgT, hg.kind], hfin, by simp [Frame.finish, hgT, hg.res]⟩, fun y hy => h.2 y (by simp [hy])⟩, by simp, ⟨rfl, rfl⟩, fun τ d _ k cs _ => ?_⟩
        rw [gx_ext, ext_cons k g r, List.cons_append, hstep, gx_ext]
        have : (tp k g r).finish v = tp k (g.finish v) r := by simp [tp, Frame.finish, hgT]
        rw [this]
        rfl
  | panicking chain =>
    have hstep : ∀ (k : List Item) (c : Frame) (cs : List Frame) (w : World), stepG P true (G (tp k f inner) (c :: cs)) w = .go (G (c.raise chain) cs) w := by
      intro k c cs w
      have hres := h.1.res
      unfold tmpRes at hres
      cases hfn : P.funcs[f.fn]? with
      | none => rw [hfn] at hres; cases hres
      | some fn => simp [G, stepG, unwind, tp, hm, h.1.defers, Frame.catches, hfn]
    cases inner with
    | nil =>
      refine .inr ⟨0, fun τ d _ => ?_⟩
      rw [gx_ext]
      exact deadIn_two (g₁ := G (c0.raise chain) []) (w₂ := rt w τ d) rfl (hstep (kz z) c0 [] _) rfl rfl (o := .unsupported (.noEntry "machine/Return: a deferred call of a nil function value, made while the frame is unwinding") (({ c0 with mode := .panicking chain, defers := [] } : Frame).pos P)) (es' := #[])
        (by simp [G, stepG, unwind, callDeferred, c0, Frame.raise])
    | cons g r =>
      left
      obtain ⟨hg, hgm, ops, i, rest, T, hgT⟩ := h.2 g (by simp)
      have er : g.raise chain = { g with mode := .panicking chain } := by unfold Frame.raise; rw [hgm]
      refine ⟨g.raise chain :: r, w, #[], 0, ⟨by rw [er]; exact ⟨hg.defers, hg.round, hg.kind, hg.todo, hg.res⟩, fun y hy => h.2 y (by simp [hy])⟩, by simp, ⟨rfl, rfl⟩, fun τ d _ k cs _ => ?_⟩
      rw [gx_ext, ext_cons k g r, List.cons_append, hstep, gx_ext]
      have : (tp k g r).raise chain = tp k (g.raise chain) r := by rw [er]; simp [tp, Frame.raise, hgm]
      rw [this]
      rfl
  | run =>
    cases hT : f.todo with
    | nil =>
      cases inner with
      | nil =>
        cases z with
        | true =>
          right
          rw [gx_ext, tp_run h.1 hm, hT]
          exact dead_ctl rfl fun w => ⟨_, _, by simp [G, stepG, stepG.exec, Frame.at, kk, kz, ks]; exact ⟨rfl, rfl⟩⟩
        | false =>
          left
          refine ⟨[{ f with mode := .returning }], w, #[], 0, ⟨⟨h.1.defers, h.1.round, h.1.kind, h.1.todo, h.1.res⟩, by simp⟩, by simp, ⟨rfl, rfl⟩, fun τ d _ k cs hk => ?_⟩
          obtain rfl := hk rfl
          rw [gx_ext, gx_ext]
          have e1 : tp [] { f with mode := .returning } [] = { f.at ⟨f.tmps, []⟩ [] with mode := .returning } := by
            have := tp_run (inner := []) h.1 hm []
            rw [hT] at this
            have e2 : tp [] { f with mode := .returning } [] = { tp [] f [] with mode := .returning } := rfl
            rw [e2, this]; rfl
          rw [e1, tp_run h.1 hm, hT]
          exact stepG_end
      | cons g r =>
        left
        refine ⟨{ f with mode := .returning } :: g :: r, w, #[], 0, ⟨⟨h.1.defers, h.1.round, h.1.kind, h.1.todo, h.1.res⟩, h.2⟩, by simp, ⟨rfl, rfl⟩, fun τ d _ k cs _ => ?_⟩
        rw [gx_ext, gx_ext]
        have e1 : tp k { f with mode := .returning } (g :: r) = { f.at ⟨f.tmps, []⟩ [] with mode := .returning } := by
          have := tp_run (inner := g :: r) h.1 hm k
          rw [hT] at this
          have e2 : tp k { f with mode := .returning } (g :: r) = { tp k f (g :: r) with mode := .returning } := rfl
          rw [e2, this]; rfl
        rw [e1, tp_run h.1 hm, hT]
        exact stepG_end
    | cons x T =>
      have hTo : ∀ y ∈ T, okItem F y = true := fun y hy => h.1.todo y (by rw [hT]; simp [hy])
      have hx := h.1.todo x (by rw [hT]; simp)
      have cons2 : ∀ {y : Item}, okItem F y = true → ∀ z ∈ y :: T, okItem F z = true := fun hy z hz => (List.mem_cons.1 hz).elim (fun e => e ▸ hy) fun hz => hTo z hz
      cases x with
      | inBlock id => exact .inl (stepA_ctl h hm hTo (fun r cs w => by rw [hT]; exact stepG_inBlock) w)
      | inLoop c => exact .inl (stepA_ctl h hm (T' := .code c :: .inLoop c :: T) (fun z hz => (List.mem_cons.1 hz).elim (fun e => e ▸ (hx)) fun hz => cons2 (y := .inLoop c) hx z hz) (fun r cs w => by rw [hT]; exact stepG_inLoop) w)
      | inRegion ops todo =>
        cases todo with
        | nil => exact .inl (stepA_ctl h hm hTo (fun r cs w => by rw [hT]; exact stepG_region_end) w)
        | cons i rest =>
          have hreg : okItem F (.inRegion ops rest) = true := by simpa [okItem] using hx
          cases ho : ops[i]? with
          | none =>
            refine .inl (stepA_ctl h hm (T' := .inRegion ops rest :: T) (cons2 hreg) (fun r cs w => ?_) w)
            rw [hT]
            simp [G, stepG, stepG.exec, Frame.at, ho, Frame.finish]
          | some o =>
            cases hw : Region.wanted o (yielded ops f.tmps) with
            | true => exact oper_step H h hT hm ho hw w
            | false =>
              refine .inl ⟨f.at (Act.put ⟨f.tmps, []⟩ o.dst undef) (.inRegion ops rest :: T) :: inner, w, #[], 0, ⟨okF_at h.1 _ _ (by cases o.dst <;> rfl) (cons2 hreg), h.2⟩, by simp, ⟨rfl, rfl⟩, fun τ d _ k cs _ => ?_⟩
              rw [gx_ext, gx_ext, tp_run h.1 hm, tp_at, hT]
              exact stepG_unwanted ho hw
      | code c =>
        cases c with
        | skip => exact .inl (stepA_ctl h hm hTo (fun r cs w => by rw [hT]; exact stepG_skip) w)
        | label l => exact .inl (stepA_ctl h hm hTo (fun r cs w => by rw [hT]; exact stepG_label) w)
        | seq a b =>
          have hab : okCode F a = true ∧ okCode F b = true := by simpa [okItem, okCode] using hx
          exact .inl (stepA_ctl h hm (T' := .code a :: .code b :: T) (fun z hz => (List.mem_cons.1 hz).elim (fun e => e ▸ (hab.1)) fun hz => cons2 (y := .code b) hab.2 z hz) (fun r cs w => by rw [hT]; exact stepG_seq) w)
        | cond c a b =>
          have hab : okCode F a = true ∧ okCode F b = true := by simpa [okItem, okCode] using hx
          by_cases hb : ∃ t, Act.eval ⟨f.tmps, []⟩ c = .bool t
          · obtain ⟨t, ht⟩ := hb
            exact .inl (stepA_ctl h hm (T' := .code (if t then a else b) :: T) (cons2 (by cases t; exact hab.2; exact hab.1)) (fun r cs w => by rw [hT]; exact stepG_cond ht) w)
          · right
            rw [gx_ext, tp_run h.1 hm, hT]
            refine dead_ctl rfl fun w => ?_
            have e : ∀ r : List Item, (f.at ⟨f.tmps, []⟩ r).eval c = Act.eval ⟨f.tmps, []⟩ c := fun r => Frame.eval_at f ⟨f.tmps, []⟩ r c
            generalize hev : Act.eval ⟨f.tmps, []⟩ c = v at hb
            have e' := e (.code (.cond c a b) :: T ++ kk (kz z) inner)
            rw [hev] at e'
            simp only [Frame.at] at e'
            cases v <;> first
              | exact absurd ⟨_, rfl⟩ hb
              | (simp only [G, stepG, stepG.exec, Frame.at, List.cons_append] at e' ⊢
                 rw [e']
                 exact ⟨_, _, rfl⟩)
        | block id c => exact .inl (stepA_ctl h hm (T' := .code c :: .inBlock id :: T) (fun z hz => (List.mem_cons.1 hz).elim (fun e => e ▸ (hx)) fun hz => cons2 (y := .inBlock id) rfl z hz) (fun r cs w => by rw [hT]; exact stepG_block) w)
        | loop c => exact .inl (stepA_ctl h hm (T' := .code c :: .inLoop c :: T) (fun z hz => (List.mem_cons.1 hz).elim (fun e => e ▸ (hx)) fun hz => cons2 (y := .inLoop c) hx z hz) (fun r cs w => by rw [hT]; exact stepG_loop) w)
        | exit id =>
          cases he : exitTo id T with
          | some k' => exact .inl (stepA_ctl h hm (T' := k') (fun z hz => hTo z ((exitTo_app (r := []) he).2 z hz)) (fun r cs w => by rw [hT]; exact stepG_exit (exitTo_app he).1) w)
          | none =>
            right
            rw [gx_ext, tp_run h.1 hm, hT]
            refine dead_ctl rfl fun w => ?_
            have := exitTo_none (kk_exit z id inner) he
            exact ⟨_, _, by simp [G, stepG, stepG.exec, Frame.at, this]; exact ⟨rfl, rfl⟩⟩
        | ret =>
          left
          refine ⟨{ f with mode := .returning } :: inner, w, #[], 0, ⟨⟨h.1.defers, h.1.round, h.1.kind, h.1.todo, h.1.res⟩, h.2⟩, by simp, ⟨rfl, rfl⟩, fun τ d _ k cs _ => ?_⟩
          rw [gx_ext, gx_ext]
          have e1 : tp k { f with mode := .returning } inner = { f.at ⟨f.tmps, []⟩ (.code .ret :: (T ++ kk k inner)) with mode := .returning } := by
            have := tp_run (inner := inner) h.1 hm k
            rw [hT] at this
            have e2 : tp k { f with mode := .returning } inner = { tp k f inner with mode := .returning } := rfl
            rw [e2, this]; rfl
          rw [e1, tp_run h.1 hm, hT]
          exact stepG_ret'
        | region id ops draw =>
          have hops : ops.all (okOp F) = true := by simpa [okItem, okCode] using hx
          cases draw with
          | false => exact .inl (stepA_ctl h hm (T' := .inRegion ops (List.range ops.size) :: T) (cons2 (by simpa [okItem] using hops)) (fun r cs w => by rw [hT]; exact stepG_region) w)
          | true =>
            left
            refine ⟨f.at ⟨f.tmps, []⟩ (.inRegion ops (Region.schedule (P.follows .mixedOrders) ops (w.tape w.drawn (.order f.fn id))) :: T) :: inner, { w with drawn := w.drawn + 1 }, #[], 1, ⟨okF_at h.1 _ _ rfl (cons2 (by simpa [okItem] using hops)), h.2⟩, by simp, ⟨rfl, rfl⟩, fun τ d hA k cs _ => ?_⟩
            rw [gx_ext, gx_ext, tp_run h.1 hm, tp_at, hT]
            have e0 : τ d = w.tape w.drawn := by simpa using hA 0 (by omega)
            simp [G, stepG, stepG.exec, Frame.at, choose, Sem.run, Question.forced, Question.cut, rt, e0]
        | rangeFunc a b c d => cases hx
        | scope c => cases hx
        | goto l => cases hx
        | refuse s => cases hx
      | _ => cases hx

end

end Go.Proofs.Ytjphaphnmclbcaa
