/- Texts of this claim put into one: ChD, ChE, ChF, ChG, ChX, ChY, ChZ, Pln, Pure, Kit. -/
import Derived.Test.YtjphaphnmclbcaaBnd
import Derived.Conc.CompanyCalls
import Derived.Test.YtjphaphnmclbcaaChecked
import Derived.KernelRfl
import Derived.WalkKit
import Derived.ProofKit
import Derived.Handy
import Derived.Outline
import Derived.WalkLawsBesides
import Derived.WalkSpells
import Derived.Deep.QuietTactic
import Derived.BigQuiet
import Derived.ChangeKeysEq
import Derived.Laws.AppendOwnNone
/- Which operations, pieces of code and stacks of frames are plain: their steps are the goroutine's own, hang on the answers drawn alone, and make nobody deaf. No condition. -/
namespace Go.Proofs.Ytjphaphnmclbcaa
open Go Go.Conc

/-- What it ends in satisfies Q. -/
def Leaf {α : Type} (Q : α → Prop) : Sem α → Prop
  | .pure a => Q a
  | .load _ _ k => ∀ v, Leaf Q (k v)
  | .store _ _ _ k => Leaf Q k
  | .new _ k => ∀ r, Leaf Q (k r)
  | .shape _ k => ∀ s, Leaf Q (k s)
  | .freeze _ _ k => Leaf Q k
  | .frozen _ k => ∀ b, Leaf Q (k b)
  | .getObj _ k => ∀ o, Leaf Q (k o)
  | .setObj _ _ k => Leaf Q k
  | .choose _ k => ∀ n, Leaf Q (k n)
  | .sys _ k => ∀ r, Leaf Q (k r)
  | .program k => ∀ p, Leaf Q (k p)
  | .mark _ k => Leaf Q k
  | .halt _ => True

theorem leaf_bind {α β : Type} {Q : β → Prop} (x : Sem α) {f : α → Sem β} (hf : ∀ a, Leaf Q (f a)) : Leaf Q (x >>= f) := by
  show Leaf Q (x.bind f)
  induction x with
  | pure a => exact hf a
  | load m a k ih => exact fun v => ih v
  | store m a v k ih => exact ih
  | new o k ih => exact fun v => ih v
  | shape r k ih => exact fun v => ih v
  | freeze a n k ih => exact ih
  | frozen a k ih => exact fun v => ih v
  | getObj r k ih => exact fun v => ih v
  | setObj r o k ih => exact ih
  | choose q k ih => exact fun v => ih v
  | sys c k ih => exact fun v => ih v
  | program k ih => exact fun v => ih v
  | mark m k ih => exact ih
  | halt h => trivial

theorem store_runT {α : Type} {P : Program} {m : Mode} {a : Addr} {v : Value} {k : Sem α} (hv : ¬((∃ c, v = .agg c) ∨ ∃ c, v = .tuple c)) (w : World) (es : Array Event) : (Sem.store m a v k).runT P w es = match w.cell? a with
    | some _ =>
      if w.frozen? a then (.halt (.unsupported (.unsafePointer "a write to bytes that a string shares")) w, es)
      else k.runT P (w.setCell a v) (es.push ⟨.cell a, true, m == .atomic⟩)
    | none => match w.farStore P a v (m == .atomic) with
      | .ok (w, touched) => k.runT P w (es ++ touched.toArray.map (⟨.cell ·, true, m == .atomic⟩))
      | .error h => (.halt h w, es) := by
  cases v <;> first | rfl | exact absurd (.inl ⟨_, rfl⟩) hv | exact absurd (.inr ⟨_, rfl⟩) hv

theorem leaf_ok {α : Type} {Q : α → Prop} (P : Program) {s : Sem α} (hs : Leaf Q s) : ∀ (w : World) (es : Array Event) (a : α) (w' : World), (s.runT P w es).1 = .ok a w' → Q a := by
  induction s with
  | pure a => intro w es b w' h; simp only [Sem.runT, Result.ok.injEq] at h; exact h.1 ▸ hs
  | load m a k ih =>
    intro w es b w' h
    simp only [Sem.runT] at h
    split at h
    · exact ih _ (hs _) _ _ _ _ h
    · split at h
      · exact ih _ (hs _) _ _ _ _ h
      · cases h
  | store m a v k ih =>
    intro w es b w' h
    by_cases hv : (∃ c, v = .agg c) ∨ ∃ c, v = .tuple c
    · rcases hv with ⟨c, rfl⟩ | ⟨c, rfl⟩ <;> simp only [Sem.runT] at h <;> cases h
    · rw [store_runT hv] at h
      split at h
      · split at h
        · cases h
        · exact ih hs _ _ _ _ h
      · split at h
        · exact ih hs _ _ _ _ h
        · cases h
  | new o k ih => exact fun w es b w' h => ih _ (hs _) _ _ _ _ h
  | shape r k ih => exact fun w es b w' h => ih _ (hs _) _ _ _ _ h
  | freeze a n k ih => exact fun w es b w' h => ih hs _ _ _ _ h
  | frozen a k ih => exact fun w es b w' h => ih _ (hs _) _ _ _ _ h
  | getObj r k ih =>
    intro w es b w' h
    simp only [Sem.runT] at h
    split at h
    · cases h
    · exact ih _ (hs _) _ _ _ _ h
    · cases h
  | setObj r o k ih =>
    intro w es b w' h
    simp only [Sem.runT] at h
    split at h
    · cases h
    · exact ih hs _ _ _ _ h
    · cases h
  | choose q k ih =>
    intro w es b w' h
    simp only [Sem.runT] at h
    split at h
    · exact ih _ (hs _) _ _ _ _ h
    · exact ih _ (hs _) _ _ _ _ h
  | sys c k ih => exact fun w es b w' h => ih _ (hs _) _ _ _ _ h
  | program k ih => exact fun w es b w' h => ih _ (hs _) _ _ _ _ h
  | mark m k ih => exact fun w es b w' h => ih hs _ _ _ _ h
  | halt x => intro w es b w' h; cases h

/-- A value, or nothing. -/
def isVS : Next → Prop
  | .value _ | .skip => True
  | _ => False

def okBk : Builtin → Bool
  | .append | .len | .cap | .copy => true
  | _ => false

/-- The plain operations; calls of functions in F alone. -/
def okOp (F : Nat → Bool) (o : Oper) : Bool :=
  match o.op with
  | .move _ | .assign _ | .pick .. | .alloc _ | .box .. | .build .. | .buildSlice .. | .load .. | .store .. | .nilCheck _ | .binOp .. | .unOp .. | .convert .. | .sliceToArrayPointer ..
  | .makeInterface .. | .makeSlice .. | .slice .. | .fieldAddr .. | .field .. | .indexAddr .. | .index .. | .extract .. | .panic _ => true
  | .call { callee := .builtin b, .. } => okBk b
  | .call { callee := .value (.func f), .. } => F f
  | _ => false

/-- The functions in F have bodies. -/
def okFn (P : Program) (f : Nat) : Bool :=
  match P.funcs[f]? with
  | some fn => fn.name != "runtime.NumGoroutine" && fn.body.isSome
  | none => false

theorem tame_v {s : Sem Value} (h : Tame s) : Tame (do pure (.value (← s)) : Sem Next) := tame_bind h fun _ => trivial
theorem leaf_v {s : Sem Value} : Leaf isVS (do pure (.value (← s)) : Sem Next) := leaf_bind s fun _ => trivial
theorem tame_u {s : Sem Unit} (h : Tame s) : Tame (do s; pure .skip : Sem Next) := tame_bind h fun _ => trivial
theorem leaf_u {s : Sem Unit} : Leaf isVS (do s; pure .skip : Sem Next) := leaf_bind s fun _ => trivial

theorem execOp_ok {P : Program} {F : Nat → Bool} (hF : ∀ f, F f = true → okFn P f = true) {o : Oper} (h : okOp F o = true) (ρ : Operand → Value) (hρ : ∀ f, ρ (.func f) = .func (.func f) #[] #[]) :
    (∃ f args, F f = true ∧ ∀ w es, (execOp ρ o).runT P w es = (.ok (.enter f args) w, es)) ∨ (Tame (execOp ρ o) ∧ Leaf isVS (execOp ρ o)) := by
  obtain ⟨dst, op, type, pos, after, guard⟩ := o
  cases op <;> simp only [okOp, Bool.false_eq_true] at h
  case call c =>
    obtain ⟨callee, args, ats⟩ := c
    cases callee with
    | invoke r m => simp at h
    | builtin b =>
      right
      cases b <;> simp [okBk] at h
      · exact ⟨tame_v (tame_append _ _ _), leaf_v (s := Builtin.append_ _ _ _)⟩
      · exact ⟨tame_v (tame_cap _ _ _), leaf_v (s := Builtin.cap_ _ _ _)⟩
      · exact ⟨tame_v (tame_copy _ _ _), leaf_v (s := Builtin.copy_ _ _ _)⟩
      · exact ⟨tame_v (tame_len _ _ _), leaf_v (s := Builtin.len_ _ _ _)⟩
    | value x =>
      cases x <;> simp at h
      rename_i f
      left
      have hf := hF f h
      unfold okFn at hf
      split at hf
      · rename_i fn hfn
        simp only [Bool.and_eq_true, bne_iff_ne, ne_eq] at hf
        refine ⟨f, (#[] ++ args.map ρ) ++ #[], h, fun w es => ?_⟩
        have hb : fn.body.isNone = false := by
          have := hf.2
          cases hx : fn.body <;> simp_all
        have e1 : execOp ρ { dst := dst, op := .call { callee := .value (.func f), args := args, argTypes := ats }, type := type, pos := pos, after := after, guard := guard } = callFunc f ((#[] ++ args.map ρ) ++ #[]) := by
          show ((Deferred.ofValue (ρ (.func f)) (args.map ρ)) >>= fun d => invoke d.target d.args) = _
          rw [hρ]
          rfl
        have hn : (fn.name == "runtime.NumGoroutine") = false := by simpa using hf.1
        rw [e1]
        unfold callFunc
        simp only [bind, Sem.bind, program, Sem.runT, hfn, hn, hb, Bool.false_eq_true, if_false]
        rfl
      · cases hf
  all_goals right
  case move x => exact ⟨trivial, trivial⟩
  case assign x => exact ⟨trivial, trivial⟩
  case pick c a b => exact ⟨tame_bind (tame_asBool _) fun _ => trivial, leaf_bind _ fun _ => trivial⟩
  case alloc e => exact ⟨tame_v (tame_alloc _ _ _), leaf_v⟩
  case box e x => exact ⟨tame_v (tame_box _ _), leaf_v⟩
  case build t p => exact ⟨tame_v (tame_build _ _), leaf_v⟩
  case buildSlice t n p => exact ⟨tame_v (tame_buildSlice _ _ _), leaf_v⟩
  case load t a => exact ⟨tame_v (tame_loadAt _ _), leaf_v⟩
  case store t a x => exact ⟨tame_u (tame_storeAt _ _ _), leaf_u⟩
  case nilCheck x =>
    unfold execOp
    dsimp only
    generalize ρ x = v
    cases v with
    | pointer p => cases p <;> first | exact ⟨tame_runtimePanic _, leaf_bind _ fun _ => trivial⟩ | exact ⟨trivial, trivial⟩
    | func fn a b =>
      cases fn with
      | method name =>
        refine ⟨?_, ?_⟩
        · dsimp only
          repeat' (first
            | with_reducible exact tame_runtimePanic _
            | with_reducible exact tame_unsupported _
            | with_reducible exact tame_program
            | with_reducible exact tame_nilAhead _ _ _ _
            | with_reducible exact tame_pure _
            | with_reducible refine tame_bind ?_ (fun _ => ?_)
            | with_reducible refine tame_ite ?_ ?_
            | split
            | dsimp only)
        · dsimp only
          repeat' (first
            | exact trivial
            | exact leaf_bind program fun _ => trivial
            | with_reducible refine leaf_bind _ (fun _ => ?_)
            | split
            | dsimp only)
      | _ => exact ⟨trivial, trivial⟩
    | nilIface => exact ⟨tame_runtimePanic _, leaf_bind _ fun _ => trivial⟩
    | nilFunc => exact ⟨tame_runtimePanic _, leaf_bind _ fun _ => trivial⟩
    | _ => exact ⟨trivial, trivial⟩
  case binOp op t x y g => exact ⟨tame_v (tame_bind (tame_eqGuard _ _ _ _ _ _) fun _ => tame_binOp _ _ _ _), leaf_v⟩
  case unOp op t x => exact ⟨tame_v (tame_unary _ _), leaf_v⟩
  case convert a b x => exact ⟨tame_v (tame_convert _ _ _), leaf_v⟩
  case sliceToArrayPointer a x => exact ⟨tame_v (tame_arrayAt _ _), leaf_v⟩
  case makeInterface t x => exact ⟨tame_v (tame_makeInterface _ _), leaf_v⟩
  case makeSlice t a b => exact ⟨tame_v (tame_makeSlice _ _ _), leaf_v⟩
  case slice t x l h m => exact ⟨tame_v (tame_sliceAt _ _ _ _ _), leaf_v⟩
  case fieldAddr t x f => exact ⟨tame_v (tame_fieldAt _ _ _), leaf_v⟩
  case field t x f => exact ⟨tame_v (tame_field _ _ _), leaf_v⟩
  case indexAddr t x i => exact ⟨tame_v (tame_indexAt _ _ _), leaf_v⟩
  case index t x i => exact ⟨tame_v (tame_index _ _ _), leaf_v⟩
  case extract t i => exact ⟨tame_v (tame_extract _ _), leaf_v⟩
  case panic x => exact ⟨tame_v (tame_panic _), leaf_v⟩

/-! ### pieces of code, frames, stacks -/

def okCode (F : Nat → Bool) : Code → Bool
  | .skip | .label _ | .ret | .exit _ => true
  | .seq a b => okCode F a && okCode F b
  | .cond _ a b => okCode F a && okCode F b
  | .block _ c => okCode F c
  | .loop c => okCode F c
  | .region _ ops _ => ops.all (okOp F)
  | _ => false

def okItem (F : Nat → Bool) : Item → Bool
  | .code c => okCode F c
  | .inLoop c => okCode F c
  | .inBlock _ => true
  | .inRegion ops _ => ops.all (okOp F)
  | _ => false

/-- The functions in F are plain throughout. -/
def plainFn (P : Program) (F : Nat → Bool) (f : Nat) : Bool :=
  match P.funcs[f]? with
  | some fn => fn.name != "runtime.NumGoroutine" && (match fn.body with | some c => okCode F c | none => false)
  | none => false

theorem okFn_of_plain {P : Program} {F : Nat → Bool} {f : Nat} (h : plainFn P F f = true) : okFn P f = true := by
  unfold plainFn at h
  unfold okFn
  split at h
  · simp only [Bool.and_eq_true] at h ⊢
    refine ⟨h.1, ?_⟩
    have := h.2
    split at this
    · simp_all
    · cases this
  · cases h

/-- Its results stand in temporaries. -/
def tmpRes (P : Program) (f : Nat) : Bool :=
  match P.funcs[f]? with
  | some fn => fn.results.all fun | .tmp _ => true | _ => false
  | none => false

structure OkF (P : Program) (F : Nat → Bool) (f : Frame) : Prop where
  defers : f.defers = []
  round : f.roundOf = none
  kind : f.kind = .normal
  todo : ∀ x ∈ f.todo, okItem F x = true
  res : tmpRes P f.fn = true

/-- A frame that waits for a call. -/
def Waits (f : Frame) : Prop := f.mode = .run ∧ ∃ ops i rest T, f.todo = .inRegion ops (i :: rest) :: T

/-- The frames above a base, the top first. -/
def StackOk (P : Program) (F : Nat → Bool) : List Frame → Prop
  | [] => False
  | f :: inner => OkF P F f ∧ ∀ g ∈ inner, OkF P F g ∧ Waits g

/-- The frames with something more to do for the lowest. -/
def ext (k : List Item) : List Frame → List Frame
  | [] => []
  | [b] => [{ b with todo := b.todo ++ k }]
  | f :: g :: r => f :: ext k (g :: r)

def tp (k : List Item) (f : Frame) (inner : List Frame) : Frame := { f with todo := f.todo ++ (if inner.isEmpty then k else []) }
theorem ext_cons (k : List Item) (f : Frame) (inner : List Frame) : ext k (f :: inner) = tp k f inner :: ext k inner := by
  cases inner with
  | nil => rfl
  | cons g r => simp [ext, tp]

/-- The goroutine with these frames above cs. -/
def gx : List Frame → List Frame → Goroutine
  | f :: inner, cs => G f (inner ++ cs)
  | [], _ => default

theorem gx_ext (k : List Item) (f : Frame) (inner cs : List Frame) : gx (ext k (f :: inner)) cs = G (tp k f inner) (ext k inner ++ cs) := by rw [ext_cons]; rfl

end Go.Proofs.Ytjphaphnmclbcaa

/- A step of a plain stack of frames: it is the goroutine's own and plain again, or the run is at its end. No condition. -/
namespace Go.Proofs.Ytjphaphnmclbcaa
open Go Go.Conc

theorem mem_seen {P : Program} {fn : FuncId} {es : Array Event} {e : Event} (h : e ∈ seen P fn es) : e ∈ es := by
  unfold seen at h
  have key : ∀ (l : List Event) (q : Bool) (kept : Array Event), e ∈ (l.foldl (fun (x : Bool × Array Event) e =>
      match e.loc with
      | .mark (.extern f) => ((P.funcs[f]?).any (·.norace), x.2)
      | _ => (x.1, if x.1 && !e.sync then x.2 else x.2.push e)) (q, kept)).2 → e ∈ kept ∨ e ∈ l := by
    intro l
    induction l with
    | nil => intro q kept h; exact .inl h
    | cons y l ih =>
      intro q kept h
      rw [List.foldl_cons] at h
      rcases ih _ _ h with h' | h'
      · dsimp only at h'
        split at h'
        · exact .inl h'
        · dsimp only at h'
          split at h'
          · exact .inl h'
          · rcases Array.mem_push.1 h' with h'' | rfl
            · exact .inl h''
            · exact .inr (by simp)
      · exact .inr (by simp [h'])
  dsimp only at h
  rw [← Array.foldl_toList] at h
  rcases key es.toList _ #[] h with h' | h'
  · simp at h'
  · exact Array.mem_toList_iff.1 h'

/-- The sentinels: what ends a run at once. -/
def ks : List Item := [.code (.refuse "")]
def c0 : Frame := { fn := 0, tmps := #[], todo := ks, defers := [{ target := .nil, args := #[] }], mode := .run, kind := .normal }

/-- What stands below the lowest frame's own work: the sentinel, or nothing. -/
def kz (z : Bool) : List Item := if z then ks else []

/-- No state behind this one, run alone, stands above the sentinel. -/
def DeadIn (P : Program) (g : Goroutine) (w : World) : Prop := ∀ m g' w', runN P (m + 1) (solo g w) = .next (solo g' w') → g'.callers ≠ [c0]

theorem step_solo {P : Program} {g : Goroutine} {w : World} (hs : g.status = .running) : step P (solo g w) = (runT P (solo g w) 0).1 := by rw [step, stepT_solo hs]
theorem step_solo_go {P : Program} {g g' : Goroutine} {w w' : World} {es : Array Event} (hs : g.status = .running) (h : stepG P true g w = .go g' w' es) : step P (solo g w) = .next (solo g' w') := by
  rw [step_solo hs, runT_solo_go h]
theorem step_solo_ended {P : Program} {g : Goroutine} {w w' : World} {o : Outcome} {es : Array Event} (hs : g.status = .running) (h : stepG P true g w = .ended o w' es) : step P (solo g w) = .ended o w' := by
  rw [step_solo hs]
  have := runT_many_ended (P := P) (gs := #[g]) (w := w) (sl := none) (i := 0) (g := g) rfl (show stepG P (0 == 0) g w = _ from h)
  rw [solo_eq_crowd, this]

theorem deadIn_ended {P : Program} {g : Goroutine} {w w' : World} {o : Outcome} {es : Array Event} (hs : g.status = .running) (h : stepG P true g w = .ended o w' es) : DeadIn P g w := by
  intro m g' w₁ hr
  simp only [runN, step_solo_ended hs h] at hr
  cases hr

theorem deadIn_two {P : Program} {g g₁ : Goroutine} {w w₁ w₂ : World} {o : Outcome} {es es' : Array Event} (hs : g.status = .running) (h : stepG P true g w = .go g₁ w₁ es) (hs₁ : g₁.status = .running) (hc : g₁.callers = [])
    (h₁ : stepG P true g₁ w₁ = .ended o w₂ es') : DeadIn P g w := by
  intro m g' w' hr
  simp only [runN, step_solo_go hs h] at hr
  cases m with
  | zero =>
    simp only [runN, Stepped.next.injEq] at hr
    have : g₁ = g' := by
      have := congrArg (fun m => m.gs[0]?) hr
      simpa [solo] using this
    rw [← this, hc]
    simp
  | succ m =>
    simp only [runN, step_solo_ended hs₁ h₁] at hr
    cases hr

/-- The step is the goroutine's own, whatever stands below, and plain again. -/
def StepA (z : Bool) (P : Program) (F : Nat → Bool) (σ : List Frame) (w : World) : Prop :=
  ∃ (σ' : List Frame) (w' : World) (es : Array Event) (n : Nat), StackOk P F σ' ∧ (∀ e ∈ es, Hears e) ∧ DrewN w w' n ∧
    ∀ τ d, Ag τ d w.tape w.drawn n → ∀ k cs, (z = false → k = []) → stepG P true (gx (ext k σ) cs) (rt w τ d) = .go (gx (ext k σ') cs) (rt w' τ (d + n)) es

def kk (k : List Item) (inner : List Frame) : List Item := if inner.isEmpty then k else []

section
variable {z : Bool} {P : Program} {F : Nat → Bool} {f : Frame} {inner : List Frame}

theorem tp_run (hO : OkF P F f) (hm : f.mode = .run) (k : List Item) : tp k f inner = f.at ⟨f.tmps, []⟩ (f.todo ++ kk k inner) := by
  obtain ⟨fn, tmps, todo, defers, mode, kind, round⟩ := f
  obtain ⟨h1, h2, h3, _, _⟩ := hO
  simp only at h1 h2 hm
  subst h1 h2 hm
  rfl

theorem tp_at (a : Act) (T : List Item) (k : List Item) : tp k (f.at a T) inner = f.at a (T ++ kk k inner) := rfl

theorem okF_at (hO : OkF P F f) (a : Act) (T : List Item) (ha : a.defers = []) (hT : ∀ x ∈ T, okItem F x = true) : OkF P F (f.at a T) := ⟨ha, rfl, hO.kind, hT, hO.res⟩

/-- A move of control. -/
theorem stepA_ctl (h : StackOk P F (f :: inner)) (hm : f.mode = .run) {T' : List Item} (hT : ∀ x ∈ T', okItem F x = true)
    (hstep : ∀ (r : List Item) (cs : List Frame) (w : World), stepG P true (G (f.at ⟨f.tmps, []⟩ (f.todo ++ r)) cs) w = .go (G (f.at ⟨f.tmps, []⟩ (T' ++ r)) cs) w) (w : World) : StepA z P F (f :: inner) w := by
  refine ⟨f.at ⟨f.tmps, []⟩ T' :: inner, w, #[], 0, ⟨okF_at h.1 _ _ rfl hT, h.2⟩, by simp, ⟨rfl, rfl⟩, fun τ d _ k cs _ => ?_⟩
  rw [gx_ext, gx_ext, tp_run h.1 hm, tp_at]
  exact hstep _ _ _

/-- The static facts of a program. -/
structure Plain (P : Program) (F : Nat → Bool) : Prop where
  fns : ∀ f, F f = true → plainFn P F f = true ∧ tmpRes P f = true
  ahead : P.follows .staticDataAhead = true
  steps : ∀ g, P.stepOf g = none

theorem early_ended (H : Plain P F) (fr : Frame) (cs : List Frame) (g : Nat) (w : World) : early P fr cs none g w = .ended (.unsupported (.initOrder g) (fr.pos P)) w := by
  unfold early
  simp only [H.ahead, H.steps g, Bool.not_true, Bool.false_eq_true, if_false]

theorem dead_ctl {w : World} {g : Goroutine} (hs : g.status = .running) (h : ∀ w, ∃ o es, stepG P true g w = .ended o w es) : ∃ n, ∀ τ d, Ag τ d w.tape w.drawn n → DeadIn P g (rt w τ d) :=
  ⟨0, fun τ d _ => let ⟨_, _, h'⟩ := h (rt w τ d); deadIn_ended hs h'⟩

theorem oper_step (H : Plain P F) (h : StackOk P F (f :: inner)) {ops : Array Oper} {i : Nat} {rest : List Nat} {T : List Item} (hT : f.todo = .inRegion ops (i :: rest) :: T) (hm : f.mode = .run) {o : Oper} (ho : ops[i]? = some o)
    (hw : Region.wanted o (yielded ops f.tmps) = true) (w : World) : StepA z P F (f :: inner) w ∨ ∃ n, ∀ τ d, Ag τ d w.tape w.drawn n → DeadIn P (gx (ext (kz z) (f :: inner)) [c0]) (rt w τ d) := by
  have hall : ops.all (okOp F) = true := by have := h.1.todo (.inRegion ops (i :: rest)) (by rw [hT]; simp); simpa [okItem] using this
  have hok : okOp F o = true := by
    rw [Array.all_eq_true_iff_forall_mem] at hall
    exact hall o (Array.mem_of_getElem? ho)
  have hTo : ∀ x ∈ T, okItem F x = true := fun x hx => h.1.todo x (by rw [hT]; simp [hx])
  have hreg : ∀ rest', okItem F (.inRegion ops rest') = true := fun _ => by simpa [okItem] using hall
  have hstep : ∀ (r : List Item) (cs : List Frame) (w : World), stepG P true (G (f.at ⟨f.tmps, []⟩ (f.todo ++ r)) cs) w = stepG.apply P true (f.at ⟨f.tmps, []⟩ (f.todo ++ r)) cs none (execOp (Act.eval ⟨f.tmps, []⟩) o) w := by
    intro r cs w
    rw [hT]
    exact stepG_oper ho hw
  have hk : (f.kind == CallKind.early) = false := by rw [h.1.kind]; rfl
  have hfin : ∀ (r : List Item) (v : Value), (f.at ⟨f.tmps, []⟩ (f.todo ++ r)).finish v = f.at (Act.put ⟨f.tmps, []⟩ o.dst v) ((.inRegion ops rest :: T) ++ r) := by
    intro r v
    rw [hT]
    have := Frame.finish_at f ⟨f.tmps, []⟩ ops i rest (T ++ r) v
    rw [ho] at this
    exact this
  have hTR : ∀ x ∈ (.inRegion ops rest :: T), okItem F x = true := fun x hx => by
    rcases List.mem_cons.1 hx with rfl | hx
    · exact hreg _
    · exact hTo x hx
  rcases execOp_ok (P := P) (fun g hg => okFn_of_plain (H.fns g hg).1) hok (Act.eval ⟨f.tmps, []⟩) (fun _ => rfl) with ⟨g, args, hg, hrun⟩ | ⟨ht, hl⟩
  · -- a call
    left
    obtain ⟨hp, hres⟩ := H.fns g hg
    refine ⟨Frame.enter P g args .normal :: f :: inner, w, #[], 0, ⟨⟨rfl, rfl, rfl, ?_, hres⟩, ?_⟩, by simp, ⟨rfl, rfl⟩, fun τ d _ k cs _ => ?_⟩
    · intro x hx
      simp only [Frame.enter, List.mem_cons, List.not_mem_nil, or_false] at hx
      subst hx
      unfold plainFn at hp
      cases hfn : P.funcs[g]? with
      | none => rw [hfn] at hp; cases hp
      | some fn =>
        rw [hfn] at hp
        simp only [Bool.and_eq_true] at hp
        have := hp.2
        cases hb : fn.body with
        | none => rw [hb] at this; cases this
        | some c => rw [hb] at this; simpa [okItem, hb] using this
    · intro y hy
      rcases List.mem_cons.1 hy with rfl | hy
      · exact ⟨h.1, hm, ops, i, rest, T, hT⟩
      · exact h.2 y hy
    · rw [gx_ext, gx_ext, tp_run h.1 hm, hstep]
      unfold stepG.apply
      simp only [if_true, hrun]
      have e1 : (Frame.at f ⟨f.tmps, []⟩ (f.todo ++ kk k inner)).kind = f.kind := rfl
      have e2 : (Frame.at f ⟨f.tmps, []⟩ (f.todo ++ kk k inner)).todo = .inRegion ops (i :: rest) :: (T ++ kk k inner) := by show f.todo ++ _ = _; rw [hT]; rfl
      simp only [e1, e2, hk, Bool.false_eq_true, if_false]
      have e3 : ext k (f :: inner) = f.at ⟨f.tmps, []⟩ (f.todo ++ kk k inner) :: ext k inner := by rw [ext_cons, tp_run h.1 hm]
      have e4 : tp k (Frame.enter P g args .normal) (f :: inner) = Frame.enter P g args .normal := by simp [tp, Frame.enter]
      rw [e3, e4]
      simp [GStep.after, seen, G]
  · -- an operation that is carried out
    obtain ⟨r, us, n, hu, hr, hd, hloc⟩ := tame_local P ht w #[]
    have hself := hloc w.tape w.drawn (fun _ _ => rfl)
    have e0 : rt w w.tape w.drawn = w := rfl
    have hes : ∀ e ∈ seen P f.fn (#[] ++ us), Hears e := fun e he => hu e (by simpa using mem_seen he)
    cases r with
    | ok a w' =>
      have hv : isVS a := leaf_ok P hl w #[] a (rt w' w.tape (w.drawn + n)) (by rw [e0] at hself; rw [hself]; rfl)
      left
      have key : ∀ v, (a = .value v ∨ (a = .skip ∧ v = undef)) → StepA z P F (f :: inner) w := by
        intro v hav
        refine ⟨f.at (Act.put ⟨f.tmps, []⟩ o.dst v) (.inRegion ops rest :: T) :: inner, w', seen P f.fn (#[] ++ us), n, ⟨okF_at h.1 _ _ (by cases o.dst <;> rfl) hTR, h.2⟩, hes, hd, fun τ d hA k cs _ => ?_⟩
        rw [gx_ext, gx_ext, tp_run h.1 hm, tp_at, hstep]
        unfold stepG.apply
        simp only [if_true, hloc τ d hA]
        have e1 : (Frame.at f ⟨f.tmps, []⟩ (f.todo ++ kk k inner)).kind = f.kind := rfl
        have e2 : (Frame.at f ⟨f.tmps, []⟩ (f.todo ++ kk k inner)).fn = f.fn := rfl
        rcases hav with rfl | ⟨rfl, rfl⟩ <;>
        · simp only [resT, e1, e2, hk, Bool.false_eq_true, if_false, hfin]
          simp [GStep.after, G]
      cases a <;> first | exact hv.elim | skip
      · exact key _ (.inl rfl)
      · exact key _ (.inr ⟨rfl, rfl⟩)
    | halt x w' =>
      cases x <;> first | exact hr.elim | skip
      case panic v =>
        left
        have er : f.raise [{ v, recovered := false }] = { f with mode := .panicking [{ v, recovered := false }] } := by unfold Frame.raise; rw [hm]
        refine ⟨(f.raise [{ v, recovered := false }]) :: inner, w', seen P f.fn (#[] ++ us), n, ⟨by rw [er]; exact ⟨h.1.defers, h.1.round, h.1.kind, h.1.todo, h.1.res⟩, h.2⟩, hes, hd, fun τ d hA k cs _ => ?_⟩
        rw [gx_ext, gx_ext, tp_run h.1 hm, hstep, er]
        unfold stepG.apply
        simp only [if_true, hloc τ d hA]
        have e1 : (Frame.at f ⟨f.tmps, []⟩ (f.todo ++ kk k inner)).kind = f.kind := rfl
        have e2 : (Frame.at f ⟨f.tmps, []⟩ (f.todo ++ kk k inner)).fn = f.fn := rfl
        simp only [resT, e1, e2, hk, Bool.false_eq_true, if_false]
        have e5 : tp k { f with mode := .panicking [{ v, recovered := false }] } inner = { f.at ⟨f.tmps, []⟩ (f.todo ++ kk k inner) with mode := .panicking [{ v, recovered := false }] } := by
          rw [← tp_run h.1 hm]; rfl
        rw [e5]
        simp [GStep.after, G, Frame.raise, Frame.at]
      case stuck s =>
        right
        refine ⟨n, fun τ d hA => ?_⟩
        rw [gx_ext]
        have e1 : (Frame.at f ⟨f.tmps, []⟩ (f.todo ++ kk (kz z) inner)).kind = f.kind := rfl
        have e2 : (Frame.at f ⟨f.tmps, []⟩ (f.todo ++ kk (kz z) inner)).fn = f.fn := rfl
        have hs : stepG P true (G (tp (kz z) f inner) (ext (kz z) inner ++ [c0])) (rt w τ d) = stepG.apply P true (f.at ⟨f.tmps, []⟩ (f.todo ++ kk (kz z) inner)) (ext (kz z) inner ++ [c0]) none (execOp (Act.eval ⟨f.tmps, []⟩) o) (rt w τ d) := by
          rw [tp_run h.1 hm, hstep]
        unfold stepG.apply at hs
        simp only [if_true, hloc τ d hA, resT, e1, e2, hk, Bool.false_eq_true, if_false] at hs
        exact deadIn_ended rfl hs
      case unsupported u =>
        right
        refine ⟨n, fun τ d hA => ?_⟩
        rw [gx_ext]
        have e1 : (Frame.at f ⟨f.tmps, []⟩ (f.todo ++ kk (kz z) inner)).kind = f.kind := rfl
        have e2 : (Frame.at f ⟨f.tmps, []⟩ (f.todo ++ kk (kz z) inner)).fn = f.fn := rfl
        have hs : stepG P true (G (tp (kz z) f inner) (ext (kz z) inner ++ [c0])) (rt w τ d) = stepG.apply P true (f.at ⟨f.tmps, []⟩ (f.todo ++ kk (kz z) inner)) (ext (kz z) inner ++ [c0]) none (execOp (Act.eval ⟨f.tmps, []⟩) o) (rt w τ d) := by
          rw [tp_run h.1 hm, hstep]
        unfold stepG.apply at hs
        simp only [if_true, hloc τ d hA, resT, e1, e2, hk, Bool.false_eq_true, if_false] at hs
        cases u <;> first
          | exact deadIn_ended rfl hs
          | (dsimp only at hs; rw [early_ended H] at hs; exact deadIn_ended rfl hs)

theorem mapM_pureL {α β : Type} {g : α → Sem β} : ∀ (l : List α), (∀ x ∈ l, ∃ y, g x = pure y) → ∃ ys, l.mapM g = pure ys
  | [], _ => ⟨[], List.mapM_nil⟩
  | a :: l, h => by
    obtain ⟨y, hy⟩ := h a (by simp)
    obtain ⟨ys, hys⟩ := mapM_pureL l fun x hx => h x (by simp [hx])
    exact ⟨y :: ys, by rw [List.mapM_cons, hy, hys]; rfl⟩

theorem results_tmps {fn : Func} (h : (fn.results.all fun | .tmp _ => true | _ => false) = true) (tmps : Array Value) : ∃ v, ∀ P w es, (results fn tmps).runT P w es = (.ok v w, es) := by
  rw [Array.all_eq_true_iff_forall_mem] at h
  unfold results
  rw [Array.mapM_eq_mapM_toList]
  have key : ∀ g : ResultVar → Sem Value, (∀ x ∈ fn.results.toList, ∃ y, g x = pure y) →
      ∃ v, ∀ P w es, Sem.runT P (do let vs ← List.toArray <$> List.mapM g fn.results.toList; pure (if h : vs.size = 1 then vs[0] else .tuple vs)) w es = (.ok v w, es) := by
    intro g hg
    obtain ⟨ys, hys⟩ := mapM_pureL fn.results.toList hg
    exact ⟨_, fun P w es => by rw [hys]; rfl⟩
  refine key _ fun x hx => ?_
  have := h x (Array.mem_toList_iff.1 hx)
  cases x with
  | tmp t => exact ⟨_, rfl⟩
  | cell a t => cases this

theorem exitTo_app {id : Nat} {r : List Item} : ∀ {T k' : List Item}, exitTo id T = some k' → exitTo id (T ++ r) = some (k' ++ r) ∧ ∀ x ∈ k', x ∈ T
  | [], _, h => by simp [exitTo] at h
  | x :: T, k', h => by
    cases x with
    | inBlock id' =>
      simp only [exitTo, List.cons_append] at h ⊢
      split at h
      · cases h
        rename_i he
        simp only [he, if_true, true_and]
        intro x hx; simp [hx]
      · rename_i he
        simp only [he]
        obtain ⟨h1, h2⟩ := exitTo_app (r := r) h
        exact ⟨h1, fun x hx => by simp [h2 x hx]⟩
    | _ =>
      simp only [exitTo, List.cons_append] at h ⊢
      obtain ⟨h1, h2⟩ := exitTo_app (r := r) h
      exact ⟨h1, fun x hx => by simp [h2 x hx]⟩

theorem exitTo_none {id : Nat} {r : List Item} (hr : exitTo id r = none) : ∀ {T : List Item}, exitTo id T = none → exitTo id (T ++ r) = none
  | [], _ => hr
  | x :: T, h => by
    cases x with
    | inBlock id' =>
      simp only [exitTo, List.cons_append] at h ⊢
      split at h
      · cases h
      · rename_i he
        simp only [he]
        exact exitTo_none hr h
    | _ =>
      simp only [exitTo, List.cons_append] at h ⊢
      exact exitTo_none hr h

theorem kk_exit (z : Bool) (id : Nat) (inner : List Frame) : exitTo id (kk (kz z) inner) = none := by unfold kk; split <;> cases z <;> rfl

theorem dich (H : Plain P F) {σ : List Frame} (h : StackOk P F σ) (w : World) : StepA z P F σ w ∨ ∃ n, ∀ τ d, Ag τ d w.tape w.drawn n → DeadIn P (gx (ext (kz z) σ) [c0]) (rt w τ d) := by
  cases σ with
  | nil => exact h.elim
  | cons f inner =>
  cases hm : f.mode with
  | returning =>
    have hres := h.1.res
    unfold tmpRes at hres
    cases hfn : P.funcs[f.fn]? with
    | none => rw [hfn] at hres; cases hres
    | some fn =>
      rw [hfn] at hres
      obtain ⟨v, hv⟩ := results_tmps hres f.tmps
      have hstep : ∀ (k : List Item) (c : Frame) (cs : List Frame) (w : World), stepG P true (G (tp k f inner) (c :: cs)) w = .go (G (c.finish v) cs) w := by
        intro k c cs w
        have h1 : (results fn f.tmps).run P w = .ok v w := by rw [← Sem.runT_fst P _ w #[], hv]
        have h2 : (results fn f.tmps).events P w #[] = #[] := by unfold Sem.events; rw [hv]
        simp [G, stepG, unwind, doReturn, tp, hm, h.1.defers, hfn, h1, h2, h.1.kind, seen, GStep.after]
      cases inner with
      | nil =>
        refine .inr ⟨0, fun τ d _ => ?_⟩
        rw [gx_ext]
        obtain ⟨o, ho⟩ : ∃ o, stepG P true (G (c0.finish v) []) (rt w τ d) = .ended o (rt w τ d) #[] := ⟨_, by simp [G, stepG, stepG.exec, c0, ks, Frame.finish]; rfl⟩
        exact deadIn_two (g₁ := G (c0.finish v) []) (w₂ := rt w τ d) rfl (hstep (kz z) c0 [] _) rfl rfl ho
      | cons g r =>
        left
        obtain ⟨hg, hgm, ops, i, rest, T, hgT⟩ := h.2 g (by simp)
        have hall : ∀ rest', okItem F (.inRegion ops rest') = true := fun _ => by have := hg.todo (.inRegion ops (i :: rest)) (by rw [hgT]; simp); simpa [okItem] using this
        have hfin : ∀ x, x ∈ (g.finish v).todo → okItem F x = true := by
          intro x hx
          simp only [Frame.finish, hgT, List.mem_cons] at hx
          rcases hx with rfl | hx
          · exact hall _
          · exact hg.todo x (by rw [hgT]; simp [hx])
        refine ⟨g.finish v :: r, w, #[], 0, ⟨⟨by simp [Frame.finish, hgT, hg.defers], by simp [Frame.finish, hgT, hg.round], by simp [Frame.finish, hgT, hg.kind], hfin, by simp [Frame.finish, hgT, hg.res]⟩, fun y hy => h.2 y (by simp [hy])⟩, by simp, ⟨rfl, rfl⟩, fun τ d _ k cs _ => ?_⟩
        rw [gx_ext, ext_cons k g r, List.cons_append, hstep, gx_ext]
        have : (tp k g r).finish v = tp k (g.finish v) r := by simp [tp, Frame.finish, hgT]
        rw [this]
        rfl
  | panicking chain =>
    have hstep : ∀ (k : List Item) (c : Frame) (cs : List Frame) (w : World), stepG P true (G (tp k f inner) (c :: cs)) w = .go (G (c.raise chain) cs) w := by
      intro k c cs w
      have hres := h.1.res
      unfold tmpRes at hres
      cases hfn : P.funcs[f.fn]? with
      | none => rw [hfn] at hres; cases hres
      | some fn => simp [G, stepG, unwind, tp, hm, h.1.defers, Frame.catches, hfn]
    cases inner with
    | nil =>
      refine .inr ⟨0, fun τ d _ => ?_⟩
      rw [gx_ext]
      exact deadIn_two (g₁ := G (c0.raise chain) []) (w₂ := rt w τ d) rfl (hstep (kz z) c0 [] _) rfl rfl (o := .unsupported (.noEntry "machine/Return: a deferred call of a nil function value, made while the frame is unwinding") (({ c0 with mode := .panicking chain, defers := [] } : Frame).pos P)) (es' := #[])
        (by simp [G, stepG, unwind, callDeferred, c0, Frame.raise])
    | cons g r =>
      left
      obtain ⟨hg, hgm, ops, i, rest, T, hgT⟩ := h.2 g (by simp)
      have er : g.raise chain = { g with mode := .panicking chain } := by unfold Frame.raise; rw [hgm]
      refine ⟨g.raise chain :: r, w, #[], 0, ⟨by rw [er]; exact ⟨hg.defers, hg.round, hg.kind, hg.todo, hg.res⟩, fun y hy => h.2 y (by simp [hy])⟩, by simp, ⟨rfl, rfl⟩, fun τ d _ k cs _ => ?_⟩
      rw [gx_ext, ext_cons k g r, List.cons_append, hstep, gx_ext]
      have : (tp k g r).raise chain = tp k (g.raise chain) r := by rw [er]; simp [tp, Frame.raise, hgm]
      rw [this]
      rfl
  | run =>
    cases hT : f.todo with
    | nil =>
      cases inner with
      | nil =>
        cases z with
        | true =>
          right
          rw [gx_ext, tp_run h.1 hm, hT]
          exact dead_ctl rfl fun w => ⟨_, _, by simp [G, stepG, stepG.exec, Frame.at, kk, kz, ks]; exact ⟨rfl, rfl⟩⟩
        | false =>
          left
          refine ⟨[{ f with mode := .returning }], w, #[], 0, ⟨⟨h.1.defers, h.1.round, h.1.kind, h.1.todo, h.1.res⟩, by simp⟩, by simp, ⟨rfl, rfl⟩, fun τ d _ k cs hk => ?_⟩
          obtain rfl := hk rfl
          rw [gx_ext, gx_ext]
          have e1 : tp [] { f with mode := .returning } [] = { f.at ⟨f.tmps, []⟩ [] with mode := .returning } := by
            have := tp_run (inner := []) h.1 hm []
            rw [hT] at this
            have e2 : tp [] { f with mode := .returning } [] = { tp [] f [] with mode := .returning } := rfl
            rw [e2, this]; rfl
          rw [e1, tp_run h.1 hm, hT]
          exact stepG_end
      | cons g r =>
        left
        refine ⟨{ f with mode := .returning } :: g :: r, w, #[], 0, ⟨⟨h.1.defers, h.1.round, h.1.kind, h.1.todo, h.1.res⟩, h.2⟩, by simp, ⟨rfl, rfl⟩, fun τ d _ k cs _ => ?_⟩
        rw [gx_ext, gx_ext]
        have e1 : tp k { f with mode := .returning } (g :: r) = { f.at ⟨f.tmps, []⟩ [] with mode := .returning } := by
          have := tp_run (inner := g :: r) h.1 hm k
          rw [hT] at this
          have e2 : tp k { f with mode := .returning } (g :: r) = { tp k f (g :: r) with mode := .returning } := rfl
          rw [e2, this]; rfl
        rw [e1, tp_run h.1 hm, hT]
        exact stepG_end
    | cons x T =>
      have hTo : ∀ y ∈ T, okItem F y = true := fun y hy => h.1.todo y (by rw [hT]; simp [hy])
      have hx := h.1.todo x (by rw [hT]; simp)
      have cons2 : ∀ {y : Item}, okItem F y = true → ∀ z ∈ y :: T, okItem F z = true := fun hy z hz => (List.mem_cons.1 hz).elim (fun e => e ▸ hy) fun hz => hTo z hz
      cases x with
      | inBlock id => exact .inl (stepA_ctl h hm hTo (fun r cs w => by rw [hT]; exact stepG_inBlock) w)
      | inLoop c => exact .inl (stepA_ctl h hm (T' := .code c :: .inLoop c :: T) (fun z hz => (List.mem_cons.1 hz).elim (fun e => e ▸ (hx)) fun hz => cons2 (y := .inLoop c) hx z hz) (fun r cs w => by rw [hT]; exact stepG_inLoop) w)
      | inRegion ops todo =>
        cases todo with
        | nil => exact .inl (stepA_ctl h hm hTo (fun r cs w => by rw [hT]; exact stepG_region_end) w)
        | cons i rest =>
          have hreg : okItem F (.inRegion ops rest) = true := by simpa [okItem] using hx
          cases ho : ops[i]? with
          | none =>
            refine .inl (stepA_ctl h hm (T' := .inRegion ops rest :: T) (cons2 hreg) (fun r cs w => ?_) w)
            rw [hT]
            simp [G, stepG, stepG.exec, Frame.at, ho, Frame.finish]
          | some o =>
            cases hw : Region.wanted o (yielded ops f.tmps) with
            | true => exact oper_step H h hT hm ho hw w
            | false =>
              refine .inl ⟨f.at (Act.put ⟨f.tmps, []⟩ o.dst undef) (.inRegion ops rest :: T) :: inner, w, #[], 0, ⟨okF_at h.1 _ _ (by cases o.dst <;> rfl) (cons2 hreg), h.2⟩, by simp, ⟨rfl, rfl⟩, fun τ d _ k cs _ => ?_⟩
              rw [gx_ext, gx_ext, tp_run h.1 hm, tp_at, hT]
              exact stepG_unwanted ho hw
      | code c =>
        cases c with
        | skip => exact .inl (stepA_ctl h hm hTo (fun r cs w => by rw [hT]; exact stepG_skip) w)
        | label l => exact .inl (stepA_ctl h hm hTo (fun r cs w => by rw [hT]; exact stepG_label) w)
        | seq a b =>
          have hab : okCode F a = true ∧ okCode F b = true := by simpa [okItem, okCode] using hx
          exact .inl (stepA_ctl h hm (T' := .code a :: .code b :: T) (fun z hz => (List.mem_cons.1 hz).elim (fun e => e ▸ (hab.1)) fun hz => cons2 (y := .code b) hab.2 z hz) (fun r cs w => by rw [hT]; exact stepG_seq) w)
        | cond c a b =>
          have hab : okCode F a = true ∧ okCode F b = true := by simpa [okItem, okCode] using hx
          by_cases hb : ∃ t, Act.eval ⟨f.tmps, []⟩ c = .bool t
          · obtain ⟨t, ht⟩ := hb
            exact .inl (stepA_ctl h hm (T' := .code (if t then a else b) :: T) (cons2 (by cases t; exact hab.2; exact hab.1)) (fun r cs w => by rw [hT]; exact stepG_cond ht) w)
          · right
            rw [gx_ext, tp_run h.1 hm, hT]
            refine dead_ctl rfl fun w => ?_
            have e : ∀ r : List Item, (f.at ⟨f.tmps, []⟩ r).eval c = Act.eval ⟨f.tmps, []⟩ c := fun r => Frame.eval_at f ⟨f.tmps, []⟩ r c
            generalize hev : Act.eval ⟨f.tmps, []⟩ c = v at hb
            have e' := e (.code (.cond c a b) :: T ++ kk (kz z) inner)
            rw [hev] at e'
            simp only [Frame.at] at e'
            cases v <;> first
              | exact absurd ⟨_, rfl⟩ hb
              | (simp only [G, stepG, stepG.exec, Frame.at, List.cons_append] at e' ⊢
                 rw [e']
                 exact ⟨_, _, rfl⟩)
        | block id c => exact .inl (stepA_ctl h hm (T' := .code c :: .inBlock id :: T) (fun z hz => (List.mem_cons.1 hz).elim (fun e => e ▸ (hx)) fun hz => cons2 (y := .inBlock id) rfl z hz) (fun r cs w => by rw [hT]; exact stepG_block) w)
        | loop c => exact .inl (stepA_ctl h hm (T' := .code c :: .inLoop c :: T) (fun z hz => (List.mem_cons.1 hz).elim (fun e => e ▸ (hx)) fun hz => cons2 (y := .inLoop c) hx z hz) (fun r cs w => by rw [hT]; exact stepG_loop) w)
        | exit id =>
          cases he : exitTo id T with
          | some k' => exact .inl (stepA_ctl h hm (T' := k') (fun z hz => hTo z ((exitTo_app (r := []) he).2 z hz)) (fun r cs w => by rw [hT]; exact stepG_exit (exitTo_app he).1) w)
          | none =>
            right
            rw [gx_ext, tp_run h.1 hm, hT]
            refine dead_ctl rfl fun w => ?_
            have := exitTo_none (kk_exit z id inner) he
            exact ⟨_, _, by simp [G, stepG, stepG.exec, Frame.at, this]; exact ⟨rfl, rfl⟩⟩
        | ret =>
          left
          refine ⟨{ f with mode := .returning } :: inner, w, #[], 0, ⟨⟨h.1.defers, h.1.round, h.1.kind, h.1.todo, h.1.res⟩, h.2⟩, by simp, ⟨rfl, rfl⟩, fun τ d _ k cs _ => ?_⟩
          rw [gx_ext, gx_ext]
          have e1 : tp k { f with mode := .returning } inner = { f.at ⟨f.tmps, []⟩ (.code .ret :: (T ++ kk k inner)) with mode := .returning } := by
            have := tp_run (inner := inner) h.1 hm k
            rw [hT] at this
            have e2 : tp k { f with mode := .returning } inner = { tp k f inner with mode := .returning } := rfl
            rw [e2, this]; rfl
          rw [e1, tp_run h.1 hm, hT]
          exact stepG_ret'
        | region id ops draw =>
          have hops : ops.all (okOp F) = true := by simpa [okItem, okCode] using hx
          cases draw with
          | false => exact .inl (stepA_ctl h hm (T' := .inRegion ops (List.range ops.size) :: T) (cons2 (by simpa [okItem] using hops)) (fun r cs w => by rw [hT]; exact stepG_region) w)
          | true =>
            left
            refine ⟨f.at ⟨f.tmps, []⟩ (.inRegion ops (Region.schedule (P.follows .mixedOrders) ops (w.tape w.drawn (.order f.fn id))) :: T) :: inner, { w with drawn := w.drawn + 1 }, #[], 1, ⟨okF_at h.1 _ _ rfl (cons2 (by simpa [okItem] using hops)), h.2⟩, by simp, ⟨rfl, rfl⟩, fun τ d hA k cs _ => ?_⟩
            rw [gx_ext, gx_ext, tp_run h.1 hm, tp_at, hT]
            have e0 : τ d = w.tape w.drawn := by simpa using hA 0 (by omega)
            simp [G, stepG, stepG.exec, Frame.at, choose, Sem.run, Question.forced, Question.cut, rt, e0]
        | rangeFunc a b c d => cases hx
        | scope c => cases hx
        | goto l => cases hx
        | refuse s => cases hx
      | _ => cases hx

end

end Go.Proofs.Ytjphaphnmclbcaa

/- What a plain stack of frames does alone on every tape it does beside goroutines that only leave. No condition. -/
namespace Go.Proofs.Ytjphaphnmclbcaa
open Go Go.Conc

theorem re_rt (w : World) (τ : Tape) (d : Nat) : Re w (rt w τ d) := ⟨τ, d, rfl⟩
theorem re_unrt (w : World) (τ : Tape) (d : Nat) : Re (rt w τ d) w := ⟨w.tape, w.drawn, rfl⟩
theorem rt_self {w w' : World} {n : Nat} (h : DrewN w w' n) : rt w' w.tape (w.drawn + n) = w' := by
  obtain ⟨h1, h2⟩ := h
  unfold rt
  rw [← h1, ← h2]

section
variable {z : Bool} {P : Program} {F : Nat → Bool} {Stop : Goroutine → World → Prop} {k : List Item} {cs : List Frame}

theorem gx_running {σ : List Frame} (h : StackOk P F σ) (k : List Item) (cs : List Frame) : (gx (ext k σ) cs).status = .running := by
  cases σ with
  | nil => exact h.elim
  | cons f r => rw [gx_ext]; rfl

/-- The step in the lonely place, on every tape that gives these answers. -/
def Went (z : Bool) (P : Program) (σ σ' : List Frame) (w w' : World) (τ : Tape) (d n : Nat) : Prop :=
  ∀ τ' d', Ag τ' d' τ d n → ∃ es, stepG P true (gx (ext (kz z) σ) [c0]) (rt w τ' d') = .go (gx (ext (kz z) σ') [c0]) (rt w' τ' (d' + n)) es
def Died (z : Bool) (P : Program) (σ : List Frame) (w : World) (τ : Tape) (d n : Nat) : Prop := ∀ τ' d', Ag τ' d' τ d n → DeadIn P (gx (ext (kz z) σ) [c0]) (rt w τ' d')

theorem bad_next (H : Plain P F) (hk : z = false → k = []) {σ : List Frame} {w : World} (h : StackOk P F σ) (hT : ¬ T P Stop (gx (ext k σ) cs) w) :
    ∃ (τ : Tape) (d n : Nat), Died z P σ w τ d n ∨ ∃ σ' w', StackOk P F σ' ∧ ¬ T P Stop (gx (ext k σ') cs) w' ∧ Went z P σ σ' w w' τ d n := by
  refine Classical.byContradiction fun hno => hT ?_
  have good : ∀ w₁, Re w w₁ → ∃ σ' w' es n, StackOk P F σ' ∧ (∀ e ∈ es, Hears e) ∧ DrewN w₁ w' n ∧ T P Stop (gx (ext k σ') cs) w' ∧
      ∀ τ d, Ag τ d w₁.tape w₁.drawn n → ∀ k cs, (z = false → k = []) → stepG P true (gx (ext k σ) cs) (rt w₁ τ d) = .go (gx (ext k σ') cs) (rt w' τ (d + n)) es := by
    rintro w₁ ⟨τ, d, rfl⟩
    rcases dich (z := z) H h (rt w τ d) with ⟨σ', w', es, n, h1, h2, h3, h4⟩ | ⟨n, hd⟩
    · refine ⟨σ', w', es, n, h1, h2, h3, Classical.byContradiction fun hT' => hno ⟨τ, d, n, .inr ⟨σ', w', h1, hT', fun τ' d' hA => ⟨es, ?_⟩⟩⟩, h4⟩
      have := h4 τ' d' hA (kz z) [c0] (fun e => by rw [e]; rfl)
      exact this
    · exact absurd ⟨τ, d, n, .inl fun τ' d' hA => hd τ' d' hA⟩ hno
  refine T.step (gx_running h k cs) (fun w₁ h₁ => ?_) fun w₁ g' w' es h₁ hs => ?_
  · obtain ⟨σ', w', es, n, _, h2, h3, _, h5⟩ := good w₁ h₁
    have := h5 w₁.tape w₁.drawn (fun _ _ => rfl) k cs hk
    exact ⟨_, _, es, this, h2⟩
  · obtain ⟨σ', w'', es', n, _, _, h3, h4, h5⟩ := good w₁ h₁
    have := h5 w₁.tape w₁.drawn (fun _ _ => rfl) k cs hk
    have e : rt w₁ w₁.tape w₁.drawn = w₁ := rfl
    rw [e, hs, rt_self h3] at this
    cases this
    exact h4

/-- WHAT IS DONE ALONE ON EVERY TAPE IS DONE BESIDE LEAVERS. -/
theorem transfer (H : Plain P F) (hk : z = false → k = []) {ExS : Goroutine → World → Prop} (hst : ∀ σ w', StackOk P F σ → ExS (gx (ext (kz z) σ) [c0]) w' → T P Stop (gx (ext k σ) cs) w') (hcs : ∀ g w', ExS g w' → g.callers = [c0])
    {σ : List Frame} {w : World} (h : StackOk P F σ) (hrun : ∀ τ, ∃ n g w', runN P n (solo (gx (ext (kz z) σ) [c0]) (rt w τ 0)) = .next (solo g w') ∧ ExS g w') : T P Stop (gx (ext k σ) cs) w := by
  refine Classical.byContradiction fun hT => ?_
  let Bad := { x : List Frame × World // StackOk P F x.1 ∧ ¬ T P Stop (gx (ext k x.1) cs) x.2 }
  have hnext : ∀ x : Bad, ∃ y : Tape × Nat × Nat × Option Bad,
      (y.2.2.2 = none → Died z P x.1.1 x.1.2 y.1 y.2.1 y.2.2.1) ∧ (∀ u, y.2.2.2 = some u → Went z P x.1.1 u.1.1 x.1.2 u.1.2 y.1 y.2.1 y.2.2.1) := by
    intro x
    obtain ⟨τ, d, n, hd | ⟨σ', w', h1, h2, h3⟩⟩ := bad_next (z := z) (k := k) (cs := cs) H hk x.2.1 x.2.2
    · exact ⟨(τ, d, n, none), fun _ => hd, fun z hz => by cases hz⟩
    · refine ⟨(τ, d, n, some ⟨(σ', w'), h1, h2⟩), ?_, ?_⟩
      · intro hz; cases hz
      · intro z hz; cases hz; exact h3
  obtain ⟨f, hf⟩ := Classical.axiomOfChoice hnext
  let x0 : Bad := ⟨(σ, w), h, hT⟩
  let p : Nat → Option Bad := fun i => Nat.rec (some x0) (fun _ y => y.bind fun x => (f x).2.2.2) i
  have p0 : p 0 = some x0 := rfl
  have pS : ∀ i, p (i + 1) = (p i).bind fun x => (f x).2.2.2 := fun _ => rfl
  let dn : Option Bad → Nat := fun y => match y with | some x => (f x).2.2.1 | none => 0
  let D : Nat → Nat := fun i => Nat.rec 0 (fun i a => a + dn (p i)) i
  have DS : ∀ i, D (i + 1) = D i + dn (p i) := fun _ => rfl
  have Dmono : ∀ i j, i ≤ j → D i ≤ D j := by
    intro i j hij
    induction hij with
    | refl => exact Nat.le_refl _
    | step _ ih => rw [Nat.succ_eq_add_one, DS]; omega
  have Duniq : ∀ i i' j, D i ≤ j → j < D (i + 1) → D i' ≤ j → j < D (i' + 1) → i = i' := by
    intro i i' j h1 h2 h3 h4
    rcases Nat.lt_trichotomy i i' with hlt | rfl | hlt
    · have := Dmono (i + 1) i' hlt; omega
    · rfl
    · have := Dmono (i' + 1) i hlt; omega
  let τs : Tape := fun j q => open Classical in if hx : ∃ i x, p i = some x ∧ D i ≤ j ∧ j < D (i + 1) then
      (f (Classical.choose (Classical.choose_spec hx))).1 ((f (Classical.choose (Classical.choose_spec hx))).2.1 + (j - D (Classical.choose hx))) q else 0
  have hAg : ∀ i x, p i = some x → Ag τs (D i) (f x).1 (f x).2.1 (f x).2.2.1 := by
    intro i x hi j hj
    have hD : D (i + 1) = D i + (f x).2.2.1 := by rw [DS, hi]
    have hx : ∃ i' x, p i' = some x ∧ D i' ≤ D i + j ∧ D i + j < D (i' + 1) := ⟨i, x, hi, by omega, by omega⟩
    funext q
    show (open Classical in if hx : ∃ i' x, p i' = some x ∧ D i' ≤ D i + j ∧ D i + j < D (i' + 1) then
      (f (Classical.choose (Classical.choose_spec hx))).1 ((f (Classical.choose (Classical.choose_spec hx))).2.1 + (D i + j - D (Classical.choose hx))) q else 0) = _
    rw [dif_pos hx]
    have hs := Classical.choose_spec (Classical.choose_spec hx)
    generalize Classical.choose (Classical.choose_spec hx) = x' at hs ⊢
    generalize Classical.choose hx = i' at hs ⊢
    obtain ⟨h1, h2, h3⟩ := hs
    have e := Duniq i i' (D i + j) (by omega) (by omega) h2 h3
    subst e
    rw [hi] at h1
    cases h1
    rw [show D i + j - D i = j by omega]
  have hpath : ∀ i x, p i = some x → runN P i (solo (gx (ext (kz z) σ) [c0]) (rt w τs 0)) = .next (solo (gx (ext (kz z) x.1.1) [c0]) (rt x.1.2 τs (D i))) := by
    intro i
    induction i with
    | zero => intro x hx; rw [p0] at hx; cases hx; rfl
    | succ i ih =>
      intro y hy
      rw [pS] at hy
      obtain ⟨x, hx, hxy⟩ := Option.bind_eq_some_iff.1 hy
      obtain ⟨es, hs⟩ := (hf x).2 y hxy τs (D i) (hAg i x hx)
      rw [runN_add, ih x hx]
      have e : D (i + 1) = D i + (f x).2.2.1 := by rw [DS, hx]
      simp only [runN, step_solo_go (gx_running x.2.1 (kz z) [c0]) hs, e]
  obtain ⟨n, g, w', hr, hE⟩ := hrun τs
  cases hn : p n with
  | some x =>
    rw [hpath n x hn] at hr
    simp only [Stepped.next.injEq] at hr
    have e1 : gx (ext (kz z) x.1.1) [c0] = g := by
      have := congrArg (fun m : Machine => m.gs[0]?) hr
      simpa [solo] using this
    have e2 : rt x.1.2 τs (D n) = w' := congrArg (fun m : Machine => m.world) hr
    subst e1 e2
    exact x.2.2 ((hst _ _ x.2.1 hE).rely (re_unrt _ _ _))
  | none =>
    -- where it died
    have hm : ∃ m x, m < n ∧ p m = some x ∧ p (m + 1) = none := by
      clear hr hE
      induction n with
      | zero => rw [p0] at hn; cases hn
      | succ n ih =>
        cases hn' : p n with
        | none => obtain ⟨m, x, h1, h2, h3⟩ := ih hn'; exact ⟨m, x, by omega, h2, h3⟩
        | some x => exact ⟨n, x, by omega, hn', hn⟩
    obtain ⟨m, x, hmn, hx, hx'⟩ := hm
    rw [pS, hx] at hx'
    have hd := (hf x).1 hx' τs (D m) (hAg m x hx)
    obtain ⟨j, rfl⟩ : ∃ j, n = m + (j + 1) := ⟨n - m - 1, by omega⟩
    rw [runN_add, hpath m x hx] at hr
    exact hd j g w' hr (hcs g w' hE)
end

end Go.Proofs.Ytjphaphnmclbcaa

/- Pieces of code and calls beside goroutines that only leave: rules, and what is proved alone. No condition. -/
namespace Go.Proofs.Ytjphaphnmclbcaa
open Go Go.Conc

section
variable {P : Program} {F : Nat → Bool} {Stop : Goroutine → World → Prop} {k : List Item} {cs : List Frame}

/-- Where the walk goes on behind a piece of code. -/
def AfterT (P : Program) (Stop : Goroutine → World → Prop) (b : Frame) (k : List Item) (cs : List Frame) : Exit → Act → World → Prop
  | .normal, a, w => T P Stop (G (b.at a k) cs) w
  | .exit id, a, w => ∃ k', exitTo id k = some k' ∧ T P Stop (G (b.at a k') cs) w
  | .ret, a, w => ∀ todo, T P Stop (G { b.at a todo with mode := .returning } cs) w
  | _, _, _ => False

/-- The piece of code c of function fn, beside leavers. -/
def WpT (P : Program) (fn : FuncId) (c : Code) (Q : Exit → Act → World → Prop) (a : Act) (w : World) : Prop :=
  ∀ (b : Frame) (k : List Item) (cs : List Frame) (Stop : Goroutine → World → Prop), b.fn = fn → b.kind = .normal →
    (∀ e a' w', Q e a' w' → AfterT P Stop b k cs e a' w') → T P Stop (G (b.at a (.code c :: k)) cs) w

/-- The operations of a region that are still to come. -/
def OpsT (P : Program) (fn : FuncId) (ops : Array Oper) (todo : List Nat) (Q : Exit → Act → World → Prop) (a : Act) (w : World) : Prop :=
  ∀ (b : Frame) (k : List Item) (cs : List Frame) (Stop : Goroutine → World → Prop), b.fn = fn → b.kind = .normal →
    (∀ e a' w', Q e a' w' → AfterT P Stop b k cs e a' w') → T P Stop (G (b.at a (.inRegion ops todo :: k)) cs) w

/-- A call. -/
def CallsT (P : Program) (f : FuncId) (args : Array Value) (w : World) (R : Value → World → Prop) : Prop :=
  ∀ (c : Frame) (cs : List Frame) (Stop : Goroutine → World → Prop), (∀ v w', R v w' → T P Stop (G (c.finish v) cs) w') → T P Stop (G (Frame.enter P f args .normal) (c :: cs)) w

theorem T.ctl {g g' : Goroutine} {w : World} (hs : g.status = .running) (h : ∀ w, stepG P true g w = .go g' w) (hT : T P Stop g' w) : T P Stop g w :=
  .step hs (fun w₁ _ => ⟨_, _, _, h w₁, by simp⟩) fun w₁ g₂ w₂ es h₁ h₂ => by rw [h w₁] at h₂; cases h₂; exact hT.rely h₁

theorem AfterT.push {b : Frame} {x : Item} {e : Exit} {a : Act} {w : World} (hx : x.plain = true) (he : e ≠ .normal) (h : AfterT P Stop b k cs e a w) : AfterT P Stop b (x :: k) cs e a w := by
  cases e with
  | normal => exact absurd rfl he
  | exit id => obtain ⟨k', hk, hg⟩ := h; exact ⟨k', by cases x <;> simp_all [exitTo, Item.plain], hg⟩
  | ret => exact h
  | goto l => exact h
  | panic ch => exact h
  | outgrown => exact h

variable {fn : FuncId} {Q : Exit → Act → World → Prop} {a : Act} {w : World}

theorem wpT_mono {c : Code} {Q' : Exit → Act → World → Prop} (h : WpT P fn c Q a w) (hq : ∀ e a w, Q e a w → Q' e a w) : WpT P fn c Q' a w :=
  fun b k cs Stop hb hk hc => h b k cs Stop hb hk fun e a' w' q => hc e a' w' (hq e a' w' q)
theorem wpT_rely {c : Code} {w₁ : World} (h : WpT P fn c Q a w) (hr : Re w w₁) : WpT P fn c Q a w₁ := fun b k cs Stop hb hk hc => (h b k cs Stop hb hk hc).rely hr
theorem opsT_rely {ops : Array Oper} {todo : List Nat} {w₁ : World} (h : OpsT P fn ops todo Q a w) (hr : Re w w₁) : OpsT P fn ops todo Q a w₁ := fun b k cs Stop hb hk hc => (h b k cs Stop hb hk hc).rely hr
theorem callsT_rely {f : FuncId} {args : Array Value} {R : Value → World → Prop} {w₁ : World} (h : CallsT P f args w R) (hr : Re w w₁) : CallsT P f args w₁ R := fun c cs Stop hc => (h c cs Stop hc).rely hr
theorem callsT_mono {f : FuncId} {args : Array Value} {R R' : Value → World → Prop} (h : CallsT P f args w R) (hq : ∀ v w, R v w → R' v w) : CallsT P f args w R' := fun c cs Stop hc => h c cs Stop fun v w' q => hc v w' (hq v w' q)

theorem wpT_skip (h : Q .normal a w) : WpT P fn .skip Q a w := fun _ _ _ _ _ _ hc => .ctl rfl (fun _ => stepG_skip) (hc _ _ _ h)
theorem wpT_label {l : Nat} (h : Q .normal a w) : WpT P fn (.label l) Q a w := fun _ _ _ _ _ _ hc => .ctl rfl (fun _ => stepG_label) (hc _ _ _ h)
theorem wpT_ret (h : Q .ret a w) : WpT P fn .ret Q a w := fun _ _ _ _ _ _ hc => .ctl rfl (fun _ => stepG_ret') (hc _ _ _ h _)
theorem wpT_exit {id : Nat} (h : Q (.exit id) a w) : WpT P fn (.exit id) Q a w := fun _ _ _ _ _ _ hc => by
  obtain ⟨k', hk', hg⟩ := hc _ _ _ h
  exact .ctl rfl (fun _ => stepG_exit hk') hg

theorem wpT_seq {x y : Code} (h : WpT P fn x (Exit.then (fun a' w' => WpT P fn y Q a' w') Q) a w) : WpT P fn (.seq x y) Q a w := by
  intro b k cs Stop hb hk hc
  refine .ctl rfl (fun _ => stepG_seq) (h b (.code y :: k) cs Stop hb hk fun e a' w' q => ?_)
  cases e with
  | normal => exact q b k cs Stop hb hk hc
  | exit id => exact (hc _ _ _ q).push rfl (by simp)
  | ret => exact (hc _ _ _ q).push (x := .code y) rfl (by simp)
  | goto l => exact hc _ _ _ q
  | panic ch => exact hc _ _ _ q
  | outgrown => exact hc _ _ _ q

theorem wpT_cond {c : Operand} {x y : Code} {t : Bool} (hc : a.eval c = .bool t) (h : WpT P fn (if t then x else y) Q a w) : WpT P fn (.cond c x y) Q a w :=
  fun b k cs Stop hb hk hq => .ctl rfl (fun _ => stepG_cond hc) (h b k cs Stop hb hk hq)

theorem wpT_block {id : Nat} {c : Code} (h : WpT P fn c (Exit.inBlock id Q) a w) : WpT P fn (.block id c) Q a w := by
  intro b k cs Stop hb hk hc
  refine .ctl rfl (fun _ => stepG_block) (h b (.inBlock id :: k) cs Stop hb hk fun e a' w' q => ?_)
  cases e with
  | normal => exact .ctl rfl (fun _ => stepG_inBlock) (hc _ _ _ q)
  | exit id' =>
    by_cases hid : id' = id
    · simp only [Exit.inBlock, hid, if_true] at q
      exact ⟨k, by simp [exitTo, hid], hc _ _ _ q⟩
    · simp only [Exit.inBlock, hid, if_false] at q
      obtain ⟨k', hk', hg⟩ := hc _ _ _ q
      have : (id == id') = false := by simp; exact fun h => hid h.symm
      exact ⟨k', by simp [exitTo, this, hk'], hg⟩
  | ret => exact hc _ _ _ q
  | goto l => exact hc _ _ _ q
  | panic ch => exact hc _ _ _ q
  | outgrown => exact hc _ _ _ q

/-- A loop: an invariant, and a measure that every round lowers. -/
theorem wpT_loop {c : Code} (I : Act → World → Prop) (μ : Act → World → Nat) (h₀ : I a w)
    (round : ∀ a w, I a w → WpT P fn c (Exit.then (fun a' w' => I a' w' ∧ μ a' w' < μ a w) Q) a w) : WpT P fn (.loop c) Q a w := by
  intro b k cs Stop hb hk hc
  have key : ∀ n a w, μ a w = n → I a w → T P Stop (G (b.at a (.code c :: .inLoop c :: k)) cs) w := by
    intro n
    induction n using Nat.strongRecOn with
    | _ n ih =>
      intro a w hn hI
      refine round a w hI b (.inLoop c :: k) cs Stop hb hk fun e a' w' q => ?_
      cases e with
      | normal => exact .ctl rfl (fun _ => stepG_inLoop) (ih _ (hn ▸ q.2) a' w' rfl q.1)
      | exit id => exact (hc _ _ _ q).push rfl (by simp)
      | ret => exact (hc _ _ _ q).push (x := .inLoop c) rfl (by simp)
      | goto l => exact hc _ _ _ q
      | panic ch => exact hc _ _ _ q
      | outgrown => exact hc _ _ _ q
  exact .ctl rfl (fun _ => stepG_loop) (key _ a w rfl h₀)

theorem wpT_region {id : Nat} {ops : Array Oper} (h : OpsT P fn ops (List.range ops.size) Q a w) : WpT P fn (.region id ops false) Q a w :=
  fun b k cs Stop hb hk hc => .ctl rfl (fun _ => stepG_region) (h b k cs Stop hb hk hc)

theorem opsT_nil {ops : Array Oper} (h : Q .normal a w) : OpsT P fn ops [] Q a w := fun _ _ _ _ _ _ hc => .ctl rfl (fun _ => stepG_region_end) (hc _ _ _ h)

theorem opsT_unwanted {ops : Array Oper} {i : Nat} {rest : List Nat} {o : Oper} (ho : ops[i]? = some o) (hw : Region.wanted o (yielded ops a.tmps) = false)
    (h : OpsT P fn ops rest Q (a.put o.dst undef) w) : OpsT P fn ops (i :: rest) Q a w := fun b k cs Stop hb hk hc => .ctl rfl (fun _ => stepG_unwanted ho hw) (h b k cs Stop hb hk hc)

theorem hears_listed {a : Act} {o : Oper} (ht : Tame (execOp a.eval o)) (f : FuncId) (w : World) : ∀ e ∈ listed P f a o w, Hears e := by
  obtain ⟨r, us, n, hu, _, _, hl⟩ := tame_local P ht w #[]
  intro e he
  unfold listed at he
  have h1 := mem_seen he
  unfold Sem.events at h1
  have h2 := hl w.tape w.drawn (fun _ _ => rfl)
  have e0 : rt w w.tape w.drawn = w := rfl
  rw [e0] at h2
  rw [h2] at h1
  exact hu e (by simpa using h1)

/-- One operation that is carried out, in every world that the scheduler may leave. -/
theorem opsT_cons {ops : Array Oper} {i : Nat} {rest : List Nat} {o : Oper} (ho : ops[i]? = some o) (hw : Region.wanted o (yielded ops a.tmps) = true) (ht : Tame (execOp a.eval o))
    (h : ∀ w₁, Re w w₁ → uponK o a (fun a' w' => OpsT P fn ops rest Q a' w') ((execOp a.eval o).run P w₁)) : OpsT P fn ops (i :: rest) Q a w := by
  intro b k cs Stop hb hk hc
  have hke : b.kind ≠ .early := by rw [hk]; simp
  have key : ∀ w₁, Re w w₁ → ∃ a' w', stepG P true (G (b.at a (.inRegion ops (i :: rest) :: k)) cs) w₁ = .go (G (b.at a' (.inRegion ops rest :: k)) cs) w' (listed P b.fn a o w₁) ∧ OpsT P fn ops rest Q a' w' := by
    intro w₁ h₁
    have := h w₁ h₁
    revert this
    cases hr : (execOp a.eval o).run P w₁ with
    | ok x w' =>
      cases x <;> first | exact fun h => h.elim | skip
      · exact fun hx => ⟨_, _, stepG_value ho hw hke hr, hx⟩
      · exact fun hx => ⟨_, _, stepG_none ho hw hke hr, hx⟩
    | halt _ _ => exact fun h => h.elim
  refine .step rfl (fun w₁ h₁ => ?_) fun w₁ g' w' es h₁ hs => ?_
  · obtain ⟨a', w', hs, _⟩ := key w₁ h₁
    exact ⟨_, _, _, hs, hears_listed ht _ _⟩
  · obtain ⟨a', w₂, hs', hx⟩ := key w₁ h₁
    rw [hs'] at hs
    cases hs
    exact hx b k cs Stop hb hk hc

/-- A call in a region. -/
theorem opsT_call {ops : Array Oper} {i : Nat} {rest : List Nat} {o : Oper} {f : FuncId} {args : Array Value} {R : Value → World → Prop} (ho : ops[i]? = some o) (hw : Region.wanted o (yielded ops a.tmps) = true)
    (hrun : ∀ w es, (execOp a.eval o).runT P w es = (.ok (.enter f args) w, es)) (hf : CallsT P f args w R)
    (h : ∀ v w', R v w' → OpsT P fn ops rest Q (a.put o.dst v) w') : OpsT P fn ops (i :: rest) Q a w := by
  intro b k cs Stop hb hk hc
  have hk' : (b.kind == CallKind.early) = false := by rw [hk]; rfl
  refine .ctl (g' := G (Frame.enter P f args .normal) (b.at a (.inRegion ops (i :: rest) :: k) :: cs)) rfl (fun w => ?_) ?_
  · rw [stepG_oper ho hw]
    unfold stepG.apply
    simp only [if_true, hrun]
    have e1 : (b.at a (.inRegion ops (i :: rest) :: k)).kind = b.kind := rfl
    have e2 : (b.at a (.inRegion ops (i :: rest) :: k)).todo = .inRegion ops (i :: rest) :: k := rfl
    simp only [e1, e2, hk', Bool.false_eq_true, if_false]
    simp [GStep.after, seen, G]
  · refine hf _ cs Stop fun v w' hv => ?_
    have := Frame.finish_at b a ops i rest k v
    rw [ho] at this
    rw [this]
    exact h v w' hv b k cs Stop hb hk hc

/-! ### what is proved alone -/

/-- Normally, or by a return. -/
def NR (Q : Exit → Act → World → Prop) : Exit → Act → World → Prop
  | .normal, a, w => Q .normal a w
  | .ret, a, w => Q .ret a w
  | _, _, _ => False

theorem solo_lone (fr : Frame) (cs : List Frame) (w : World) : lone fr cs w = solo (G fr cs) w := rfl

theorem wpT_lone (H : Plain P F) {c : Code} (hc : okCode F c = true) (hn : tmpRes P fn = true) (hd : a.defers = []) (h : ∀ w₁, Re w w₁ → c.wp P (NR Q) a w₁) : WpT P fn c Q a w := by
  intro b k cs Stop hb hk hQ
  have hOk : StackOk P F [b.at a [.code c]] := ⟨⟨hd, rfl, hk, by intro x hx; simp [Frame.at] at hx; subst hx; exact hc, by show tmpRes P b.fn = true; rw [hb]; exact hn⟩, by simp⟩
  let ExS : Goroutine → World → Prop := fun g w' => g.callers = [c0] ∧ ∃ a' w'', Re w'' w' ∧ ((Q .normal a' w'' ∧ g.frame = b.at a' ks) ∨ (Q .ret a' w'' ∧ ∃ todo, g.frame = { b.at a' todo with mode := .returning }))
  have hend := transfer (z := true) (P := P) (Stop := Stop) (k := k) (cs := cs) H (fun e => by cases e) (ExS := ExS) (fun σ w' hσ hE => ?_) (fun g w' hE => hE.1) (w := w) hOk (fun τ => ?_)
  · exact hend
  · obtain ⟨hcs, a', w'', hr, hx⟩ := hE
    cases σ with
    | nil => exact hσ.elim
    | cons f inner =>
      rw [gx_ext] at hcs hx ⊢
      have hi : inner = [] := by
        cases inner with
        | nil => rfl
        | cons g r => simp [G, ext_cons] at hcs
      subst hi
      have e : ext k ([] : List Frame) ++ cs = cs := rfl
      rw [e]
      rcases hx with ⟨hq, hf⟩ | ⟨hq, todo, hf⟩
      · have h1 : tp ks f [] = b.at a' ks := hf
        have h2 : tp k f [] = b.at a' k := by
          obtain ⟨fn', tmps, todo, defers, mode, kind, round⟩ := f
          have hT : todo = [] := by
            have := congrArg Frame.todo h1
            simpa [tp, Frame.at, ks] using this
          simp only [tp, Frame.at, Frame.mk.injEq] at h1 ⊢
          subst hT
          simp only [List.isEmpty_nil, if_true, List.nil_append] at h1 ⊢
          exact ⟨h1.1, h1.2.1, trivial, h1.2.2.2.1, h1.2.2.2.2.1, h1.2.2.2.2.2.1, h1.2.2.2.2.2.2⟩
        rw [h2]
        exact T.rely (hQ _ _ _ hq) hr
      · have h1 : tp ks f [] = { b.at a' todo with mode := .returning } := hf
        have h2 : tp k f [] = { b.at a' (f.todo ++ k) with mode := .returning } := by
          obtain ⟨fn', tmps, todo', defers, mode, kind, round⟩ := f
          simp only [tp, Frame.at, Frame.mk.injEq] at h1 ⊢
          simp only [List.isEmpty_nil, if_true] at h1 ⊢
          exact ⟨h1.1, h1.2.1, trivial, h1.2.2.2.1, h1.2.2.2.2.1, h1.2.2.2.2.2.1, h1.2.2.2.2.2.2⟩
        rw [h2]
        exact T.rely (hQ _ _ _ hq _) hr
  · have hw := h (rt w τ 0) (re_rt w τ 0) b ks [c0]
    obtain ⟨e, a', w', hq, harr⟩ := hw
    have e1 : lone (b.at a (.code c :: ks)) [c0] (rt w τ 0) = solo (gx (ext (kz true) [b.at a [.code c]]) [c0]) (rt w τ 0) := rfl
    rw [e1] at harr
    cases e with
    | normal =>
      obtain ⟨n, hn⟩ := harr
      exact ⟨n, G (b.at a' ks) [c0], w', hn, rfl, a', w', Re.refl _, .inl ⟨hq, rfl⟩⟩
    | ret =>
      obtain ⟨todo, n, hn⟩ := harr
      exact ⟨n, G { b.at a' todo with mode := .returning } [c0], w', hn, rfl, a', w', Re.refl _, .inr ⟨hq, todo, rfl⟩⟩
    | exit id => exact hq.elim
    | goto l => exact hq.elim
    | panic c => exact hq.elim
    | outgrown => exact hq.elim

theorem callsT_lone (H : Plain P F) {f : FuncId} (hf : F f = true) {args : Array Value} {R : Value → World → Prop} (h : ∀ w₁, Re w w₁ → Calls P f args w₁ (fun e w' => ∃ v, e = .returned v ∧ R v w')) : CallsT P f args w R := by
  intro c cs Stop hR
  obtain ⟨hp, hres⟩ := H.fns f hf
  have hOk : StackOk P F [Frame.enter P f args .normal] := by
    refine ⟨⟨rfl, rfl, rfl, ?_, hres⟩, by simp⟩
    intro x hx
    simp only [Frame.enter, List.mem_cons, List.not_mem_nil, or_false] at hx
    subst hx
    unfold plainFn at hp
    cases hfn : P.funcs[f]? with
    | none => rw [hfn] at hp; cases hp
    | some fn =>
      rw [hfn] at hp
      simp only [Bool.and_eq_true] at hp
      have := hp.2
      cases hb : fn.body with
      | none => rw [hb] at this; cases this
      | some c => rw [hb] at this; simpa [okItem, hb] using this
  let ExS : Goroutine → World → Prop := fun g w' => g.callers = [c0] ∧ ∃ v w'', Re w'' w' ∧ R v w'' ∧ ∃ fr, g = G fr [c0] ∧ fr.leaving P w'' (.returned v)
  have hend := transfer (z := false) (P := P) (Stop := Stop) (k := []) (cs := c :: cs) H (fun _ => rfl) (ExS := ExS) (fun σ w' hσ hE => ?_) (fun g w' hE => hE.1) (w := w) hOk (fun τ => ?_)
  · exact hend
  · obtain ⟨hcs, v, w'', hr, hRv, fr, hg, hl⟩ := hE
    cases σ with
    | nil => exact hσ.elim
    | cons f' inner =>
      rw [gx_ext] at hcs hg ⊢
      have hi : inner = [] := by
        cases inner with
        | nil => rfl
        | cons g r => simp [G, ext_cons] at hcs
      subst hi
      have hfr : tp [] f' [] = fr := congrArg Goroutine.frame hg
      subst hfr
      obtain ⟨hm, _, _, fn, hfn, hrun⟩ := hl
      have hm' : f'.mode = .returning := hm
      have hfn' : P.funcs[f'.fn]? = some fn := hfn
      have hres' := hσ.1.res
      unfold tmpRes at hres'
      rw [hfn'] at hres'
      obtain ⟨v0, hv0⟩ := results_tmps hres' f'.tmps
      have hv : v0 = v := by
        have h1 : (results fn f'.tmps).run P w'' = .ok v0 w'' := by rw [← Sem.runT_fst P _ w'' #[], hv0]
        have h2 : (results fn f'.tmps).run P w'' = .ok v w'' := hrun
        rw [h1] at h2
        cases h2
        rfl
      subst hv
      refine .ctl (g' := G (c.finish v0) cs) rfl (fun w => ?_) ((hR v0 w'' hRv).rely hr)
      have h1 : (results fn f'.tmps).run P w = .ok v0 w := by rw [← Sem.runT_fst P _ w #[], hv0]
      have h2 : (results fn f'.tmps).events P w #[] = #[] := by unfold Sem.events; rw [hv0]
      simp [G, stepG, unwind, doReturn, tp, ext, hm', hσ.1.defers, hfn', h1, h2, hσ.1.kind, seen, GStep.after]
  · obtain ⟨e, w', fr, ⟨v, rfl, hRv⟩, hc, _, hl⟩ := h (rt w τ 0) (re_rt w τ 0) [c0]
    obtain ⟨n, hn⟩ := hc
    have e1 : lone (Frame.enter P f args .normal) [c0] (rt w τ 0) = solo (gx (ext (kz false) [Frame.enter P f args .normal]) [c0]) (rt w τ 0) := by
      have : ext (kz false) [Frame.enter P f args .normal] = [Frame.enter P f args .normal] := by simp [ext, kz, Frame.enter]
      rw [this]
      rfl
    rw [e1] at hn
    exact ⟨n, G fr [c0], w', hn, rfl, v, w', Re.refl _, hRv, fr, rfl, hl⟩

end

end Go.Proofs.Ytjphaphnmclbcaa

/- The walk of goroutine 0 alone, operation by operation, where the frame is known; the go statement; what is behind a call. No condition. -/
namespace Go.Proofs.Ytjphaphnmclbcaa
open Go Go.Conc Go.ConcN

section
variable {P : Program} {Stop : Goroutine → World → Prop} {b : Frame} {a a' : Act} {k : List Item} {cs : List Frame} {ops : Array Oper} {i : Nat} {rest : List Nat} {o : Oper} {w : World}

theorem T.oper (hk : b.kind ≠ .early) (ho : ops[i]? = some o) (hw : Region.wanted o (yielded ops a.tmps) = true) (hev : ∀ w₁, Re w w₁ → ∀ e ∈ (execOp a.eval o).events P w₁ #[], Hears e)
    (h : ∀ w₁, Re w w₁ → uponK o a (fun a' w' => T P Stop (G (b.at a' (.inRegion ops rest :: k)) cs) w') ((execOp a.eval o).run P w₁)) : T P Stop (G (b.at a (.inRegion ops (i :: rest) :: k)) cs) w := by
  have key : ∀ w₁, Re w w₁ → ∃ a' w', stepG P true (G (b.at a (.inRegion ops (i :: rest) :: k)) cs) w₁ = .go (G (b.at a' (.inRegion ops rest :: k)) cs) w' (listed P b.fn a o w₁) ∧ T P Stop (G (b.at a' (.inRegion ops rest :: k)) cs) w' := by
    intro w₁ h₁
    have := h w₁ h₁
    revert this
    cases hr : (execOp a.eval o).run P w₁ with
    | ok x w' =>
      cases x <;> first | exact fun h => h.elim | skip
      · exact fun hx => ⟨_, _, stepG_value ho hw hk hr, hx⟩
      · exact fun hx => ⟨_, _, stepG_none ho hw hk hr, hx⟩
    | halt _ _ => exact fun h => h.elim
  refine .step rfl (fun w₁ h₁ => ?_) fun w₁ g' w' es h₁ hs => ?_
  · obtain ⟨a', w', hs, _⟩ := key w₁ h₁
    exact ⟨_, _, _, hs, fun e he => hev w₁ h₁ e (mem_listed he)⟩
  · obtain ⟨a', w₂, hs', hx⟩ := key w₁ h₁
    rw [hs'] at hs
    cases hs
    exact hx

theorem re_heap {w w₁ : World} (h : Re w w₁) : w₁.heap = w.heap := by obtain ⟨_, _, rfl⟩ := h; rfl
theorem re_cell {w w₁ : World} (h : Re w w₁) (ad : Addr) : w₁.cell? ad = w.cell? ad := by obtain ⟨_, _, rfl⟩ := h; rfl
theorem re_alloc {w w₁ : World} (h : Re w w₁) (ob : Obj) : Re (w.alloc ob) (w₁.alloc ob) := by obtain ⟨τ, d, rfl⟩ := h; exact ⟨τ, d, rfl⟩
theorem re_setCell {w w₁ : World} (h : Re w w₁) (ad : Addr) (v : Value) : Re (w.setCell ad v) (w₁.setCell ad v) := by obtain ⟨τ, d, rfl⟩ := h; exact ⟨τ, d, rfl⟩

theorem T.val {v : Value} (hk : b.kind ≠ .early) (ho : ops[i]? = some o) (hw : Region.wanted o (yielded ops a.tmps) = true) (hr : ∀ w₁, Re w w₁ → (execOp a.eval o).run P w₁ = .ok (.value v) w₁ ∧ ∀ e ∈ (execOp a.eval o).events P w₁ #[], Hears e) (ha : a.put o.dst v = a')
    (h : T P Stop (G (b.at a' (.inRegion ops rest :: k)) cs) w) : T P Stop (G (b.at a (.inRegion ops (i :: rest) :: k)) cs) w :=
  T.oper hk ho hw (fun w₁ h₁ => (hr w₁ h₁).2) fun w₁ h₁ => by rw [(hr w₁ h₁).1]; exact (ha ▸ h).rely h₁

theorem T.new {v : Value} {ob : Obj} (hk : b.kind ≠ .early) (ho : ops[i]? = some o) (hw : Region.wanted o (yielded ops a.tmps) = true) (hr : ∀ w₁, Re w w₁ → (execOp a.eval o).run P w₁ = .ok (.value v) (w₁.alloc ob) ∧ ∀ e ∈ (execOp a.eval o).events P w₁ #[], Hears e) (ha : a.put o.dst v = a')
    (h : T P Stop (G (b.at a' (.inRegion ops rest :: k)) cs) (w.alloc ob)) : T P Stop (G (b.at a (.inRegion ops (i :: rest) :: k)) cs) w :=
  T.oper hk ho hw (fun w₁ h₁ => (hr w₁ h₁).2) fun w₁ h₁ => by rw [(hr w₁ h₁).1]; exact (ha ▸ h).rely (re_alloc h₁ ob)

theorem T.upd {ad : Addr} {v : Value} (hk : b.kind ≠ .early) (ho : ops[i]? = some o) (hw : Region.wanted o (yielded ops a.tmps) = true) (hr : ∀ w₁, Re w w₁ → (execOp a.eval o).run P w₁ = .ok .skip (w₁.setCell ad v) ∧ ∀ e ∈ (execOp a.eval o).events P w₁ #[], Hears e) (ha : a.put o.dst undef = a')
    (h : T P Stop (G (b.at a' (.inRegion ops rest :: k)) cs) (w.setCell ad v)) : T P Stop (G (b.at a (.inRegion ops (i :: rest) :: k)) cs) w :=
  T.oper hk ho hw (fun w₁ h₁ => (hr w₁ h₁).2) fun w₁ h₁ => by rw [(hr w₁ h₁).1]; exact (ha ▸ h).rely (re_setCell h₁ ad v)

/-- Into a Go function. -/
theorem T.enterF {f : FuncId} {fd : Func} {c : Code} {args : Array Operand} {vs : Array Value} {ats : Array TypeId} (hk : b.kind ≠ .early) (ho : ops[i]? = some o) (hw : Region.wanted o (yielded ops a.tmps) = true) (hop : o.op = .call { callee := .value (.func f), args, argTypes := ats })
    (hf : P.funcs[f]? = some fd) (hname : (fd.name == "runtime.NumGoroutine") = false) (hb : fd.body = some c) (hargs : args.map a.eval = vs)
    (h : T P Stop (G ((base f).at { tmps := vs ++ Array.replicate (fd.ntmps - vs.size) undef, defers := [] } [.code c]) (b.at a (.inRegion ops (i :: rest) :: k) :: cs)) w) : T P Stop (G (b.at a (.inRegion ops (i :: rest) :: k)) cs) w := by
  have hb' : fd.body.isNone = false := by rw [hb]; rfl
  refine .ctl (g' := G (Frame.enter P f vs .normal) (b.at a (.inRegion ops (i :: rest) :: k) :: cs)) rfl (fun w => ?_) (by rw [enter_at vs hf hb]; exact h)
  rw [stepG_enter ho hw hk (run_call_body hop hf hname hb'), hargs]
  have : listed P b.fn a o w = #[] := by unfold listed; rw [events_call_body hop hf hname hb']; exact seen_none P _
  rw [this]

/-- THE GO STATEMENT: from here on the two are under way. -/
theorem T.fork {α : Type} {c : Nat} {Sh : Nat → Prop} {Phi : α → Value → (Nat → Prop) → World → Prop} {z : Value} {xs : List α} {f : FuncId} {cap : Array Value} {s : Nat} {tm : Bool} {M0 : Nat → Prop} (hPhi : Keeps Phi) (hk : b.kind ≠ .early) (ho : ops[i]? = some o) (hw : Region.wanted o (yielded ops a.tmps) = true)
    (hr : ∀ w₁, (execOp a.eval o).run P w₁ = .ok (.spawn { target := .fn (.func f) cap, args := #[] }) w₁) (he : ∀ w₁, (execOp a.eval o).events P w₁ #[] = #[]) (hch : w.heap[c]? = some (.chan 0 #[] false s s tm)) (hSh : ∀ k, Sh k → k < w.heap.size) (hc : ¬ Sh c) (hM0 : ∀ k, M0 k → k < w.heap.size ∧ k ≠ c ∧ ¬ Sh k) (ha : a.put o.dst undef = a')
    (hA : RcvF P c Sh Phi z Stop (some xs, M0) (G (b.at a' (.inRegion ops rest :: k)) cs) w) (hB : SndF P c Sh Phi (xs, fun _ => False) (born P { target := .fn (.func f) cap, args := #[] }) w) :
    T P Stop (G (b.at a (.inRegion ops (i :: rest) :: k)) cs) w := by
  refine T.jump (T P Stop) (fun w₂ h₂ => fork_reach (c := c) (Sh := Sh) (Phi := Phi) (z := z) (xs := xs) (M0 := M0) hPhi rfl fun w₁ h₁ => ?_) fun _ _ h => h
  have hre : Re w w₁ := h₂.trans h₁
  refine ⟨G (b.at a' (.inRegion ops rest :: k)) cs, born P { target := .fn (.func f) cap, args := #[] }, w₁, #[], s, tm, ?_, by simp, by rw [re_heap hre]; exact hch, by rw [re_heap hre]; exact hSh, hc, by rw [re_heap hre]; exact hM0, ?_, ?_⟩
  · rw [stepG_spawn ho hw hk (hr w₁) rfl]
    have : listed P b.fn a o w₁ = #[] := by unfold listed; rw [he]; exact seen_none P _
    rw [this, ha]
  · exact (fam_rcv (P := P) (c := c) (Sh := Sh) (Phi := Phi) (z := z) (Stop := Stop)).rely (M := (some xs, M0)) hA (Rl.of_re hre)
  · exact (fam_snd (P := P) (c := c) (Sh := Sh) hPhi).rely (M := (xs, fun _ => False)) hB (Rl.of_re hre)
end

end Go.Proofs.Ytjphaphnmclbcaa

/- The walk of goroutine 0 alone as a family of scripts; calls proved alone; from a function's body to the row's contract. No condition. -/
namespace Go.Proofs.Ytjphaphnmclbcaa
open Go Go.Conc Go.ConcN

/-- Goroutine 0, alone but for leavers. -/
def TF (P : Program) (Stop : Goroutine → World → Prop) (M : Gh Unit) (g : Goroutine) (w : World) : Prop := ∀ w₂, Rl (fun _ => True) M.2 w w₂ → T P Stop g w₂
/-- Nothing is borne along. -/
def M00 : Gh Unit := ((), fun _ => False)

/-- What is left as it is, but for the tape and the count of draws. -/
theorem rl_all {M : Nat → Prop} {w w₁ : World} (h : Rl (fun _ => True) M w w₁) : Re w w₁ := by
  obtain ⟨h1, h2, h3, h4⟩ := h
  have e : w₁.heap = w.heap := by
    apply Array.ext_getElem?
    intro k
    exact h4 k (.inl trivial)
  refine ⟨w₁.tape, w₁.drawn, ?_⟩
  obtain ⟨a, b, c, d, f⟩ := w₁
  simp only at e h1 h2
  subst e h1 h2
  rfl

section
variable {P : Program} {F : Nat → Bool} {Stop : Goroutine → World → Prop}

theorem fam_T : Fam P true (fun _ => True) (TF P Stop) := by
  refine ⟨fun {M g w} hs h k => fun w₂ h₂ => T.step hs (fun w₁ h₁ => ?_) fun w₁ g' w' es h₁ hst => ?_, fun {M g w w₁} h hr => fun w₂ h₂ => h w₂ (hr.trans h₂)⟩
  · obtain ⟨g', w', es, h3, h4⟩ := h w₁ (h₂.trans (Rl.of_re h₁))
    exact ⟨g', w', es, h3, fun e he => (h4.evs e he).hears⟩
  · exact k w₁ g' w' es (h₂.trans (Rl.of_re h₁)) hst w' (Rl.refl _ _ _)

/-- A call proved alone. -/
theorem callsC_lone (H : Plain P F) {f : FuncId} (hf : F f = true) {args : Array Value} {w : World} {R : Value → World → Prop} (h : ∀ w₁, Re w w₁ → Calls P f args w₁ (fun e w' => ∃ v, e = .returned v ∧ R v w')) :
    CallsC P (TF P Stop) f args w M00 (fun v w' M' => M' = M00 ∧ R v w') := by
  intro c cs hR w₂ h₂
  refine (callsT_lone (w := w) H hf h c cs Stop fun v w' hv => ?_).rely (rl_all h₂)
  exact hR v w' M00 ⟨rfl, hv⟩ w' (Rl.refl _ _ _)

/-- A call proved with goroutines. -/
theorem callsC_T {f : FuncId} {args : Array Value} {w : World} {R : Value → World → Prop} (h : ∀ (cf : Frame) (cs : List Frame), (∀ v w', R v w' → T P Stop (G (cf.finish v) cs) w') → T P Stop (G (Frame.enter P f args .normal) (cf :: cs)) w) :
    CallsC P (TF P Stop) f args w M00 (fun v w' M' => M' = M00 ∧ R v w') := by
  intro c cs hR w₂ h₂
  exact (h c cs fun v w' hv => hR v w' M00 ⟨rfl, hv⟩ w' (Rl.refl _ _ _)).rely (rl_all h₂)

/-- What the body of the outermost function must achieve. -/
def BodyL (P : Program) (fd : Func) (Post : Value → World → Prop) : Exit → Act → World → Gh Unit → Prop
  | .normal, a, w, _ | .ret, a, w, _ => a.defers = [] ∧ ∃ v, ResultsC P fd a.tmps v ∧ ∀ w₁, Re w w₁ → Post v w₁
  | _, _, _, _ => False

theorem leave_ends {f : FuncId} {fd : Func} {a : Act} {todo : List Item} {w : World} {v : Value} {b : Frame} (hb : b.fn = f) (hk : b.kind = .normal) (hf : P.funcs[f]? = some fd) (hd : a.defers = []) (hr : ResultsC P fd a.tmps v) (hin : P.inits.idxOf? f = none) :
    stepG P true (G { b.at a todo with mode := .returning } []) w = .ended (.done v) w #[] := by
  subst hb
  obtain ⟨h1, h2⟩ := hr w
  simp [G, stepG, unwind, doReturn, Frame.at, hd, hf, h1, h2, hk, hin, seen, GStep.after]

/-- FROM THE BODY TO ONE GOOD RUN. -/
theorem good_of_wpC {f : FuncId} {fd : Func} {c : Code} {args : Array Value} {W : World} {Post : Value → World → Prop} (hf : P.funcs[f]? = some fd) (hb : fd.body = some c) (hin : P.inits.idxOf? f = none)
    (h : ∀ Stop, WpC (TF P Stop) f c (BodyL P fd Post) { tmps := args ++ Array.replicate (fd.ntmps - args.size) undef, defers := [] } W M00) :
    ∃ N last o w' t', runNT P (N + 1) (solo (G (Frame.enter P f args .normal) []) W) #[] = (.ended o w', t') ∧ runN P N (solo (G (Frame.enter P f args .normal) []) W) = .next last ∧ step P last = .ended o w' ∧ Go.Conc.Good P Post last o w' t' := by
  refine good_of_T ?_
  rw [enter_at args hf hb]
  have hst : ∀ {a : Act} {todo : List Item} {w : World} {M : Gh Unit}, (a.defers = [] ∧ ∃ v, ResultsC P fd a.tmps v ∧ ∀ w₁, Re w w₁ → Post v w₁) → TF P (fun g w => ∀ w₁, Re w w₁ → AtFin P Post g w₁) M (G { (base f).at a todo with mode := .returning } []) w := by
    rintro a todo w M ⟨hd, v, hr, hp⟩ w₂ h₂
    refine .stop fun w₁ h₁ w₃ h₃ => ⟨rfl, v, #[], leave_ends rfl rfl hf hd hr hin, by simp, hp _ ((rl_all h₂).trans (h₁.trans h₃))⟩
  refine h (fun g w => ∀ w₁, Re w w₁ → AtFin P Post g w₁) (base f) [] [] rfl (by simp [base]) (fun e a w M q => ?_) W (Rl.refl _ _ _)
  cases e with
  | normal => exact (fam_T).ctl rfl (fun _ => stepG_end) (hst q)
  | ret => exact fun todo => hst q
  | exit id => exact q.elim
  | goto l => exact q.elim
  | panic ch => exact q.elim
  | outgrown => exact q.elim
end

/-- An array is read out of a row. -/
theorem opsC_cells {P : Program} {main : Bool} {ι : Type} {C : Gh ι → Goroutine → World → Prop} {fn : FuncId} {Q : Exit → Act → World → Gh ι → Prop} {a a' : Act} {w : World} {M : Gh ι} {ops : Array Oper} {i : Nat} {rest : List Nat} {o : Oper} (hS : Fam P main (fun _ => True) C)
    (ho : ops[i]? = some o) (hw : Region.wanted o (yielded ops a.tmps) = true) {ty : TypeId} {x : Operand} {ad : Addr} {vs : List Value} (hop : o.op = .load ty x) (hd : aggT P ty = true) (hi : (P.info? ty).map (·.size) = some vs.length) (hx : a.eval x = .pointer (some ad))
    (hc : ∀ j v, vs[j]? = some v → w.cell? (ad.add j) = some v) (ha : a.put o.dst (.agg vs.toArray) = a') (h : OpsC C fn ops rest Q a' w M) : OpsC C fn ops (i :: rest) Q a w M := by
  refine opsC_look hS ho hw (fun w₁ h₁ => ?_) (ha ▸ h)
  have hc' : ∀ j v, vs[j]? = some v → w₁.cell? (ad.add j) = some v := fun j v hj => (cell_eq (h₁.keep _ (.inl trivial))).trans (hc j v hj)
  have hl := run_loadCells_list (P := P) w₁ ad vs hc'
  obtain ⟨ti, hinf, hsz⟩ := Option.map_eq_some_iff.1 hi
  unfold execOp
  simp only [hop]
  refine ⟨?_, fun ev he => ?_⟩
  · simp [Instr.loadAt, Instr.sureAddr, hx, loadVar, isAgg_agg hd, sizeOf, typeInfo, hinf, hsz, hl]
  · simp [Instr.loadAt, Instr.sureAddr, hx, loadVar, isAgg_agg hd, sizeOf, typeInfo, hinf, hsz, loadCells] at he
    rcases events_loadCellsFrom_reads (P := P) _ _ _ _ _ _ ev he with h2 | ⟨ad', h2, h3⟩
    · simp at h2
    · exact evM_cell h2 (.inr ⟨trivial, h3⟩)

end Go.Proofs.Ytjphaphnmclbcaa

/- Goroutine 0 alone: which blocks are its own does not matter; the call of a function value. -/
namespace Go.Proofs.Ytjphaphnmclbcaa
open Go Go.Conc Go.ConcN Go.RowKit
variable {P : Program} {main : Bool} {Sh : Nat → Prop} {ι : Type} {C : Gh ι → Goroutine → World → Prop} {fn : FuncId} {a : Act} {w : World} {M : Gh ι} {Q : Exit → Act → World → Gh ι → Prop}

/-- The call of a function value. -/
theorem opsC_callV (hS : Fam P main Sh C) {ops : Array Oper} {i : Nat} {rest : List Nat} {o : Oper} {f : FuncId} {fd : Func} {x : Operand} {args : Array Operand} {vs : Array Value} {ats : Array TypeId} {R : Value → World → Gh ι → Prop} (ho : ops[i]? = some o) (hw : Region.wanted o (yielded ops a.tmps) = true)
    (hop : o.op = .call { callee := .value x, args, argTypes := ats }) (hx : a.eval x = .func (.func f) #[] #[]) (hf : P.funcs[f]? = some fd) (hname : (fd.name == "runtime.NumGoroutine") = false) (hb : fd.body.isNone = false) (hargs : args.map a.eval = vs) (hcall : CallsC P C f vs w M R)
    (h : ∀ v w' M', R v w' M' → OpsC C fn ops rest Q (a.put o.dst v) w' M') : OpsC C fn ops (i :: rest) Q a w M := by
  have h1 : ¬ fd.name = "runtime.NumGoroutine" := by simpa using hname
  have h2 : ¬ fd.body = none := by cases hx : fd.body <;> simp_all
  have hrun : ∀ w, (execOp a.eval o).run P w = .ok (.enter f vs) w := fun w => by
    unfold execOp
    simp [hop, resolve, Deferred.ofValue, invoke, callFunc, hf, h1, h2, hx, hargs]
  have hev : ∀ w es, (execOp a.eval o).events P w es = es := fun w es => by
    unfold execOp
    simp [hop, resolve, Deferred.ofValue, invoke, callFunc, hf, h1, h2, hx]
  intro b k cs hbf hk hc
  have hke : b.kind ≠ .early := hk
  refine hS.ctl (g' := G (Frame.enter P f vs .normal) (b.at a (.inRegion ops (i :: rest) :: k) :: cs)) rfl (fun w => ?_) ?_
  · rw [stepG_enter ho hw hke (hrun w)]
    have : listed P b.fn a o w = #[] := by unfold listed; rw [hev]; exact seen_none P _
    rw [this]
  · refine hcall _ cs fun v w' M' hv => ?_
    have := Frame.finish_at b a ops i rest k v
    rw [ho] at this
    rw [this]
    exact h v w' M' hv b k cs hbf hk hc

def Mall : Gh Unit := ((), fun _ => True)
variable {Stop : Goroutine → World → Prop} {QT : Exit → Act → World → Gh Unit → Prop}
theorem tf_M {M M1 : Gh Unit} {g : Goroutine} {w : World} (h : TF P Stop M1 g w) : TF P Stop M g w := fun w₂ hr => h w₂ ⟨hr.os, hr.output, hr.size, fun k _ => hr.keep k (.inl trivial)⟩
theorem opsC_M {M M1 : Gh Unit} {ops : Array Oper} {todo : List Nat} (h : OpsC (TF P Stop) fn ops todo QT a w M1) : OpsC (TF P Stop) fn ops todo QT a w M := fun b k cs hb hk hc => tf_M (h b k cs hb hk hc)
theorem wpC_M {M M1 : Gh Unit} {c : Code} (h : WpC (TF P Stop) fn c QT a w M1) : WpC (TF P Stop) fn c QT a w M := fun b k cs hb hk hc => tf_M (h b k cs hb hk hc)
theorem loopC_M {M M1 : Gh Unit} {c : Code} (h : LoopC (TF P Stop) fn c QT a w M1) : LoopC (TF P Stop) fn c QT a w M := fun b k cs hb hk hc => tf_M (h b k cs hb hk hc)

end Go.Proofs.Ytjphaphnmclbcaa

/- The functions of the program that are plain: no goroutine, no channel, no call of a function value. No condition. -/
namespace Go.Proofs.Ytjphaphnmclbcaa
open Go Go.Conc

/-- All but the laws and what starts, or calls what starts, goroutines. -/
def Fp (f : Nat) : Bool := decide (f < 113) && decide (16 < f) && !([93, 104, 105, 72, 35, 57, 23, 44, 54, 18, 63].contains f)

theorem fp_all : ((List.range 113).all fun f => !Fp f || (plainFn Try.prog Fp f && tmpRes Try.prog f)) = true := by kernel_rfl
theorem fp_ahead : Try.prog.follows .staticDataAhead = true := by kernel_rfl
theorem fp_ready : (Try.prog.funcs.all fun f => match f.body with | some c => (readies c).isEmpty | none => true) = true := by kernel_rfl

theorem plain_prog : Plain Try.prog Fp := by
  refine ⟨fun f hf => ?_, fp_ahead, fun g => ?_⟩
  · have hlt : f < 113 := by
      unfold Fp at hf
      simp only [Bool.and_eq_true, decide_eq_true_eq] at hf
      exact hf.1.1
    have := List.all_eq_true.1 fp_all f (List.mem_range.2 hlt)
    rw [hf] at this
    simpa using this
  · unfold Program.stepOf
    rw [Array.findIdx?_eq_none_iff]
    intro f hf
    have := Array.all_eq_true_iff_forall_mem.1 fp_ready f hf
    cases hb : f.body with
    | none => rfl
    | some c =>
      rw [hb] at this
      have h0 : readies c = [] := by simpa using this
      simp [h0]

end Go.Proofs.Ytjphaphnmclbcaa

/- The plain mathematics of orders: which lists of numbers are orders, and that there are finitely many of them, so that what is to be shown of all orders may be reckoned. No condition. -/
namespace Go.Proofs.Ytjphaphnmclbcaa

/-- The number at place k. -/
def el (xs : List Int) (k : Nat) : Int := xs.getD k 0

theorem el_lt {xs : List Int} {k : Nat} (h : k < xs.length) : el xs k = xs[k] := by simp [el, h]
theorem el_set_same {xs : List Int} {k : Nat} {v : Int} (h : k < xs.length) : el (xs.set k v) k = v := by simp [el, h]
theorem el_set_ne {xs : List Int} {j k : Nat} {v : Int} (h : k ≠ j) : el (xs.set k v) j = el xs j := by simp [el, List.getD, h]
theorem take_el {xs : List Int} {k : Nat} (h : k < xs.length) : xs.take (k + 1) = xs.take k ++ [el xs k] := by
  rw [List.take_succ_eq_append_getElem h, el_lt h]
theorem ext_el {xs ys : List Int} (h : xs.length = ys.length) (hj : ∀ j, j < xs.length → el xs j = el ys j) : xs = ys := by
  apply List.ext_getElem h
  intro j h1 h2
  have := hj j h1
  rwa [el_lt h1, el_lt h2] at this

/-- The numbers are an order: at most seven, each of 0, 1, .. once. -/
structure Valid (xs : List Int) : Prop where
  len : xs.length ≤ 7
  lo : ∀ j, j < xs.length → 0 ≤ el xs j
  hi : ∀ j, j < xs.length → el xs j < xs.length
  ne : ∀ i j, i < j → j < xs.length → el xs i ≠ el xs j

theorem valid_iff (xs : List Int) : Valid xs ↔ (xs.length ≤ 7 ∧ (∀ j, j < xs.length → 0 ≤ el xs j) ∧ (∀ j, j < xs.length → el xs j < xs.length) ∧ ∀ j, j < xs.length → ∀ i, i < j → el xs i ≠ el xs j) :=
  ⟨fun h => ⟨h.len, h.lo, h.hi, fun j hj i hij => h.ne i j hij hj⟩, fun h => ⟨h.1, h.2.1, h.2.2.1, fun i j hij hj => h.2.2.2 j hj i hij⟩⟩
instance (xs : List Int) : Decidable (Valid xs) := decidable_of_iff _ (valid_iff xs).symm

/-- Lists of equal length, place by place: what the walks learn, step by step. -/
theorem upto_step {P : Nat → Prop} {k : Nat} (h : ∀ j, j < k → P j) (hk : P k) : ∀ j, j < k + 1 → P j := fun j hj => by
  by_cases e : j = k
  · rw [e]; exact hk
  · exact h j (by omega)
theorem not_ne {a b : Int} (h : (a == b) = true) : a = b := by simpa using h
theorem is_ne {a b : Int} (h : (a == b) = false) : a ≠ b := by simpa using h
theorem nn_ne {a b : Int} (h : (a != b) = true) : a ≠ b := by simpa using h
theorem nn_eq {a b : Int} (h : (a != b) = false) : a = b := by simpa using h

def rng : Nat → List Int
  | 0 => []
  | n + 1 => rng n ++ [(n : Int)]

/-- All lists that take f of the numbers av, each once. -/
def perms : Nat → List Int → List (List Int)
  | 0, _ => [[]]
  | f + 1, av => av.flatMap fun x => (perms f (av.erase x)).map (x :: ·)

/-- All orders of n values. -/
def orders (n : Nat) : List (List Int) := perms n (rng n)

/-- All orders of at most seven values. -/
def allUpTo (m : Nat) : List (List Int) := (List.range (m + 1)).flatMap orders

theorem mem_rng (n : Nat) (x : Int) : x ∈ rng n ↔ 0 ≤ x ∧ x < n := by
  induction n with
  | zero => simp [rng]
  | succ n ih => simp [rng, ih]; omega

theorem mem_perms : ∀ (xs av : List Int), (∀ x ∈ xs, x ∈ av) → xs.Nodup → xs ∈ perms xs.length av := by
  intro xs
  induction xs with
  | nil => intro av _ _; simp [perms]
  | cons x xs ih =>
    intro av hsub hnd
    rw [List.length_cons]
    simp only [perms, List.mem_flatMap, List.mem_map]
    rw [List.nodup_cons] at hnd
    refine ⟨x, hsub x (by simp), xs, ih _ ?_ hnd.2, rfl⟩
    intro y hy
    have hyx : y ≠ x := fun e => hnd.1 (e ▸ hy)
    exact (List.mem_erase_of_ne hyx).2 (hsub y (by simp [hy]))

theorem Valid.nodup {xs : List Int} (h : Valid xs) : xs.Nodup := by
  rw [List.nodup_iff_pairwise_ne, List.pairwise_iff_getElem]
  intro i j hi hj hij
  have := h.ne i j hij hj
  rwa [el_lt hi, el_lt hj] at this

theorem Valid.mem {xs : List Int} (h : Valid xs) {x : Int} (hx : x ∈ xs) : 0 ≤ x ∧ x < xs.length := by
  obtain ⟨j, hj, rfl⟩ := List.mem_iff_getElem.1 hx
  have h1 := h.lo j hj
  have h2 := h.hi j hj
  rw [el_lt hj] at h1 h2
  exact ⟨h1, h2⟩

theorem Valid.in_orders {xs : List Int} (h : Valid xs) : xs ∈ orders xs.length :=
  mem_perms xs _ (fun _ hx => (mem_rng _ _).2 (h.mem hx)) h.nodup

theorem Valid.in_all {xs : List Int} (h : Valid xs) : xs ∈ allUpTo 7 := by
  unfold allUpTo
  rw [List.mem_flatMap]
  exact ⟨xs.length, by have := h.len; simp; omega, h.in_orders⟩

/-- What a reckoning shows of every order holds of every order. -/
theorem Valid.all {xs : List Int} (h : Valid xs) {p : List Int → Bool} (hp : (allUpTo 7).all p = true) : p xs = true :=
  List.all_eq_true.1 hp xs h.in_all

theorem Valid.all' {xs : List Int} (h : Valid xs) {m : Nat} (hm : xs.length ≤ m) {p : List Int → Bool} (hp : (allUpTo m).all p = true) : p xs = true := by
  refine List.all_eq_true.1 hp xs ?_
  unfold allUpTo
  rw [List.mem_flatMap]
  exact ⟨xs.length, by simp; omega, h.in_orders⟩

theorem count_take {xs : List Int} {k : Nat} (h : k < xs.length) (v : Int) : (xs.take (k + 1)).count v = (xs.take k).count v + if el xs k = v then 1 else 0 := by
  rw [take_el h, List.count_append, List.count_singleton]
  simp

theorem count_two {xs : List Int} {i j : Nat} (hij : i < j) (hj : j < xs.length) (h : el xs i = el xs j) : 2 ≤ xs.count (el xs j) := by
  have h1 : xs.count (el xs j) = (xs.take j).count (el xs j) + (xs.drop j).count (el xs j) := by rw [← List.count_append, List.take_append_drop]
  have h2 : 0 < (xs.take j).count (el xs j) := by
    rw [List.count_pos_iff, ← h, el_lt (by omega)]
    exact List.mem_take_iff_getElem.2 ⟨i, by omega, rfl⟩
  have h3 : 0 < (xs.drop j).count (el xs j) := by
    rw [List.count_pos_iff, el_lt hj]
    exact List.mem_drop_iff_getElem.2 ⟨0, by simpa using hj, rfl⟩
  omega

/-- State a after k steps. -/
def iter {α : Type} (f : α → Nat → α) (a : α) : Nat → α
  | 0 => a
  | k + 1 => f (iter f a k) k

theorem iter_len {f : List Int → Nat → List Int} (hf : ∀ a k, (f a k).length = a.length) (a : List Int) (k : Nat) : (iter f a k).length = a.length := by
  induction k with
  | zero => rfl
  | succ k ih => rw [iter, hf, ih]

theorem iter_app {g : Nat → Int} (n : Nat) : iter (fun a k => a ++ [g k]) [] n = (List.range n).map g := by
  induction n with
  | zero => rfl
  | succ n ih => rw [iter, ih, List.range_succ, List.map_append]; rfl

theorem map_range_len {g : Nat → Int} (n : Nat) : ((List.range n).map g).length = n := by simp
theorem el_map {g : Nat → Int} {n j : Nat} (h : j < n) : el ((List.range n).map g) j = g j := by simp [el, h]

theorem iter_set {g : Nat → Int} (n : Nat) : iter (fun a k => a.set k (g k)) (List.replicate n 0) n = (List.range n).map g := by
  have key : ∀ k, k ≤ n → (iter (fun a k => a.set k (g k)) (List.replicate n 0) k).length = n ∧ ∀ j, j < k → el (iter (fun a k => a.set k (g k)) (List.replicate n 0) k) j = g j := by
    intro k
    induction k with
    | zero => intro _; exact ⟨by simp [iter], fun j hj => by omega⟩
    | succ k ih =>
      intro hk
      obtain ⟨h1, h2⟩ := ih (by omega)
      refine ⟨by simp [iter, h1], fun j hj => ?_⟩
      rw [iter]
      by_cases e : j = k
      · rw [e, el_set_same (by rw [h1]; omega)]
      · rw [el_set_ne (by omega), h2 j (by omega)]
  refine ext_el (by rw [(key n (Nat.le_refl _)).1]; simp) (fun j hj => ?_)
  rw [(key n (Nat.le_refl _)).1] at hj
  rw [(key n (Nat.le_refl _)).2 j hj, el_map hj]

end Go.Proofs.Ytjphaphnmclbcaa

/- Words for what the walks say of memory: a slice of numbers that is read, a slice that a call has made, and how both fare in later worlds. No condition. -/
namespace Go.Proofs.Ytjphaphnmclbcaa
open Go.RowKit

/-- The slice value with address ao, length n and capacity cap reads as the numbers xs. -/
structure Sl (w : World) (ao : Option Addr) (n cap : Nat) (xs : List Int) : Prop where
  len : xs.length = n
  le : n ≤ cap
  max : cap ≤ maxLen
  row : 0 < n → ∃ b off, ao = some ⟨b, off, none⟩ ∧ b < w.heap.size ∧ ∀ j, j < n → w.cell? ⟨b, off + j, none⟩ = some (.int .i64 (el xs j))

/-- What a call has made: the slice value u owns the numbers ys, in a block from B on. -/
def Own (w : World) (B : Nat) (u : Value) (ys : List Int) : Prop := w.ownsRow B 3 1 u ys.length (ys.map (Value.int .i64))

/-- The same with its place known: block g, length n, capacity cap. -/
def OwS (w : World) (B g n cap : Nat) (ys : List Int) : Prop := w.ownsRow B 3 1 (.slice (some ⟨g, 0, none⟩) n cap) n (ys.map (Value.int .i64))

theorem OwS.len {w : World} {B g n cap : Nat} {ys : List Int} (h : OwS w B g n cap ys) : ys.length = n := by
  have := h.1
  simpa using this

theorem OwS.own {w : World} {B g n cap : Nat} {ys : List Int} (h : OwS w B g n cap ys) : Own w B (.slice (some ⟨g, 0, none⟩) n cap) ys := by
  have := h.len
  subst this
  exact h

theorem OwS.cell {w : World} {B g n cap : Nat} {ys : List Int} (h : OwS w B g n cap ys) {j : Nat} (hj : j < n) : w.cell? ⟨g, j, none⟩ = some (.int .i64 (el ys j)) := by
  have h1 := World.ownsRow.cellAt h j (by omega)
  rw [h1]
  have := h.len
  simp [el, show j < ys.length by omega]

theorem OwS.frozen {w : World} {B g n cap : Nat} {ys : List Int} (h : OwS w B g n cap ys) (j : Nat) : w.frozen? ⟨g, j, none⟩ = false := World.ownsRow.frozenAt h j

theorem OwS.set {w : World} {B g n cap : Nat} {ys : List Int} (h : OwS w B g n cap ys) (j : Nat) (v : Int) : OwS (w.setCell ⟨g, j, none⟩ (.int .i64 v)) B g n cap (ys.set j v) := by
  have := (World.ownsRow.stored h j (.int .i64 v)).1
  rwa [← List.map_set] at this

theorem OwS.lt {w : World} {B g n cap : Nat} {ys : List Int} (h : OwS w B g n cap ys) : B ≤ g ∧ g < w.heap.size := World.ownsRow.lt h g rfl

theorem OwS.sl {w : World} {B g n cap : Nat} {ys : List Int} (h : OwS w B g n cap ys) : Sl w (some ⟨g, 0, none⟩) n cap ys := by
  have h0 := h
  rcases h.2 with ⟨h1, _⟩ | ⟨g', cap', cur, hv, hB, hg, h1, h2, h3, h4⟩
  · simp at h1
  · simp only [Value.slice.injEq, Option.some.injEq, Addr.mk.injEq, and_true, true_and] at hv
    obtain ⟨rfl, rfl⟩ := hv
    exact ⟨h.len, h1, h2, fun _ => ⟨g, 0, rfl, h0.lt.2, fun j hj => by rw [Nat.zero_add]; exact h0.cell hj⟩⟩

theorem OwS.drewN {w : World} {B g n cap : Nat} {ys : List Int} (h : OwS w B g n cap ys) (m : Nat) : OwS (w.drewN m) B g n cap ys := h

/-- A store into another block. -/
theorem OwS.other {w : World} {B g n cap : Nat} {ys : List Int} (h : OwS w B g n cap ys) {a : Addr} (ha : a.block ≠ g) (v : Value) : OwS (w.setCell a v) B g n cap ys := by
  refine ⟨h.1, ?_⟩
  rcases h.2 with ⟨h1, _⟩ | ⟨g', cap', cur, hv, hB, hg, r⟩
  · simp at h1
  · have : g' = g := by simp at hv; omega
    subst this
    exact Or.inr ⟨g', cap', cur, hv, hB, by rw [Below.heap_setCell _ _ _ _ (by omega)]; exact hg, r⟩

theorem Sl.later {w w' : World} {ao : Option Addr} {n cap : Nat} {xs : List Int} (h : Sl w ao n cap xs) (hb : Below w.heap.size w w') : Sl w' ao n cap xs := by
  refine ⟨h.len, h.le, h.max, fun hn => ?_⟩
  obtain ⟨b, off, rfl, hlt, hc⟩ := h.row hn
  exact ⟨b, off, rfl, Nat.lt_of_lt_of_le hlt hb.size, fun j hj => (hb.cell hlt).trans (hc j hj)⟩

theorem Sl.below {B : Nat} {w w' : World} {ao : Option Addr} {n cap : Nat} {xs : List Int} (h : Sl w ao n cap xs) (hB : w.heap.size ≤ B) (hb : Below B w w') : Sl w' ao n cap xs := h.later (hb.mono hB)

theorem Sl.nil {w : World} : Sl w none 0 0 [] := ⟨rfl, Nat.le_refl _, Nat.zero_le _, fun h => by omega⟩

theorem Sl.big {w : World} {ao : Option Addr} {n cap : Nat} {xs : List Int} (h : Sl w ao n cap xs) : n ≤ 9223372036854775807 := by
  have := h.le
  have := h.max
  unfold maxLen at this
  omega

theorem Own.place {w : World} {B : Nat} {u : Value} {ys : List Int} (h : Own w B u ys) : (u = .slice none 0 0 ∧ ys = []) ∨ ∃ g cap, u = .slice (some ⟨g, 0, none⟩) ys.length cap ∧ OwS w B g ys.length cap ys := by
  have h0 := h
  rcases h.2 with ⟨rfl, h2⟩ | ⟨g, cap, cur, rfl, hB, hg, h1, h2, h3, h4⟩
  · exact Or.inl ⟨rfl, List.eq_nil_of_length_eq_zero h2⟩
  · exact Or.inr ⟨g, cap, rfl, h0⟩

theorem Own.sl {w : World} {B : Nat} {u : Value} {ys : List Int} (h : Own w B u ys) : ∃ ao cap, u = .slice ao ys.length cap ∧ Sl w ao ys.length cap ys := by
  rcases h.place with ⟨rfl, rfl⟩ | ⟨g, cap, rfl, h1⟩
  · exact ⟨none, 0, rfl, Sl.nil⟩
  · exact ⟨_, cap, rfl, h1.sl⟩

theorem Own.read {w : World} {B : Nat} {ao : Option Addr} {n cap : Nat} {ys : List Int} (h : Own w B (.slice ao n cap) ys) : Sl w ao n cap ys := by
  rcases h.place with ⟨e, rfl⟩ | ⟨g, cap', e, h1⟩
  · simp only [Value.slice.injEq] at e
    obtain ⟨rfl, rfl, rfl⟩ := e
    exact Sl.nil
  · simp only [Value.slice.injEq] at e
    obtain ⟨rfl, rfl, rfl⟩ := e
    exact h1.sl

theorem Own.nilcap {w : World} {B : Nat} {ao : Option Addr} {n cap : Nat} {ys : List Int} (h : Own w B (.slice ao n cap) ys) : ao = none → cap = 0 := by
  rintro rfl
  rcases h.place with ⟨e, rfl⟩ | ⟨g, cap', e, h1⟩
  · simp only [Value.slice.injEq] at e
    exact e.2.2
  · simp at e

theorem Own.below {B B' : Nat} {w w' : World} {u : Value} {ys : List Int} (h : Own w B u ys) (hB : w.heap.size ≤ B') (hb : Below B' w w') : Own w' B u ys := by
  refine ⟨h.1, ?_⟩
  rcases h.2 with h2 | ⟨g, cap, cur, hv, hg, hh, r⟩
  · exact Or.inl h2
  · exact Or.inr ⟨g, cap, cur, hv, hg, (hb.block g (Nat.lt_of_lt_of_le (Array.getElem?_eq_some_iff.1 hh).1 hB)).trans hh, r⟩

theorem Own.mono {B B' : Nat} {w : World} {u : Value} {ys : List Int} (h : Own w B u ys) (hB : B' ≤ B) : Own w B' u ys := by
  refine ⟨h.1, ?_⟩
  rcases h.2 with h2 | ⟨g, cap, cur, hv, hg, r⟩
  · exact Or.inl h2
  · exact Or.inr ⟨g, cap, cur, hv, Nat.le_trans hB hg, r⟩

theorem Own.drewN {w : World} {B : Nat} {u : Value} {ys : List Int} (h : Own w B u ys) (m : Nat) : Own (w.drewN m) B u ys := h

theorem Own.nil {w : World} {B : Nat} : Own w B (.slice none 0 0) [] := World.ownsRow_nil _ _ _ _

theorem drewN_below {B : Nat} {a w : World} (h : Below B a w) (m : Nat) : Below B a (w.drewN m) := ⟨h.os, h.tape, h.output, h.size, h.block⟩

theorem grown_trans {a b c : World} {row : Option Nat} (h : a.grownBy b row) (k : b.grownBy c row) : a.grownBy c row :=
  ⟨k.os.trans h.os, k.tape.trans h.tape, k.output.trans h.output, Nat.le_trans h.size k.size, fun i hi hr => (k.block i (Nat.lt_of_lt_of_le hi h.size) hr).trans (h.block i hi hr)⟩
theorem grown_set {w : World} {g j : Nat} {v : Value} : w.grownBy (w.setCell ⟨g, j, none⟩ v) (some g) :=
  ⟨rfl, rfl, rfl, by simp [World.setCell], fun k _ hk => Below.heap_setCell _ _ _ _ (fun e => hk (by rw [e]))⟩
theorem grown_drewN {a b : World} {row : Option Nat} (h : a.grownBy b row) (m : Nat) : a.grownBy (b.drewN m) row := ⟨h.os, h.tape, h.output, h.size, h.block⟩
theorem below_of_grown {w w' : World} {row : Option Nat} {B : Nat} (h : w.grownBy w' row) (hB : B ≤ w.heap.size) (hr : ∀ k, row = some k → B ≤ k) : Below B w w' :=
  (Below.refl B w).grown h hB hr
theorem Own.kept {w w' : World} {B : Nat} {u : Value} {ys : List Int} {row : Option Nat} (h : Own w B u ys) (hg : w.grownBy w' row) (hne : u.ownBlock = none ∨ u.ownBlock ≠ row) : Own w' B u ys := World.ownsRow.kept h hg hne
theorem Own.blocks {w : World} {B : Nat} {u : Value} {ys : List Int} (h : Own w B u ys) : ∀ k, u.ownBlock = some k → B ≤ k ∧ k < w.heap.size := World.ownsRow.lt h

/-- What two calls have made lies apart. -/
theorem Own.apart {w1 w2 : World} {B1 B2 : Nat} {u1 u2 : Value} {y1 y2 : List Int} (h1 : Own w1 B1 u1 y1) (h2 : Own w2 B2 u2 y2) (hB : w1.heap.size ≤ B2) : u1.ownBlock = none ∨ u1.ownBlock ≠ u2.ownBlock := by
  cases e : u1.ownBlock with
  | none => exact Or.inl rfl
  | some k =>
    refine Or.inr (fun e2 => ?_)
    have := (h1.blocks k e).2
    have := (h2.blocks k e2.symm).1
    omega
theorem Own.apart' {w1 w2 : World} {B1 B2 : Nat} {u1 u2 : Value} {y1 y2 : List Int} (h1 : Own w1 B1 u1 y1) (h2 : Own w2 B2 u2 y2) (hB : w2.heap.size ≤ B1) : u1.ownBlock = none ∨ u1.ownBlock ≠ u2.ownBlock := by
  cases e : u1.ownBlock with
  | none => exact Or.inl rfl
  | some k =>
    refine Or.inr (fun e2 => ?_)
    have := (h1.blocks k e).1
    have := (h2.blocks k e2.symm).2
    omega

/-- k, k + 1, .. : n numbers. -/
def marks (k : Int) (n : Nat) : List Int := (List.range n).map fun i => k + (i : Nat)
theorem marks_len (k : Int) (n : Nat) : (marks k n).length = n := by simp [marks]
theorem el_marks {k : Int} {n j : Nat} (h : j < n) : el (marks k n) j = k + j := by simp [marks, el, h]
theorem marks_ext {xs : List Int} {k : Int} {n : Nat} (h : xs.length = n) (hj : ∀ j, j < n → el xs j = k + j) : xs = marks k n :=
  ext_el (by rw [h, marks_len]) (fun j hl => by rw [hj j (by omega), el_marks (by omega)])

/-- A call made a slice of the numbers ys, and turned nothing that was there. -/
def Made (w : World) (ys : List Int) (e : Ending) (w' : World) : Prop := ∃ u, e = .returned u ∧ Own w' w.heap.size u ys ∧ Below w.heap.size w w'

/-- A call made a slice of the numbers ys, said b beside it, and turned nothing that was there. -/
def Made2 (w : World) (ys : List Int) (b : Bool) (e : Ending) (w' : World) : Prop := ∃ u, e = .returned (.tuple #[u, .bool b]) ∧ Own w' w.heap.size u ys ∧ Below w.heap.size w w'

/-- A call answered v, and turned nothing that was there. -/
def Says (w : World) (v : Value) (e : Ending) (w' : World) : Prop := e = .returned v ∧ Below w.heap.size w w'

theorem made2_yes {p : Prop} [Decidable p] {w w' : World} {ys : List Int} {u : Value} (h : p) (ho : Own w' w.heap.size u ys) (hb : Below w.heap.size w w') : Made2 w ys (decide p) (.returned (.tuple #[u, .bool true])) w' :=
  ⟨u, by rw [decide_eq_true h], ho, hb⟩
theorem made2_no {p : Prop} [Decidable p] {w w' : World} {ys : List Int} (h : ¬ p) (hy : ys = []) (hb : Below w.heap.size w w') : Made2 w ys (decide p) (.returned (.tuple #[.slice none 0 0, .bool false])) w' :=
  ⟨_, by rw [decide_eq_false h], by rw [hy]; exact Own.nil, hb⟩
theorem says_to {P : Program} {f : FuncId} {a : Array Value} {w : World} {v v' : Int} (h : Calls P f a w (Says w (.int .i64 v))) (e : v = v') : Calls P f a w (Says w (.int .i64 v')) := e ▸ h
theorem says_tob {P : Program} {f : FuncId} {a : Array Value} {w : World} {v v' : Bool} (h : Calls P f a w (Says w (.bool v))) (e : v = v') : Calls P f a w (Says w (.bool v')) := e ▸ h
theorem made_to {P : Program} {f : FuncId} {a : Array Value} {w : World} {v v' : List Int} (h : Calls P f a w (Made w v)) (e : v = v') : Calls P f a w (Made w v') := e ▸ h
theorem says_true {p : Prop} [Decidable p] {w w' : World} (h : p) (hb : Below w.heap.size w w') : Says w (.bool (decide p)) (.returned (.bool true)) w' := ⟨by rw [decide_eq_true h], hb⟩
theorem says_false {p : Prop} [Decidable p] {w w' : World} (h : ¬ p) (hb : Below w.heap.size w w') : Says w (.bool (decide p)) (.returned (.bool false)) w' := ⟨by rw [decide_eq_false h], hb⟩
theorem says_bool {w w' : World} {a b : Bool} (h : a = b) (hb : Below w.heap.size w w') : Says w (.bool b) (.returned (.bool a)) w' := ⟨by rw [h], hb⟩
theorem says_str {w w' : World} {a b : ByteArray} (h : a = b) (hb : Below w.heap.size w w') : Says w (.string b) (.returned (.string a)) w' := ⟨by rw [h], hb⟩
theorem says_int {w w' : World} {a b : Int} (h : a = b) (hb : Below w.heap.size w w') : Says w (.int .i64 b) (.returned (.int .i64 a)) w' := ⟨by rw [h], hb⟩
theorem hid {p : Prop} (h : p) : Hid p := h

theorem ret_eq {a b : Value} (h : a = b) : Ending.returned a = .returned b := by rw [h]

/-- The length of the slice in a slot: for a loop's measure. -/
def lenOf : Value → Nat | .slice _ n _ => n | _ => 0

/-- What was appended to is the call's own. -/
theorem below_app {w wr w' : World} {u : Value} {ys : List Int} (hb : Below w.heap.size w wr) (ho : Own wr w.heap.size u ys) (hg : wr.grownBy w' u.ownBlock) : Below w.heap.size w w' :=
  hb.grown hg hb.size (fun k hk => (ho.blocks k hk).1)

/-- Block g is an array that holds the numbers fs. -/
def Arr (w : World) (g T : Nat) (fs : List Int) : Prop := w.heap[g]? = some (.cells (fs.map (Value.int .i64)).toArray T (0, 0))

theorem Arr.lt {w : World} {g T : Nat} {fs : List Int} (h : Arr w g T fs) : g < w.heap.size := (Array.getElem?_eq_some_iff.1 h).1
theorem Arr.cell {w : World} {g T : Nat} {fs : List Int} (h : Arr w g T fs) {j : Nat} (hj : j < fs.length) : w.cell? ⟨g, j, none⟩ = some (.int .i64 (el fs j)) := by
  rw [cell_of_row w g j _ T (0, 0) h]
  simp [el, hj]
theorem Arr.frozen {w : World} {g T : Nat} {fs : List Int} (h : Arr w g T fs) (j : Nat) : w.frozen? ⟨g, j, none⟩ = false := frozen_of_row w g j _ T h
theorem Arr.set {w : World} {g T : Nat} {fs : List Int} (h : Arr w g T fs) (j : Nat) (v : Int) : Arr (w.setCell ⟨g, j, none⟩ (.int .i64 v)) g T (fs.set j v) := by
  have := heap_setCell_same w g j _ T (.int .i64 v) h
  rw [Arr, this]
  simp [List.map_set]
theorem Arr.other {w : World} {g T : Nat} {fs : List Int} (h : Arr w g T fs) {a : Addr} (ha : a.block ≠ g) (v : Value) : Arr (w.setCell a v) g T fs := by
  rw [Arr, Below.heap_setCell _ _ _ _ (by omega)]; exact h
theorem Arr.drewN {w : World} {g T : Nat} {fs : List Int} (h : Arr w g T fs) (m : Nat) : Arr (w.drewN m) g T fs := h
theorem Arr.below {B : Nat} {w w' : World} {g T : Nat} {fs : List Int} (h : Arr w g T fs) (hg : g < B) (hb : Below B w w') : Arr w' g T fs := (hb.block g hg).trans h
theorem Arr.alloc {w : World} {g T : Nat} {fs : List Int} (h : Arr w g T fs) (o : Obj) : Arr (w.alloc o) g T fs := (Below.heap_alloc w o g h.lt).trans h
theorem Arr.made (w : World) (T : Nat) (fs : List Int) : Arr (w.alloc (.cells (fs.map (Value.int .i64)).toArray T)) w.heap.size T fs := heap_alloc_new w _

section
variable {P : Program} (w : World)
theorem run_items (d e : Nat) (xs ys : List Int) (he : P.underlying e = some (.int .i64)) (is : List Nat) (hx : ∀ i ∈ is, i < xs.length) (hy : ∀ i ∈ is, i < ys.length) :
    (Op.eqItems (d + 1) e 1 (xs.map (Value.int .i64)).toArray (ys.map (Value.int .i64)).toArray is).run P w = .ok (is.all fun i => el xs i == el ys i) w := by
  induction is with
  | nil => simp [Op.eqItems]
  | cons i is ih =>
    have hxi := hx i (by simp)
    have hyi := hy i (by simp)
    have px : (part e (xs.map (Value.int .i64)).toArray (i * 1)).run P w = .ok (.int .i64 (el xs i)) w := by
      simp [part, isAgg, run_underlying he, el, hxi]
    have py : (part e (ys.map (Value.int .i64)).toArray (i * 1)).run P w = .ok (.int .i64 (el ys i)) w := by
      simp [part, isAgg, run_underlying he, el, hyi]
    have pe := run_equalIn_int (P := P) w d e .i64 .i64 (el xs i) (el ys i) he
    simp only [Op.eqItems, Sem.run_bind, px, py, pe, Result.andThen_ok, List.all_cons]
    cases hb : (el xs i == el ys i)
    · simp
    · simp only [Bool.not_true, Bool.false_eq_true, if_false, Bool.true_and]
      exact ih (fun j hj => hx j (by simp [hj])) (fun j hj => hy j (by simp [hj]))

theorem run_eql_arr (t e n : Nat) {i : TypeInfo} (xs ys : List Int) (hu : P.underlying t = some (.array n e)) (hi : P.info? e = some i) (hc : P.cellsOf e = 1) (he : P.underlying e = some (.int .i64)) (hx : xs.length = n) (hy : ys.length = n) :
    (binOp .eql t (.agg (xs.map (Value.int .i64)).toArray) (.agg (ys.map (Value.int .i64)).toArray)).run P w = .ok (.bool (decide (xs = ys))) w := by
  rw [run_eql_struct, run_equalIn_array w 9999 _ _ hu hi, hc, run_items w 9998 e xs ys he _ (fun i hi => by have := List.mem_range.1 hi; omega) (fun i hi => by have := List.mem_range.1 hi; omega)]
  simp only [Result.andThen_ok]
  congr 2
  rw [Bool.eq_iff_iff, List.all_eq_true, decide_eq_true_iff]
  constructor
  · intro h
    exact ext_el (by omega) (fun j hj => by have := h j (by simp; omega); simpa using this)
  · intro h i _
    simp [h]
end

end Go.Proofs.Ytjphaphnmclbcaa

