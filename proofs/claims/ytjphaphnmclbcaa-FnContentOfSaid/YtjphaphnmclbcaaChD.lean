/- Which operations, pieces of code and stacks of frames are plain: their steps are the goroutine's own, hang on the answers drawn alone, and make nobody deaf. No condition. -/
import Derived.Test.YtjphaphnmclbcaaChC
namespace Go.Proofs.Ytjphaphnmclbcaa
open Go Go.Conc

/-- What it ends in satisfies Q. -/
def Leaf {α : Type} (Q : α → Prop) : Sem α → Prop
  | .pure a => Q a
  | .load _ _ k => ∀ v, Leaf Q (k v)
  | .store _ _ _ k => Leaf Q k
  | .new _ k => ∀ r, Leaf Q (k r)
  | .shape _ k => ∀ s, Leaf Q (k s)
  | .freeze _ _ k => Leaf Q k
  | .frozen _ k => ∀ b, Leaf Q (k b)
  | .getObj _ k => ∀ o, Leaf Q (k o)
  | .setObj _ _ k => Leaf Q k
  | .choose _ k => ∀ n, Leaf Q (k n)
  | .sys _ k => ∀ r, Leaf Q (k r)
  | .program k => ∀ p, Leaf Q (k p)
  | .mark _ k => Leaf Q k
  | .halt _ => True

theorem leaf_bind {α β : Type} {Q : β → Prop} (x : Sem α) {f : α → Sem β} (hf : ∀ a, Leaf Q (f a)) : Leaf Q (x >>= f) := by
  show Leaf Q (x.bind f)
  induction x with
  | pure a => exact hf a
  | load m a k ih => exact fun v => ih v
  | store m a v k ih => exact ih
  | new o k ih => exact fun v => ih v
  | shape r k ih => exact fun v => ih v
  | freeze a n k ih => exact ih
  | frozen a k ih => exact fun v => ih v
  | getObj r k ih => exact fun v => ih v
  | setObj r o k ih => exact ih
  | choose q k ih => exact fun v => ih v
  | sys c k ih => exact fun v => ih v
  | program k ih => exact fun v => ih v
  | mark m k ih => exact ih
  | halt h => trivial

theorem store_runT {α : Type} {P : Program} {m : Mode} {a : Addr} {v : Value} {k : Sem α} (hv : ¬((∃ c, v = .agg c) ∨ ∃ c, v = .tuple c)) (w : World) (es : Array Event) : (Sem.store m a v k).runT P w es = match w.cell? a with
    | some _ =>
      if w.frozen? a then (.halt (.unsupported (.unsafePointer "a write to bytes that a string shares")) w, es)
      else k.runT P (w.setCell a v) (es.push ⟨.cell a, true, m == .atomic⟩)
    | none => match w.farStore P a v (m == .atomic) with
      | .ok (w, touched) => k.runT P w (es ++ touched.toArray.map (⟨.cell ·, true, m == .atomic⟩))
      | .error h => (.halt h w, es) := by
  cases v <;> first | rfl | exact absurd (.inl ⟨_, rfl⟩) hv | exact absurd (.inr ⟨_, rfl⟩) hv

theorem leaf_ok {α : Type} {Q : α → Prop} (P : Program) {s : Sem α} (hs : Leaf Q s) : ∀ (w : World) (es : Array Event) (a : α) (w' : World), (s.runT P w es).1 = .ok a w' → Q a := by
  induction s with
  | pure a => intro w es b w' h; simp only [Sem.runT, Result.ok.injEq] at h; exact h.1 ▸ hs
  | load m a k ih =>
    intro w es b w' h
    simp only [Sem.runT] at h
    split at h
    · exact ih _ (hs _) _ _ _ _ h
    · split at h
      · exact ih _ (hs _) _ _ _ _ h
      · cases h
  | store m a v k ih =>
    intro w es b w' h
    by_cases hv : (∃ c, v = .agg c) ∨ ∃ c, v = .tuple c
    · rcases hv with ⟨c, rfl⟩ | ⟨c, rfl⟩ <;> simp only [Sem.runT] at h <;> cases h
    · rw [store_runT hv] at h
      split at h
      · split at h
        · cases h
        · exact ih hs _ _ _ _ h
      · split at h
        · exact ih hs _ _ _ _ h
        · cases h
  | new o k ih => exact fun w es b w' h => ih _ (hs _) _ _ _ _ h
  | shape r k ih => exact fun w es b w' h => ih _ (hs _) _ _ _ _ h
  | freeze a n k ih => exact fun w es b w' h => ih hs _ _ _ _ h
  | frozen a k ih => exact fun w es b w' h => ih _ (hs _) _ _ _ _ h
  | getObj r k ih =>
    intro w es b w' h
    simp only [Sem.runT] at h
    split at h
    · cases h
    · exact ih _ (hs _) _ _ _ _ h
    · cases h
  | setObj r o k ih =>
    intro w es b w' h
    simp only [Sem.runT] at h
    split at h
    · cases h
    · exact ih hs _ _ _ _ h
    · cases h
  | choose q k ih =>
    intro w es b w' h
    simp only [Sem.runT] at h
    split at h
    · exact ih _ (hs _) _ _ _ _ h
    · exact ih _ (hs _) _ _ _ _ h
  | sys c k ih => exact fun w es b w' h => ih _ (hs _) _ _ _ _ h
  | program k ih => exact fun w es b w' h => ih _ (hs _) _ _ _ _ h
  | mark m k ih => exact fun w es b w' h => ih hs _ _ _ _ h
  | halt x => intro w es b w' h; cases h

/-- A value, or nothing. -/
def isVS : Next → Prop
  | .value _ | .skip => True
  | _ => False

def okBk : Builtin → Bool
  | .append | .len | .cap | .copy => true
  | _ => false

/-- The plain operations; calls of functions in F alone. -/
def okOp (F : Nat → Bool) (o : Oper) : Bool :=
  match o.op with
  | .move _ | .assign _ | .pick .. | .alloc _ | .box .. | .build .. | .buildSlice .. | .load .. | .store .. | .nilCheck _ | .binOp .. | .unOp .. | .convert .. | .sliceToArrayPointer ..
  | .makeInterface .. | .makeSlice .. | .slice .. | .fieldAddr .. | .field .. | .indexAddr .. | .index .. | .extract .. | .panic _ => true
  | .call { callee := .builtin b, .. } => okBk b
  | .call { callee := .value (.func f), .. } => F f
  | _ => false

/-- The functions in F have bodies. -/
def okFn (P : Program) (f : Nat) : Bool :=
  match P.funcs[f]? with
  | some fn => fn.name != "runtime.NumGoroutine" && fn.body.isSome
  | none => false

theorem tame_v {s : Sem Value} (h : Tame s) : Tame (do pure (.value (← s)) : Sem Next) := tame_bind h fun _ => trivial
theorem leaf_v {s : Sem Value} : Leaf isVS (do pure (.value (← s)) : Sem Next) := leaf_bind s fun _ => trivial
theorem tame_u {s : Sem Unit} (h : Tame s) : Tame (do s; pure .skip : Sem Next) := tame_bind h fun _ => trivial
theorem leaf_u {s : Sem Unit} : Leaf isVS (do s; pure .skip : Sem Next) := leaf_bind s fun _ => trivial

theorem execOp_ok {P : Program} {F : Nat → Bool} (hF : ∀ f, F f = true → okFn P f = true) {o : Oper} (h : okOp F o = true) (ρ : Operand → Value) (hρ : ∀ f, ρ (.func f) = .func (.func f) #[] #[]) :
    (∃ f args, F f = true ∧ ∀ w es, (execOp ρ o).runT P w es = (.ok (.enter f args) w, es)) ∨ (Tame (execOp ρ o) ∧ Leaf isVS (execOp ρ o)) := by
  obtain ⟨dst, op, type, pos, after, guard⟩ := o
  cases op <;> simp only [okOp, Bool.false_eq_true] at h
  case call c =>
    obtain ⟨callee, args, ats⟩ := c
    cases callee with
    | invoke r m => simp at h
    | builtin b =>
      right
      cases b <;> simp [okBk] at h
      · exact ⟨tame_v (tame_append _ _ _), leaf_v (s := Builtin.append_ _ _ _)⟩
      · exact ⟨tame_v (tame_cap _ _ _), leaf_v (s := Builtin.cap_ _ _ _)⟩
      · exact ⟨tame_v (tame_copy _ _ _), leaf_v (s := Builtin.copy_ _ _ _)⟩
      · exact ⟨tame_v (tame_len _ _ _), leaf_v (s := Builtin.len_ _ _ _)⟩
    | value x =>
      cases x <;> simp at h
      rename_i f
      left
      have hf := hF f h
      unfold okFn at hf
      split at hf
      · rename_i fn hfn
        simp only [Bool.and_eq_true, bne_iff_ne, ne_eq] at hf
        refine ⟨f, (#[] ++ args.map ρ) ++ #[], h, fun w es => ?_⟩
        have hb : fn.body.isNone = false := by
          have := hf.2
          cases hx : fn.body <;> simp_all
        have e1 : execOp ρ { dst := dst, op := .call { callee := .value (.func f), args := args, argTypes := ats }, type := type, pos := pos, after := after, guard := guard } = callFunc f ((#[] ++ args.map ρ) ++ #[]) := by
          show ((Deferred.ofValue (ρ (.func f)) (args.map ρ)) >>= fun d => invoke d.target d.args) = _
          rw [hρ]
          rfl
        have hn : (fn.name == "runtime.NumGoroutine") = false := by simpa using hf.1
        rw [e1]
        unfold callFunc
        simp only [bind, Sem.bind, program, Sem.runT, hfn, hn, hb, Bool.false_eq_true, if_false]
        rfl
      · cases hf
  all_goals right
  case move x => exact ⟨trivial, trivial⟩
  case assign x => exact ⟨trivial, trivial⟩
  case pick c a b => exact ⟨tame_bind (tame_asBool _) fun _ => trivial, leaf_bind _ fun _ => trivial⟩
  case alloc e => exact ⟨tame_v (tame_alloc _ _ _), leaf_v⟩
  case box e x => exact ⟨tame_v (tame_box _ _), leaf_v⟩
  case build t p => exact ⟨tame_v (tame_build _ _), leaf_v⟩
  case buildSlice t n p => exact ⟨tame_v (tame_buildSlice _ _ _), leaf_v⟩
  case load t a => exact ⟨tame_v (tame_loadAt _ _), leaf_v⟩
  case store t a x => exact ⟨tame_u (tame_storeAt _ _ _), leaf_u⟩
  case nilCheck x =>
    unfold execOp
    dsimp only
    generalize ρ x = v
    cases v with
    | pointer p => cases p <;> first | exact ⟨tame_runtimePanic _, leaf_bind _ fun _ => trivial⟩ | exact ⟨trivial, trivial⟩
    | func fn a b =>
      cases fn with
      | method name =>
        refine ⟨?_, ?_⟩
        · dsimp only
          repeat' (first
            | with_reducible exact tame_runtimePanic _
            | with_reducible exact tame_unsupported _
            | with_reducible exact tame_program
            | with_reducible exact tame_nilAhead _ _ _ _
            | with_reducible exact tame_pure _
            | with_reducible refine tame_bind ?_ (fun _ => ?_)
            | with_reducible refine tame_ite ?_ ?_
            | split
            | dsimp only)
        · dsimp only
          repeat' (first
            | exact trivial
            | exact leaf_bind program fun _ => trivial
            | with_reducible refine leaf_bind _ (fun _ => ?_)
            | split
            | dsimp only)
      | _ => exact ⟨trivial, trivial⟩
    | nilIface => exact ⟨tame_runtimePanic _, leaf_bind _ fun _ => trivial⟩
    | nilFunc => exact ⟨tame_runtimePanic _, leaf_bind _ fun _ => trivial⟩
    | _ => exact ⟨trivial, trivial⟩
  case binOp op t x y g => exact ⟨tame_v (tame_bind (tame_eqGuard _ _ _ _ _ _) fun _ => tame_binOp _ _ _ _), leaf_v⟩
  case unOp op t x => exact ⟨tame_v (tame_unary _ _), leaf_v⟩
  case convert a b x => exact ⟨tame_v (tame_convert _ _ _), leaf_v⟩
  case sliceToArrayPointer a x => exact ⟨tame_v (tame_arrayAt _ _), leaf_v⟩
  case makeInterface t x => exact ⟨tame_v (tame_makeInterface _ _), leaf_v⟩
  case makeSlice t a b => exact ⟨tame_v (tame_makeSlice _ _ _), leaf_v⟩
  case slice t x l h m => exact ⟨tame_v (tame_sliceAt _ _ _ _ _), leaf_v⟩
  case fieldAddr t x f => exact ⟨tame_v (tame_fieldAt _ _ _), leaf_v⟩
  case field t x f => exact ⟨tame_v (tame_field _ _ _), leaf_v⟩
  case indexAddr t x i => exact ⟨tame_v (tame_indexAt _ _ _), leaf_v⟩
  case index t x i => exact ⟨tame_v (tame_index _ _ _), leaf_v⟩
  case extract t i => exact ⟨tame_v (tame_extract _ _), leaf_v⟩
  case panic x => exact ⟨tame_v (tame_panic _), leaf_v⟩

/-! ### pieces of code, frames, stacks -/

def okCode (F : Nat → Bool) : Code → Bool
  | .skip | .label _ | .ret | .exit _ => true
  | .seq a b => okCode F a && okCode F b
  | .cond _ a b => okCode F a && okCode F b
  | .block _ c => okCode F c
  | .loop c => okCode F c
  | .region _ ops _ => ops.all (okOp F)
  | _ => false

def okItem (F : Nat → Bool) : Item → Bool
  | .code c => okCode F c
  | .inLoop c => okCode F c
  | .inBlock _ => true
  | .inRegion ops _ => ops.all (okOp F)
  | _ => false

/-- The functions in F are plain throughout. -/
def plainFn (P : Program) (F : Nat → Bool) (f : Nat) : Bool :=
  match P.funcs[f]? with
  | some fn => fn.name != "runtime.NumGoroutine" && (match fn.body with | some c => okCode F c | none => false)
  | none => false

theorem okFn_of_plain {P : Program} {F : Nat → Bool} {f : Nat} (h : plainFn P F f = true) : okFn P f = true := by
  unfold plainFn at h
  unfold okFn
  split at h
  · simp only [Bool.and_eq_true] at h ⊢
    refine ⟨h.1, ?_⟩
    have := h.2
    split at this
    · simp_all
    · cases this
  · cases h

/-- Its results stand in temporaries. -/
def tmpRes (P : Program) (f : Nat) : Bool :=
  match P.funcs[f]? with
  | some fn => fn.results.all fun | .tmp _ => true | _ => false
  | none => false

structure OkF (P : Program) (F : Nat → Bool) (f : Frame) : Prop where
  defers : f.defers = []
  round : f.roundOf = none
  kind : f.kind = .normal
  todo : ∀ x ∈ f.todo, okItem F x = true
  res : tmpRes P f.fn = true

/-- A frame that waits for a call. -/
def Waits (f : Frame) : Prop := f.mode = .run ∧ ∃ ops i rest T, f.todo = .inRegion ops (i :: rest) :: T

/-- The frames above a base, the top first. -/
def StackOk (P : Program) (F : Nat → Bool) : List Frame → Prop
  | [] => False
  | f :: inner => OkF P F f ∧ ∀ g ∈ inner, OkF P F g ∧ Waits g

/-- The frames with something more to do for the lowest. -/
def ext (k : List Item) : List Frame → List Frame
  | [] => []
  | [b] => [{ b with todo := b.todo ++ k }]
  | f :: g :: r => f :: ext k (g :: r)

def tp (k : List Item) (f : Frame) (inner : List Frame) : Frame := { f with todo := f.todo ++ (if inner.isEmpty then k else []) }
theorem ext_cons (k : List Item) (f : Frame) (inner : List Frame) : ext k (f :: inner) = tp k f inner :: ext k inner := by
  cases inner with
  | nil => rfl
  | cons g r => simp [ext, tp]

/-- The goroutine with these frames above cs. -/
def gx : List Frame → List Frame → Goroutine
  | f :: inner, cs => G f (inner ++ cs)
  | [], _ => default

theorem gx_ext (k : List Item) (f : Frame) (inner cs : List Frame) : gx (ext k (f :: inner)) cs = G (tp k f inner) (ext k inner ++ cs) := by rw [ext_cons]; rfl

end Go.Proofs.Ytjphaphnmclbcaa
