/- Pieces of code and calls beside goroutines that only leave: rules, and what is proved alone. No condition. -/
import Derived.Test.YtjphaphnmclbcaaChF
import Derived.Conc.CompanyCalls
namespace Go.Proofs.Ytjphaphnmclbcaa
open Go Go.Conc

section
variable {P : Program} {F : Nat → Bool} {Stop : Goroutine → World → Prop} {k : List Item} {cs : List Frame}

/-- Where the walk goes on behind a piece of code. -/
def AfterT (P : Program) (Stop : Goroutine → World → Prop) (b : Frame) (k : List Item) (cs : List Frame) : Exit → Act → World → Prop
  | .normal, a, w => T P Stop (G (b.at a k) cs) w
  | .exit id, a, w => ∃ k', exitTo id k = some k' ∧ T P Stop (G (b.at a k') cs) w
  | .ret, a, w => ∀ todo, T P Stop (G { b.at a todo with mode := .returning } cs) w
  | _, _, _ => False

/-- The piece of code c of function fn, beside leavers. -/
def WpT (P : Program) (fn : FuncId) (c : Code) (Q : Exit → Act → World → Prop) (a : Act) (w : World) : Prop :=
  ∀ (b : Frame) (k : List Item) (cs : List Frame) (Stop : Goroutine → World → Prop), b.fn = fn → b.kind = .normal →
    (∀ e a' w', Q e a' w' → AfterT P Stop b k cs e a' w') → T P Stop (G (b.at a (.code c :: k)) cs) w

/-- The operations of a region that are still to come. -/
def OpsT (P : Program) (fn : FuncId) (ops : Array Oper) (todo : List Nat) (Q : Exit → Act → World → Prop) (a : Act) (w : World) : Prop :=
  ∀ (b : Frame) (k : List Item) (cs : List Frame) (Stop : Goroutine → World → Prop), b.fn = fn → b.kind = .normal →
    (∀ e a' w', Q e a' w' → AfterT P Stop b k cs e a' w') → T P Stop (G (b.at a (.inRegion ops todo :: k)) cs) w

/-- A call. -/
def CallsT (P : Program) (f : FuncId) (args : Array Value) (w : World) (R : Value → World → Prop) : Prop :=
  ∀ (c : Frame) (cs : List Frame) (Stop : Goroutine → World → Prop), (∀ v w', R v w' → T P Stop (G (c.finish v) cs) w') → T P Stop (G (Frame.enter P f args .normal) (c :: cs)) w

theorem T.ctl {g g' : Goroutine} {w : World} (hs : g.status = .running) (h : ∀ w, stepG P true g w = .go g' w) (hT : T P Stop g' w) : T P Stop g w :=
  .step hs (fun w₁ _ => ⟨_, _, _, h w₁, by simp⟩) fun w₁ g₂ w₂ es h₁ h₂ => by rw [h w₁] at h₂; cases h₂; exact hT.rely h₁

theorem AfterT.push {b : Frame} {x : Item} {e : Exit} {a : Act} {w : World} (hx : x.plain = true) (he : e ≠ .normal) (h : AfterT P Stop b k cs e a w) : AfterT P Stop b (x :: k) cs e a w := by
  cases e with
  | normal => exact absurd rfl he
  | exit id => obtain ⟨k', hk, hg⟩ := h; exact ⟨k', by cases x <;> simp_all [exitTo, Item.plain], hg⟩
  | ret => exact h
  | goto l => exact h
  | panic ch => exact h
  | outgrown => exact h

variable {fn : FuncId} {Q : Exit → Act → World → Prop} {a : Act} {w : World}

theorem wpT_mono {c : Code} {Q' : Exit → Act → World → Prop} (h : WpT P fn c Q a w) (hq : ∀ e a w, Q e a w → Q' e a w) : WpT P fn c Q' a w :=
  fun b k cs Stop hb hk hc => h b k cs Stop hb hk fun e a' w' q => hc e a' w' (hq e a' w' q)
theorem wpT_rely {c : Code} {w₁ : World} (h : WpT P fn c Q a w) (hr : Re w w₁) : WpT P fn c Q a w₁ := fun b k cs Stop hb hk hc => (h b k cs Stop hb hk hc).rely hr
theorem opsT_rely {ops : Array Oper} {todo : List Nat} {w₁ : World} (h : OpsT P fn ops todo Q a w) (hr : Re w w₁) : OpsT P fn ops todo Q a w₁ := fun b k cs Stop hb hk hc => (h b k cs Stop hb hk hc).rely hr
theorem callsT_rely {f : FuncId} {args : Array Value} {R : Value → World → Prop} {w₁ : World} (h : CallsT P f args w R) (hr : Re w w₁) : CallsT P f args w₁ R := fun c cs Stop hc => (h c cs Stop hc).rely hr
theorem callsT_mono {f : FuncId} {args : Array Value} {R R' : Value → World → Prop} (h : CallsT P f args w R) (hq : ∀ v w, R v w → R' v w) : CallsT P f args w R' := fun c cs Stop hc => h c cs Stop fun v w' q => hc v w' (hq v w' q)

theorem wpT_skip (h : Q .normal a w) : WpT P fn .skip Q a w := fun _ _ _ _ _ _ hc => .ctl rfl (fun _ => stepG_skip) (hc _ _ _ h)
theorem wpT_label {l : Nat} (h : Q .normal a w) : WpT P fn (.label l) Q a w := fun _ _ _ _ _ _ hc => .ctl rfl (fun _ => stepG_label) (hc _ _ _ h)
theorem wpT_ret (h : Q .ret a w) : WpT P fn .ret Q a w := fun _ _ _ _ _ _ hc => .ctl rfl (fun _ => stepG_ret') (hc _ _ _ h _)
theorem wpT_exit {id : Nat} (h : Q (.exit id) a w) : WpT P fn (.exit id) Q a w := fun _ _ _ _ _ _ hc => by
  obtain ⟨k', hk', hg⟩ := hc _ _ _ h
  exact .ctl rfl (fun _ => stepG_exit hk') hg

theorem wpT_seq {x y : Code} (h : WpT P fn x (Exit.then (fun a' w' => WpT P fn y Q a' w') Q) a w) : WpT P fn (.seq x y) Q a w := by
  intro b k cs Stop hb hk hc
  refine .ctl rfl (fun _ => stepG_seq) (h b (.code y :: k) cs Stop hb hk fun e a' w' q => ?_)
  cases e with
  | normal => exact q b k cs Stop hb hk hc
  | exit id => exact (hc _ _ _ q).push rfl (by simp)
  | ret => exact (hc _ _ _ q).push (x := .code y) rfl (by simp)
  | goto l => exact hc _ _ _ q
  | panic ch => exact hc _ _ _ q
  | outgrown => exact hc _ _ _ q

theorem wpT_cond {c : Operand} {x y : Code} {t : Bool} (hc : a.eval c = .bool t) (h : WpT P fn (if t then x else y) Q a w) : WpT P fn (.cond c x y) Q a w :=
  fun b k cs Stop hb hk hq => .ctl rfl (fun _ => stepG_cond hc) (h b k cs Stop hb hk hq)

theorem wpT_block {id : Nat} {c : Code} (h : WpT P fn c (Exit.inBlock id Q) a w) : WpT P fn (.block id c) Q a w := by
  intro b k cs Stop hb hk hc
  refine .ctl rfl (fun _ => stepG_block) (h b (.inBlock id :: k) cs Stop hb hk fun e a' w' q => ?_)
  cases e with
  | normal => exact .ctl rfl (fun _ => stepG_inBlock) (hc _ _ _ q)
  | exit id' =>
    by_cases hid : id' = id
    · simp only [Exit.inBlock, hid, if_true] at q
      exact ⟨k, by simp [exitTo, hid], hc _ _ _ q⟩
    · simp only [Exit.inBlock, hid, if_false] at q
      obtain ⟨k', hk', hg⟩ := hc _ _ _ q
      have : (id == id') = false := by simp; exact fun h => hid h.symm
      exact ⟨k', by simp [exitTo, this, hk'], hg⟩
  | ret => exact hc _ _ _ q
  | goto l => exact hc _ _ _ q
  | panic ch => exact hc _ _ _ q
  | outgrown => exact hc _ _ _ q

/-- A loop: an invariant, and a measure that every round lowers. -/
theorem wpT_loop {c : Code} (I : Act → World → Prop) (μ : Act → World → Nat) (h₀ : I a w)
    (round : ∀ a w, I a w → WpT P fn c (Exit.then (fun a' w' => I a' w' ∧ μ a' w' < μ a w) Q) a w) : WpT P fn (.loop c) Q a w := by
  intro b k cs Stop hb hk hc
  have key : ∀ n a w, μ a w = n → I a w → T P Stop (G (b.at a (.code c :: .inLoop c :: k)) cs) w := by
    intro n
    induction n using Nat.strongRecOn with
    | _ n ih =>
      intro a w hn hI
      refine round a w hI b (.inLoop c :: k) cs Stop hb hk fun e a' w' q => ?_
      cases e with
      | normal => exact .ctl rfl (fun _ => stepG_inLoop) (ih _ (hn ▸ q.2) a' w' rfl q.1)
      | exit id => exact (hc _ _ _ q).push rfl (by simp)
      | ret => exact (hc _ _ _ q).push (x := .inLoop c) rfl (by simp)
      | goto l => exact hc _ _ _ q
      | panic ch => exact hc _ _ _ q
      | outgrown => exact hc _ _ _ q
  exact .ctl rfl (fun _ => stepG_loop) (key _ a w rfl h₀)

theorem wpT_region {id : Nat} {ops : Array Oper} (h : OpsT P fn ops (List.range ops.size) Q a w) : WpT P fn (.region id ops false) Q a w :=
  fun b k cs Stop hb hk hc => .ctl rfl (fun _ => stepG_region) (h b k cs Stop hb hk hc)

theorem opsT_nil {ops : Array Oper} (h : Q .normal a w) : OpsT P fn ops [] Q a w := fun _ _ _ _ _ _ hc => .ctl rfl (fun _ => stepG_region_end) (hc _ _ _ h)

theorem opsT_unwanted {ops : Array Oper} {i : Nat} {rest : List Nat} {o : Oper} (ho : ops[i]? = some o) (hw : Region.wanted o (yielded ops a.tmps) = false)
    (h : OpsT P fn ops rest Q (a.put o.dst undef) w) : OpsT P fn ops (i :: rest) Q a w := fun b k cs Stop hb hk hc => .ctl rfl (fun _ => stepG_unwanted ho hw) (h b k cs Stop hb hk hc)

theorem hears_listed {a : Act} {o : Oper} (ht : Tame (execOp a.eval o)) (f : FuncId) (w : World) : ∀ e ∈ listed P f a o w, Hears e := by
  obtain ⟨r, us, n, hu, _, _, hl⟩ := tame_local P ht w #[]
  intro e he
  unfold listed at he
  have h1 := mem_seen he
  unfold Sem.events at h1
  have h2 := hl w.tape w.drawn (fun _ _ => rfl)
  have e0 : rt w w.tape w.drawn = w := rfl
  rw [e0] at h2
  rw [h2] at h1
  exact hu e (by simpa using h1)

/-- One operation that is carried out, in every world that the scheduler may leave. -/
theorem opsT_cons {ops : Array Oper} {i : Nat} {rest : List Nat} {o : Oper} (ho : ops[i]? = some o) (hw : Region.wanted o (yielded ops a.tmps) = true) (ht : Tame (execOp a.eval o))
    (h : ∀ w₁, Re w w₁ → uponK o a (fun a' w' => OpsT P fn ops rest Q a' w') ((execOp a.eval o).run P w₁)) : OpsT P fn ops (i :: rest) Q a w := by
  intro b k cs Stop hb hk hc
  have hke : b.kind ≠ .early := by rw [hk]; simp
  have key : ∀ w₁, Re w w₁ → ∃ a' w', stepG P true (G (b.at a (.inRegion ops (i :: rest) :: k)) cs) w₁ = .go (G (b.at a' (.inRegion ops rest :: k)) cs) w' (listed P b.fn a o w₁) ∧ OpsT P fn ops rest Q a' w' := by
    intro w₁ h₁
    have := h w₁ h₁
    revert this
    cases hr : (execOp a.eval o).run P w₁ with
    | ok x w' =>
      cases x <;> first | exact fun h => h.elim | skip
      · exact fun hx => ⟨_, _, stepG_value ho hw hke hr, hx⟩
      · exact fun hx => ⟨_, _, stepG_none ho hw hke hr, hx⟩
    | halt _ _ => exact fun h => h.elim
  refine .step rfl (fun w₁ h₁ => ?_) fun w₁ g' w' es h₁ hs => ?_
  · obtain ⟨a', w', hs, _⟩ := key w₁ h₁
    exact ⟨_, _, _, hs, hears_listed ht _ _⟩
  · obtain ⟨a', w₂, hs', hx⟩ := key w₁ h₁
    rw [hs'] at hs
    cases hs
    exact hx b k cs Stop hb hk hc

/-- A call in a region. -/
theorem opsT_call {ops : Array Oper} {i : Nat} {rest : List Nat} {o : Oper} {f : FuncId} {args : Array Value} {R : Value → World → Prop} (ho : ops[i]? = some o) (hw : Region.wanted o (yielded ops a.tmps) = true)
    (hrun : ∀ w es, (execOp a.eval o).runT P w es = (.ok (.enter f args) w, es)) (hf : CallsT P f args w R)
    (h : ∀ v w', R v w' → OpsT P fn ops rest Q (a.put o.dst v) w') : OpsT P fn ops (i :: rest) Q a w := by
  intro b k cs Stop hb hk hc
  have hk' : (b.kind == CallKind.early) = false := by rw [hk]; rfl
  refine .ctl (g' := G (Frame.enter P f args .normal) (b.at a (.inRegion ops (i :: rest) :: k) :: cs)) rfl (fun w => ?_) ?_
  · rw [stepG_oper ho hw]
    unfold stepG.apply
    simp only [if_true, hrun]
    have e1 : (b.at a (.inRegion ops (i :: rest) :: k)).kind = b.kind := rfl
    have e2 : (b.at a (.inRegion ops (i :: rest) :: k)).todo = .inRegion ops (i :: rest) :: k := rfl
    simp only [e1, e2, hk', Bool.false_eq_true, if_false]
    simp [GStep.after, seen, G]
  · refine hf _ cs Stop fun v w' hv => ?_
    have := Frame.finish_at b a ops i rest k v
    rw [ho] at this
    rw [this]
    exact h v w' hv b k cs Stop hb hk hc

/-! ### what is proved alone -/

/-- Normally, or by a return. -/
def NR (Q : Exit → Act → World → Prop) : Exit → Act → World → Prop
  | .normal, a, w => Q .normal a w
  | .ret, a, w => Q .ret a w
  | _, _, _ => False

theorem solo_lone (fr : Frame) (cs : List Frame) (w : World) : lone fr cs w = solo (G fr cs) w := rfl

theorem wpT_lone (H : Plain P F) {c : Code} (hc : okCode F c = true) (hn : tmpRes P fn = true) (hd : a.defers = []) (h : ∀ w₁, Re w w₁ → c.wp P (NR Q) a w₁) : WpT P fn c Q a w := by
  intro b k cs Stop hb hk hQ
  have hOk : StackOk P F [b.at a [.code c]] := ⟨⟨hd, rfl, hk, by intro x hx; simp [Frame.at] at hx; subst hx; exact hc, by show tmpRes P b.fn = true; rw [hb]; exact hn⟩, by simp⟩
  let ExS : Goroutine → World → Prop := fun g w' => g.callers = [c0] ∧ ∃ a' w'', Re w'' w' ∧ ((Q .normal a' w'' ∧ g.frame = b.at a' ks) ∨ (Q .ret a' w'' ∧ ∃ todo, g.frame = { b.at a' todo with mode := .returning }))
  have hend := transfer (z := true) (P := P) (Stop := Stop) (k := k) (cs := cs) H (fun e => by cases e) (ExS := ExS) (fun σ w' hσ hE => ?_) (fun g w' hE => hE.1) (w := w) hOk (fun τ => ?_)
  · exact hend
  · obtain ⟨hcs, a', w'', hr, hx⟩ := hE
    cases σ with
    | nil => exact hσ.elim
    | cons f inner =>
      rw [gx_ext] at hcs hx ⊢
      have hi : inner = [] := by
        cases inner with
        | nil => rfl
        | cons g r => simp [G, ext_cons] at hcs
      subst hi
      have e : ext k ([] : List Frame) ++ cs = cs := rfl
      rw [e]
      rcases hx with ⟨hq, hf⟩ | ⟨hq, todo, hf⟩
      · have h1 : tp ks f [] = b.at a' ks := hf
        have h2 : tp k f [] = b.at a' k := by
          obtain ⟨fn', tmps, todo, defers, mode, kind, round⟩ := f
          have hT : todo = [] := by
            have := congrArg Frame.todo h1
            simpa [tp, Frame.at, ks] using this
          simp only [tp, Frame.at, Frame.mk.injEq] at h1 ⊢
          subst hT
          simp only [List.isEmpty_nil, if_true, List.nil_append] at h1 ⊢
          exact ⟨h1.1, h1.2.1, trivial, h1.2.2.2.1, h1.2.2.2.2.1, h1.2.2.2.2.2.1, h1.2.2.2.2.2.2⟩
        rw [h2]
        exact T.rely (hQ _ _ _ hq) hr
      · have h1 : tp ks f [] = { b.at a' todo with mode := .returning } := hf
        have h2 : tp k f [] = { b.at a' (f.todo ++ k) with mode := .returning } := by
          obtain ⟨fn', tmps, todo', defers, mode, kind, round⟩ := f
          simp only [tp, Frame.at, Frame.mk.injEq] at h1 ⊢
          simp only [List.isEmpty_nil, if_true] at h1 ⊢
          exact ⟨h1.1, h1.2.1, trivial, h1.2.2.2.1, h1.2.2.2.2.1, h1.2.2.2.2.2.1, h1.2.2.2.2.2.2⟩
        rw [h2]
        exact T.rely (hQ _ _ _ hq _) hr
  · have hw := h (rt w τ 0) (re_rt w τ 0) b ks [c0]
    obtain ⟨e, a', w', hq, harr⟩ := hw
    have e1 : lone (b.at a (.code c :: ks)) [c0] (rt w τ 0) = solo (gx (ext (kz true) [b.at a [.code c]]) [c0]) (rt w τ 0) := rfl
    rw [e1] at harr
    cases e with
    | normal =>
      obtain ⟨n, hn⟩ := harr
      exact ⟨n, G (b.at a' ks) [c0], w', hn, rfl, a', w', Re.refl _, .inl ⟨hq, rfl⟩⟩
    | ret =>
      obtain ⟨todo, n, hn⟩ := harr
      exact ⟨n, G { b.at a' todo with mode := .returning } [c0], w', hn, rfl, a', w', Re.refl _, .inr ⟨hq, todo, rfl⟩⟩
    | exit id => exact hq.elim
    | goto l => exact hq.elim
    | panic c => exact hq.elim
    | outgrown => exact hq.elim

theorem callsT_lone (H : Plain P F) {f : FuncId} (hf : F f = true) {args : Array Value} {R : Value → World → Prop} (h : ∀ w₁, Re w w₁ → Calls P f args w₁ (fun e w' => ∃ v, e = .returned v ∧ R v w')) : CallsT P f args w R := by
  intro c cs Stop hR
  obtain ⟨hp, hres⟩ := H.fns f hf
  have hOk : StackOk P F [Frame.enter P f args .normal] := by
    refine ⟨⟨rfl, rfl, rfl, ?_, hres⟩, by simp⟩
    intro x hx
    simp only [Frame.enter, List.mem_cons, List.not_mem_nil, or_false] at hx
    subst hx
    unfold plainFn at hp
    cases hfn : P.funcs[f]? with
    | none => rw [hfn] at hp; cases hp
    | some fn =>
      rw [hfn] at hp
      simp only [Bool.and_eq_true] at hp
      have := hp.2
      cases hb : fn.body with
      | none => rw [hb] at this; cases this
      | some c => rw [hb] at this; simpa [okItem, hb] using this
  let ExS : Goroutine → World → Prop := fun g w' => g.callers = [c0] ∧ ∃ v w'', Re w'' w' ∧ R v w'' ∧ ∃ fr, g = G fr [c0] ∧ fr.leaving P w'' (.returned v)
  have hend := transfer (z := false) (P := P) (Stop := Stop) (k := []) (cs := c :: cs) H (fun _ => rfl) (ExS := ExS) (fun σ w' hσ hE => ?_) (fun g w' hE => hE.1) (w := w) hOk (fun τ => ?_)
  · exact hend
  · obtain ⟨hcs, v, w'', hr, hRv, fr, hg, hl⟩ := hE
    cases σ with
    | nil => exact hσ.elim
    | cons f' inner =>
      rw [gx_ext] at hcs hg ⊢
      have hi : inner = [] := by
        cases inner with
        | nil => rfl
        | cons g r => simp [G, ext_cons] at hcs
      subst hi
      have hfr : tp [] f' [] = fr := congrArg Goroutine.frame hg
      subst hfr
      obtain ⟨hm, _, _, fn, hfn, hrun⟩ := hl
      have hm' : f'.mode = .returning := hm
      have hfn' : P.funcs[f'.fn]? = some fn := hfn
      have hres' := hσ.1.res
      unfold tmpRes at hres'
      rw [hfn'] at hres'
      obtain ⟨v0, hv0⟩ := results_tmps hres' f'.tmps
      have hv : v0 = v := by
        have h1 : (results fn f'.tmps).run P w'' = .ok v0 w'' := by rw [← Sem.runT_fst P _ w'' #[], hv0]
        have h2 : (results fn f'.tmps).run P w'' = .ok v w'' := hrun
        rw [h1] at h2
        cases h2
        rfl
      subst hv
      refine .ctl (g' := G (c.finish v0) cs) rfl (fun w => ?_) ((hR v0 w'' hRv).rely hr)
      have h1 : (results fn f'.tmps).run P w = .ok v0 w := by rw [← Sem.runT_fst P _ w #[], hv0]
      have h2 : (results fn f'.tmps).events P w #[] = #[] := by unfold Sem.events; rw [hv0]
      simp [G, stepG, unwind, doReturn, tp, ext, hm', hσ.1.defers, hfn', h1, h2, hσ.1.kind, seen, GStep.after]
  · obtain ⟨e, w', fr, ⟨v, rfl, hRv⟩, hc, _, hl⟩ := h (rt w τ 0) (re_rt w τ 0) [c0]
    obtain ⟨n, hn⟩ := hc
    have e1 : lone (Frame.enter P f args .normal) [c0] (rt w τ 0) = solo (gx (ext (kz false) [Frame.enter P f args .normal]) [c0]) (rt w τ 0) := by
      have : ext (kz false) [Frame.enter P f args .normal] = [Frame.enter P f args .normal] := by simp [ext, kz, Frame.enter]
      rw [this]
      rfl
    rw [e1] at hn
    exact ⟨n, G fr [c0], w', hn, rfl, v, w', Re.refl _, hRv, fr, rfl, hl⟩

end

end Go.Proofs.Ytjphaphnmclbcaa
