/- Texts of this claim put into one: ChF, ChG, ChX, LwK, VwK, VoK, RowM, RowC. -/
import Derived.Test.YtjphaphnmclbcaaBnf
import Derived.Conc.CompanyCalls
import Derived.Test.YtjphaphnmclbcaaBne
import Derived.Test.YtjphaphnmclbcaaBnd
import Derived.StillTailTactics
/- What a plain stack of frames does alone on every tape it does beside goroutines that only leave. No condition. -/
namespace Go.Proofs.Ytjphaphnmclbcaa
open Go Go.Conc

theorem re_rt (w : World) (τ : Tape) (d : Nat) : Re w (rt w τ d) := ⟨τ, d, rfl⟩
theorem re_unrt (w : World) (τ : Tape) (d : Nat) : Re (rt w τ d) w := ⟨w.tape, w.drawn, rfl⟩
theorem rt_self {w w' : World} {n : Nat} (h : DrewN w w' n) : rt w' w.tape (w.drawn + n) = w' := by
  obtain ⟨h1, h2⟩ := h
  unfold rt
  rw [← h1, ← h2]

section
variable {z : Bool} {P : Program} {F : Nat → Bool} {Stop : Goroutine → World → Prop} {k : List Item} {cs : List Frame}

theorem gx_running {σ : List Frame} (h : StackOk P F σ) (k : List Item) (cs : List Frame) : (gx (ext k σ) cs).status = .running := by
  cases σ with
  | nil => exact h.elim
  | cons f r => rw [gx_ext]; rfl

/-- The step in the lonely place, on every tape that gives these answers. -/
def Went (z : Bool) (P : Program) (σ σ' : List Frame) (w w' : World) (τ : Tape) (d n : Nat) : Prop :=
  ∀ τ' d', Ag τ' d' τ d n → ∃ es, stepG P true (gx (ext (kz z) σ) [c0]) (rt w τ' d') = .go (gx (ext (kz z) σ') [c0]) (rt w' τ' (d' + n)) es
def Died (z : Bool) (P : Program) (σ : List Frame) (w : World) (τ : Tape) (d n : Nat) : Prop := ∀ τ' d', Ag τ' d' τ d n → DeadIn P (gx (ext (kz z) σ) [c0]) (rt w τ' d')

theorem bad_next (H : Plain P F) (hk : z = false → k = []) {σ : List Frame} {w : World} (h : StackOk P F σ) (hT : ¬ T P Stop (gx (ext k σ) cs) w) :
    ∃ (τ : Tape) (d n : Nat), Died z P σ w τ d n ∨ ∃ σ' w', StackOk P F σ' ∧ ¬ T P Stop (gx (ext k σ') cs) w' ∧ Went z P σ σ' w w' τ d n := by
  refine Classical.byContradiction fun hno => hT ?_
  have good : ∀ w₁, Re w w₁ → ∃ σ' w' es n, StackOk P F σ' ∧ (∀ e ∈ es, Hears e) ∧ DrewN w₁ w' n ∧ T P Stop (gx (ext k σ') cs) w' ∧
      ∀ τ d, Ag τ d w₁.tape w₁.drawn n → ∀ k cs, (z = false → k = []) → stepG P true (gx (ext k σ) cs) (rt w₁ τ d) = .go (gx (ext k σ') cs) (rt w' τ (d + n)) es := by
    rintro w₁ ⟨τ, d, rfl⟩
    rcases dich (z := z) H h (rt w τ d) with ⟨σ', w', es, n, h1, h2, h3, h4⟩ | ⟨n, hd⟩
    · refine ⟨σ', w', es, n, h1, h2, h3, Classical.byContradiction fun hT' => hno ⟨τ, d, n, .inr ⟨σ', w', h1, hT', fun τ' d' hA => ⟨es, ?_⟩⟩⟩, h4⟩
      have := h4 τ' d' hA (kz z) [c0] (fun e => by rw [e]; rfl)
      exact this
    · exact absurd ⟨τ, d, n, .inl fun τ' d' hA => hd τ' d' hA⟩ hno
  refine T.step (gx_running h k cs) (fun w₁ h₁ => ?_) fun w₁ g' w' es h₁ hs => ?_
  · obtain ⟨σ', w', es, n, _, h2, h3, _, h5⟩ := good w₁ h₁
    have := h5 w₁.tape w₁.drawn (fun _ _ => rfl) k cs hk
    exact ⟨_, _, es, this, h2⟩
  · obtain ⟨σ', w'', es', n, _, _, h3, h4, h5⟩ := good w₁ h₁
    have := h5 w₁.tape w₁.drawn (fun _ _ => rfl) k cs hk
    have e : rt w₁ w₁.tape w₁.drawn = w₁ := rfl
    rw [e, hs, rt_self h3] at this
    cases this
    exact h4

/-- WHAT IS DONE ALONE ON EVERY TAPE IS DONE BESIDE LEAVERS. -/
theorem transfer (H : Plain P F) (hk : z = false → k = []) {ExS : Goroutine → World → Prop} (hst : ∀ σ w', StackOk P F σ → ExS (gx (ext (kz z) σ) [c0]) w' → T P Stop (gx (ext k σ) cs) w') (hcs : ∀ g w', ExS g w' → g.callers = [c0])
    {σ : List Frame} {w : World} (h : StackOk P F σ) (hrun : ∀ τ, ∃ n g w', runN P n (solo (gx (ext (kz z) σ) [c0]) (rt w τ 0)) = .next (solo g w') ∧ ExS g w') : T P Stop (gx (ext k σ) cs) w := by
  refine Classical.byContradiction fun hT => ?_
  let Bad := { x : List Frame × World // StackOk P F x.1 ∧ ¬ T P Stop (gx (ext k x.1) cs) x.2 }
  have hnext : ∀ x : Bad, ∃ y : Tape × Nat × Nat × Option Bad,
      (y.2.2.2 = none → Died z P x.1.1 x.1.2 y.1 y.2.1 y.2.2.1) ∧ (∀ u, y.2.2.2 = some u → Went z P x.1.1 u.1.1 x.1.2 u.1.2 y.1 y.2.1 y.2.2.1) := by
    intro x
    obtain ⟨τ, d, n, hd | ⟨σ', w', h1, h2, h3⟩⟩ := bad_next (z := z) (k := k) (cs := cs) H hk x.2.1 x.2.2
    · exact ⟨(τ, d, n, none), fun _ => hd, fun z hz => by cases hz⟩
    · refine ⟨(τ, d, n, some ⟨(σ', w'), h1, h2⟩), ?_, ?_⟩
      · intro hz; cases hz
      · intro z hz; cases hz; exact h3
  obtain ⟨f, hf⟩ := Classical.axiomOfChoice hnext
  let x0 : Bad := ⟨(σ, w), h, hT⟩
  let p : Nat → Option Bad := fun i => Nat.rec (some x0) (fun _ y => y.bind fun x => (f x).2.2.2) i
  have p0 : p 0 = some x0 := rfl
  have pS : ∀ i, p (i + 1) = (p i).bind fun x => (f x).2.2.2 := fun _ => rfl
  let dn : Option Bad → Nat := fun y => match y with | some x => (f x).2.2.1 | none => 0
  let D : Nat → Nat := fun i => Nat.rec 0 (fun i a => a + dn (p i)) i
  have DS : ∀ i, D (i + 1) = D i + dn (p i) := fun _ => rfl
  have Dmono : ∀ i j, i ≤ j → D i ≤ D j := by
    intro i j hij
    induction hij with
    | refl => exact Nat.le_refl _
    | step _ ih => rw [Nat.succ_eq_add_one, DS]; omega
  have Duniq : ∀ i i' j, D i ≤ j → j < D (i + 1) → D i' ≤ j → j < D (i' + 1) → i = i' := by
    intro i i' j h1 h2 h3 h4
    rcases Nat.lt_trichotomy i i' with hlt | rfl | hlt
    · have := Dmono (i + 1) i' hlt; omega
    · rfl
    · have := Dmono (i' + 1) i hlt; omega
  let τs : Tape := fun j q => open Classical in if hx : ∃ i x, p i = some x ∧ D i ≤ j ∧ j < D (i + 1) then
      (f (Classical.choose (Classical.choose_spec hx))).1 ((f (Classical.choose (Classical.choose_spec hx))).2.1 + (j - D (Classical.choose hx))) q else 0
  have hAg : ∀ i x, p i = some x → Ag τs (D i) (f x).1 (f x).2.1 (f x).2.2.1 := by
    intro i x hi j hj
    have hD : D (i + 1) = D i + (f x).2.2.1 := by rw [DS, hi]
    have hx : ∃ i' x, p i' = some x ∧ D i' ≤ D i + j ∧ D i + j < D (i' + 1) := ⟨i, x, hi, by omega, by omega⟩
    funext q
    show (open Classical in if hx : ∃ i' x, p i' = some x ∧ D i' ≤ D i + j ∧ D i + j < D (i' + 1) then
      (f (Classical.choose (Classical.choose_spec hx))).1 ((f (Classical.choose (Classical.choose_spec hx))).2.1 + (D i + j - D (Classical.choose hx))) q else 0) = _
    rw [dif_pos hx]
    have hs := Classical.choose_spec (Classical.choose_spec hx)
    generalize Classical.choose (Classical.choose_spec hx) = x' at hs ⊢
    generalize Classical.choose hx = i' at hs ⊢
    obtain ⟨h1, h2, h3⟩ := hs
    have e := Duniq i i' (D i + j) (by omega) (by omega) h2 h3
    subst e
    rw [hi] at h1
    cases h1
    rw [show D i + j - D i = j by omega]
  have hpath : ∀ i x, p i = some x → runN P i (solo (gx (ext (kz z) σ) [c0]) (rt w τs 0)) = .next (solo (gx (ext (kz z) x.1.1) [c0]) (rt x.1.2 τs (D i))) := by
    intro i
    induction i with
    | zero => intro x hx; rw [p0] at hx; cases hx; rfl
    | succ i ih =>
      intro y hy
      rw [pS] at hy
      obtain ⟨x, hx, hxy⟩ := Option.bind_eq_some_iff.1 hy
      obtain ⟨es, hs⟩ := (hf x).2 y hxy τs (D i) (hAg i x hx)
      rw [runN_add, ih x hx]
      have e : D (i + 1) = D i + (f x).2.2.1 := by rw [DS, hx]
      simp only [runN, step_solo_go (gx_running x.2.1 (kz z) [c0]) hs, e]
  obtain ⟨n, g, w', hr, hE⟩ := hrun τs
  cases hn : p n with
  | some x =>
    rw [hpath n x hn] at hr
    simp only [Stepped.next.injEq] at hr
    have e1 : gx (ext (kz z) x.1.1) [c0] = g := by
      have := congrArg (fun m : Machine => m.gs[0]?) hr
      simpa [solo] using this
    have e2 : rt x.1.2 τs (D n) = w' := congrArg (fun m : Machine => m.world) hr
    subst e1 e2
    exact x.2.2 ((hst _ _ x.2.1 hE).rely (re_unrt _ _ _))
  | none =>
    -- where it died
    have hm : ∃ m x, m < n ∧ p m = some x ∧ p (m + 1) = none := by
      clear hr hE
      induction n with
      | zero => rw [p0] at hn; cases hn
      | succ n ih =>
        cases hn' : p n with
        | none => obtain ⟨m, x, h1, h2, h3⟩ := ih hn'; exact ⟨m, x, by omega, h2, h3⟩
        | some x => exact ⟨n, x, by omega, hn', hn⟩
    obtain ⟨m, x, hmn, hx, hx'⟩ := hm
    rw [pS, hx] at hx'
    have hd := (hf x).1 hx' τs (D m) (hAg m x hx)
    obtain ⟨j, rfl⟩ : ∃ j, n = m + (j + 1) := ⟨n - m - 1, by omega⟩
    rw [runN_add, hpath m x hx] at hr
    exact hd j g w' hr (hcs g w' hE)
end

end Go.Proofs.Ytjphaphnmclbcaa

/- Pieces of code and calls beside goroutines that only leave: rules, and what is proved alone. No condition. -/
namespace Go.Proofs.Ytjphaphnmclbcaa
open Go Go.Conc

section
variable {P : Program} {F : Nat → Bool} {Stop : Goroutine → World → Prop} {k : List Item} {cs : List Frame}

/-- Where the walk goes on behind a piece of code. -/
def AfterT (P : Program) (Stop : Goroutine → World → Prop) (b : Frame) (k : List Item) (cs : List Frame) : Exit → Act → World → Prop
  | .normal, a, w => T P Stop (G (b.at a k) cs) w
  | .exit id, a, w => ∃ k', exitTo id k = some k' ∧ T P Stop (G (b.at a k') cs) w
  | .ret, a, w => ∀ todo, T P Stop (G { b.at a todo with mode := .returning } cs) w
  | _, _, _ => False

/-- The piece of code c of function fn, beside leavers. -/
def WpT (P : Program) (fn : FuncId) (c : Code) (Q : Exit → Act → World → Prop) (a : Act) (w : World) : Prop :=
  ∀ (b : Frame) (k : List Item) (cs : List Frame) (Stop : Goroutine → World → Prop), b.fn = fn → b.kind = .normal →
    (∀ e a' w', Q e a' w' → AfterT P Stop b k cs e a' w') → T P Stop (G (b.at a (.code c :: k)) cs) w

/-- The operations of a region that are still to come. -/
def OpsT (P : Program) (fn : FuncId) (ops : Array Oper) (todo : List Nat) (Q : Exit → Act → World → Prop) (a : Act) (w : World) : Prop :=
  ∀ (b : Frame) (k : List Item) (cs : List Frame) (Stop : Goroutine → World → Prop), b.fn = fn → b.kind = .normal →
    (∀ e a' w', Q e a' w' → AfterT P Stop b k cs e a' w') → T P Stop (G (b.at a (.inRegion ops todo :: k)) cs) w

/-- A call. -/
def CallsT (P : Program) (f : FuncId) (args : Array Value) (w : World) (R : Value → World → Prop) : Prop :=
  ∀ (c : Frame) (cs : List Frame) (Stop : Goroutine → World → Prop), (∀ v w', R v w' → T P Stop (G (c.finish v) cs) w') → T P Stop (G (Frame.enter P f args .normal) (c :: cs)) w

theorem T.ctl {g g' : Goroutine} {w : World} (hs : g.status = .running) (h : ∀ w, stepG P true g w = .go g' w) (hT : T P Stop g' w) : T P Stop g w :=
  .step hs (fun w₁ _ => ⟨_, _, _, h w₁, by simp⟩) fun w₁ g₂ w₂ es h₁ h₂ => by rw [h w₁] at h₂; cases h₂; exact hT.rely h₁

theorem AfterT.push {b : Frame} {x : Item} {e : Exit} {a : Act} {w : World} (hx : x.plain = true) (he : e ≠ .normal) (h : AfterT P Stop b k cs e a w) : AfterT P Stop b (x :: k) cs e a w := by
  cases e with
  | normal => exact absurd rfl he
  | exit id => obtain ⟨k', hk, hg⟩ := h; exact ⟨k', by cases x <;> simp_all [exitTo, Item.plain], hg⟩
  | ret => exact h
  | goto l => exact h
  | panic ch => exact h
  | outgrown => exact h

variable {fn : FuncId} {Q : Exit → Act → World → Prop} {a : Act} {w : World}

theorem wpT_mono {c : Code} {Q' : Exit → Act → World → Prop} (h : WpT P fn c Q a w) (hq : ∀ e a w, Q e a w → Q' e a w) : WpT P fn c Q' a w :=
  fun b k cs Stop hb hk hc => h b k cs Stop hb hk fun e a' w' q => hc e a' w' (hq e a' w' q)
theorem wpT_rely {c : Code} {w₁ : World} (h : WpT P fn c Q a w) (hr : Re w w₁) : WpT P fn c Q a w₁ := fun b k cs Stop hb hk hc => (h b k cs Stop hb hk hc).rely hr
theorem opsT_rely {ops : Array Oper} {todo : List Nat} {w₁ : World} (h : OpsT P fn ops todo Q a w) (hr : Re w w₁) : OpsT P fn ops todo Q a w₁ := fun b k cs Stop hb hk hc => (h b k cs Stop hb hk hc).rely hr
theorem callsT_rely {f : FuncId} {args : Array Value} {R : Value → World → Prop} {w₁ : World} (h : CallsT P f args w R) (hr : Re w w₁) : CallsT P f args w₁ R := fun c cs Stop hc => (h c cs Stop hc).rely hr
theorem callsT_mono {f : FuncId} {args : Array Value} {R R' : Value → World → Prop} (h : CallsT P f args w R) (hq : ∀ v w, R v w → R' v w) : CallsT P f args w R' := fun c cs Stop hc => h c cs Stop fun v w' q => hc v w' (hq v w' q)

theorem wpT_skip (h : Q .normal a w) : WpT P fn .skip Q a w := fun _ _ _ _ _ _ hc => .ctl rfl (fun _ => stepG_skip) (hc _ _ _ h)
theorem wpT_label {l : Nat} (h : Q .normal a w) : WpT P fn (.label l) Q a w := fun _ _ _ _ _ _ hc => .ctl rfl (fun _ => stepG_label) (hc _ _ _ h)
theorem wpT_ret (h : Q .ret a w) : WpT P fn .ret Q a w := fun _ _ _ _ _ _ hc => .ctl rfl (fun _ => stepG_ret') (hc _ _ _ h _)
theorem wpT_exit {id : Nat} (h : Q (.exit id) a w) : WpT P fn (.exit id) Q a w := fun _ _ _ _ _ _ hc => by
  obtain ⟨k', hk', hg⟩ := hc _ _ _ h
  exact .ctl rfl (fun _ => stepG_exit hk') hg

theorem wpT_seq {x y : Code} (h : WpT P fn x (Exit.then (fun a' w' => WpT P fn y Q a' w') Q) a w) : WpT P fn (.seq x y) Q a w := by
  intro b k cs Stop hb hk hc
  refine .ctl rfl (fun _ => stepG_seq) (h b (.code y :: k) cs Stop hb hk fun e a' w' q => ?_)
  cases e with
  | normal => exact q b k cs Stop hb hk hc
  | exit id => exact (hc _ _ _ q).push rfl (by simp)
  | ret => exact (hc _ _ _ q).push (x := .code y) rfl (by simp)
  | goto l => exact hc _ _ _ q
  | panic ch => exact hc _ _ _ q
  | outgrown => exact hc _ _ _ q

theorem wpT_cond {c : Operand} {x y : Code} {t : Bool} (hc : a.eval c = .bool t) (h : WpT P fn (if t then x else y) Q a w) : WpT P fn (.cond c x y) Q a w :=
  fun b k cs Stop hb hk hq => .ctl rfl (fun _ => stepG_cond hc) (h b k cs Stop hb hk hq)

theorem wpT_block {id : Nat} {c : Code} (h : WpT P fn c (Exit.inBlock id Q) a w) : WpT P fn (.block id c) Q a w := by
  intro b k cs Stop hb hk hc
  refine .ctl rfl (fun _ => stepG_block) (h b (.inBlock id :: k) cs Stop hb hk fun e a' w' q => ?_)
  cases e with
  | normal => exact .ctl rfl (fun _ => stepG_inBlock) (hc _ _ _ q)
  | exit id' =>
    by_cases hid : id' = id
    · simp only [Exit.inBlock, hid, if_true] at q
      exact ⟨k, by simp [exitTo, hid], hc _ _ _ q⟩
    · simp only [Exit.inBlock, hid, if_false] at q
      obtain ⟨k', hk', hg⟩ := hc _ _ _ q
      have : (id == id') = false := by simp; exact fun h => hid h.symm
      exact ⟨k', by simp [exitTo, this, hk'], hg⟩
  | ret => exact hc _ _ _ q
  | goto l => exact hc _ _ _ q
  | panic ch => exact hc _ _ _ q
  | outgrown => exact hc _ _ _ q

/-- A loop: an invariant, and a measure that every round lowers. -/
theorem wpT_loop {c : Code} (I : Act → World → Prop) (μ : Act → World → Nat) (h₀ : I a w)
    (round : ∀ a w, I a w → WpT P fn c (Exit.then (fun a' w' => I a' w' ∧ μ a' w' < μ a w) Q) a w) : WpT P fn (.loop c) Q a w := by
  intro b k cs Stop hb hk hc
  have key : ∀ n a w, μ a w = n → I a w → T P Stop (G (b.at a (.code c :: .inLoop c :: k)) cs) w := by
    intro n
    induction n using Nat.strongRecOn with
    | _ n ih =>
      intro a w hn hI
      refine round a w hI b (.inLoop c :: k) cs Stop hb hk fun e a' w' q => ?_
      cases e with
      | normal => exact .ctl rfl (fun _ => stepG_inLoop) (ih _ (hn ▸ q.2) a' w' rfl q.1)
      | exit id => exact (hc _ _ _ q).push rfl (by simp)
      | ret => exact (hc _ _ _ q).push (x := .inLoop c) rfl (by simp)
      | goto l => exact hc _ _ _ q
      | panic ch => exact hc _ _ _ q
      | outgrown => exact hc _ _ _ q
  exact .ctl rfl (fun _ => stepG_loop) (key _ a w rfl h₀)

theorem wpT_region {id : Nat} {ops : Array Oper} (h : OpsT P fn ops (List.range ops.size) Q a w) : WpT P fn (.region id ops false) Q a w :=
  fun b k cs Stop hb hk hc => .ctl rfl (fun _ => stepG_region) (h b k cs Stop hb hk hc)

theorem opsT_nil {ops : Array Oper} (h : Q .normal a w) : OpsT P fn ops [] Q a w := fun _ _ _ _ _ _ hc => .ctl rfl (fun _ => stepG_region_end) (hc _ _ _ h)

theorem opsT_unwanted {ops : Array Oper} {i : Nat} {rest : List Nat} {o : Oper} (ho : ops[i]? = some o) (hw : Region.wanted o (yielded ops a.tmps) = false)
    (h : OpsT P fn ops rest Q (a.put o.dst undef) w) : OpsT P fn ops (i :: rest) Q a w := fun b k cs Stop hb hk hc => .ctl rfl (fun _ => stepG_unwanted ho hw) (h b k cs Stop hb hk hc)

theorem hears_listed {a : Act} {o : Oper} (ht : Tame (execOp a.eval o)) (f : FuncId) (w : World) : ∀ e ∈ listed P f a o w, Hears e := by
  obtain ⟨r, us, n, hu, _, _, hl⟩ := tame_local P ht w #[]
  intro e he
  unfold listed at he
  have h1 := mem_seen he
  unfold Sem.events at h1
  have h2 := hl w.tape w.drawn (fun _ _ => rfl)
  have e0 : rt w w.tape w.drawn = w := rfl
  rw [e0] at h2
  rw [h2] at h1
  exact hu e (by simpa using h1)

/-- One operation that is carried out, in every world that the scheduler may leave. -/
theorem opsT_cons {ops : Array Oper} {i : Nat} {rest : List Nat} {o : Oper} (ho : ops[i]? = some o) (hw : Region.wanted o (yielded ops a.tmps) = true) (ht : Tame (execOp a.eval o))
    (h : ∀ w₁, Re w w₁ → uponK o a (fun a' w' => OpsT P fn ops rest Q a' w') ((execOp a.eval o).run P w₁)) : OpsT P fn ops (i :: rest) Q a w := by
  intro b k cs Stop hb hk hc
  have hke : b.kind ≠ .early := by rw [hk]; simp
  have key : ∀ w₁, Re w w₁ → ∃ a' w', stepG P true (G (b.at a (.inRegion ops (i :: rest) :: k)) cs) w₁ = .go (G (b.at a' (.inRegion ops rest :: k)) cs) w' (listed P b.fn a o w₁) ∧ OpsT P fn ops rest Q a' w' := by
    intro w₁ h₁
    have := h w₁ h₁
    revert this
    cases hr : (execOp a.eval o).run P w₁ with
    | ok x w' =>
      cases x <;> first | exact fun h => h.elim | skip
      · exact fun hx => ⟨_, _, stepG_value ho hw hke hr, hx⟩
      · exact fun hx => ⟨_, _, stepG_none ho hw hke hr, hx⟩
    | halt _ _ => exact fun h => h.elim
  refine .step rfl (fun w₁ h₁ => ?_) fun w₁ g' w' es h₁ hs => ?_
  · obtain ⟨a', w', hs, _⟩ := key w₁ h₁
    exact ⟨_, _, _, hs, hears_listed ht _ _⟩
  · obtain ⟨a', w₂, hs', hx⟩ := key w₁ h₁
    rw [hs'] at hs
    cases hs
    exact hx b k cs Stop hb hk hc

/-- A call in a region. -/
theorem opsT_call {ops : Array Oper} {i : Nat} {rest : List Nat} {o : Oper} {f : FuncId} {args : Array Value} {R : Value → World → Prop} (ho : ops[i]? = some o) (hw : Region.wanted o (yielded ops a.tmps) = true)
    (hrun : ∀ w es, (execOp a.eval o).runT P w es = (.ok (.enter f args) w, es)) (hf : CallsT P f args w R)
    (h : ∀ v w', R v w' → OpsT P fn ops rest Q (a.put o.dst v) w') : OpsT P fn ops (i :: rest) Q a w := by
  intro b k cs Stop hb hk hc
  have hk' : (b.kind == CallKind.early) = false := by rw [hk]; rfl
  refine .ctl (g' := G (Frame.enter P f args .normal) (b.at a (.inRegion ops (i :: rest) :: k) :: cs)) rfl (fun w => ?_) ?_
  · rw [stepG_oper ho hw]
    unfold stepG.apply
    simp only [if_true, hrun]
    have e1 : (b.at a (.inRegion ops (i :: rest) :: k)).kind = b.kind := rfl
    have e2 : (b.at a (.inRegion ops (i :: rest) :: k)).todo = .inRegion ops (i :: rest) :: k := rfl
    simp only [e1, e2, hk', Bool.false_eq_true, if_false]
    simp [GStep.after, seen, G]
  · refine hf _ cs Stop fun v w' hv => ?_
    have := Frame.finish_at b a ops i rest k v
    rw [ho] at this
    rw [this]
    exact h v w' hv b k cs Stop hb hk hc

/-! ### what is proved alone -/

/-- Normally, or by a return. -/
def NR (Q : Exit → Act → World → Prop) : Exit → Act → World → Prop
  | .normal, a, w => Q .normal a w
  | .ret, a, w => Q .ret a w
  | _, _, _ => False

theorem solo_lone (fr : Frame) (cs : List Frame) (w : World) : lone fr cs w = solo (G fr cs) w := rfl

theorem wpT_lone (H : Plain P F) {c : Code} (hc : okCode F c = true) (hn : tmpRes P fn = true) (hd : a.defers = []) (h : ∀ w₁, Re w w₁ → c.wp P (NR Q) a w₁) : WpT P fn c Q a w := by
  intro b k cs Stop hb hk hQ
  have hOk : StackOk P F [b.at a [.code c]] := ⟨⟨hd, rfl, hk, by intro x hx; simp [Frame.at] at hx; subst hx; exact hc, by show tmpRes P b.fn = true; rw [hb]; exact hn⟩, by simp⟩
  let ExS : Goroutine → World → Prop := fun g w' => g.callers = [c0] ∧ ∃ a' w'', Re w'' w' ∧ ((Q .normal a' w'' ∧ g.frame = b.at a' ks) ∨ (Q .ret a' w'' ∧ ∃ todo, g.frame = { b.at a' todo with mode := .returning }))
  have hend := transfer (z := true) (P := P) (Stop := Stop) (k := k) (cs := cs) H (fun e => by cases e) (ExS := ExS) (fun σ w' hσ hE => ?_) (fun g w' hE => hE.1) (w := w) hOk (fun τ => ?_)
  · exact hend
  · obtain ⟨hcs, a', w'', hr, hx⟩ := hE
    cases σ with
    | nil => exact hσ.elim
    | cons f inner =>
      rw [gx_ext] at hcs hx ⊢
      have hi : inner = [] := by
        cases inner with
        | nil => rfl
        | cons g r => simp [G, ext_cons] at hcs
      subst hi
      have e : ext k ([] : List Frame) ++ cs = cs := rfl
      rw [e]
      rcases hx with ⟨hq, hf⟩ | ⟨hq, todo, hf⟩
      · have h1 : tp ks f [] = b.at a' ks := hf
        have h2 : tp k f [] = b.at a' k := by
          obtain ⟨fn', tmps, todo, defers, mode, kind, round⟩ := f
          have hT : todo = [] := by
            have := congrArg Frame.todo h1
            simpa [tp, Frame.at, ks] using this
          simp only [tp, Frame.at, Frame.mk.injEq] at h1 ⊢
          subst hT
          simp only [List.isEmpty_nil, if_true, List.nil_append] at h1 ⊢
          exact ⟨h1.1, h1.2.1, trivial, h1.2.2.2.1, h1.2.2.2.2.1, h1.2.2.2.2.2.1, h1.2.2.2.2.2.2⟩
        rw [h2]
        exact T.rely (hQ _ _ _ hq) hr
      · have h1 : tp ks f [] = { b.at a' todo with mode := .returning } := hf
        have h2 : tp k f [] = { b.at a' (f.todo ++ k) with mode := .returning } := by
          obtain ⟨fn', tmps, todo', defers, mode, kind, round⟩ := f
          simp only [tp, Frame.at, Frame.mk.injEq] at h1 ⊢
          simp only [List.isEmpty_nil, if_true] at h1 ⊢
          exact ⟨h1.1, h1.2.1, trivial, h1.2.2.2.1, h1.2.2.2.2.1, h1.2.2.2.2.2.1, h1.2.2.2.2.2.2⟩
        rw [h2]
        exact T.rely (hQ _ _ _ hq _) hr
  · have hw := h (rt w τ 0) (re_rt w τ 0) b ks [c0]
    obtain ⟨e, a', w', hq, harr⟩ := hw
    have e1 : lone (b.at a (.code c :: ks)) [c0] (rt w τ 0) = solo (gx (ext (kz true) [b.at a [.code c]]) [c0]) (rt w τ 0) := rfl
    rw [e1] at harr
    cases e with
    | normal =>
      obtain ⟨n, hn⟩ := harr
      exact ⟨n, G (b.at a' ks) [c0], w', hn, rfl, a', w', Re.refl _, .inl ⟨hq, rfl⟩⟩
    | ret =>
      obtain ⟨todo, n, hn⟩ := harr
      exact ⟨n, G { b.at a' todo with mode := .returning } [c0], w', hn, rfl, a', w', Re.refl _, .inr ⟨hq, todo, rfl⟩⟩
    | exit id => exact hq.elim
    | goto l => exact hq.elim
    | panic c => exact hq.elim
    | outgrown => exact hq.elim

theorem callsT_lone (H : Plain P F) {f : FuncId} (hf : F f = true) {args : Array Value} {R : Value → World → Prop} (h : ∀ w₁, Re w w₁ → Calls P f args w₁ (fun e w' => ∃ v, e = .returned v ∧ R v w')) : CallsT P f args w R := by
  intro c cs Stop hR
  obtain ⟨hp, hres⟩ := H.fns f hf
  have hOk : StackOk P F [Frame.enter P f args .normal] := by
    refine ⟨⟨rfl, rfl, rfl, ?_, hres⟩, by simp⟩
    intro x hx
    simp only [Frame.enter, List.mem_cons, List.not_mem_nil, or_false] at hx
    subst hx
    unfold plainFn at hp
    cases hfn : P.funcs[f]? with
    | none => rw [hfn] at hp; cases hp
    | some fn =>
      rw [hfn] at hp
      simp only [Bool.and_eq_true] at hp
      have := hp.2
      cases hb : fn.body with
      | none => rw [hb] at this; cases this
      | some c => rw [hb] at this; simpa [okItem, hb] using this
  let ExS : Goroutine → World → Prop := fun g w' => g.callers = [c0] ∧ ∃ v w'', Re w'' w' ∧ R v w'' ∧ ∃ fr, g = G fr [c0] ∧ fr.leaving P w'' (.returned v)
  have hend := transfer (z := false) (P := P) (Stop := Stop) (k := []) (cs := c :: cs) H (fun _ => rfl) (ExS := ExS) (fun σ w' hσ hE => ?_) (fun g w' hE => hE.1) (w := w) hOk (fun τ => ?_)
  · exact hend
  · obtain ⟨hcs, v, w'', hr, hRv, fr, hg, hl⟩ := hE
    cases σ with
    | nil => exact hσ.elim
    | cons f' inner =>
      rw [gx_ext] at hcs hg ⊢
      have hi : inner = [] := by
        cases inner with
        | nil => rfl
        | cons g r => simp [G, ext_cons] at hcs
      subst hi
      have hfr : tp [] f' [] = fr := congrArg Goroutine.frame hg
      subst hfr
      obtain ⟨hm, _, _, fn, hfn, hrun⟩ := hl
      have hm' : f'.mode = .returning := hm
      have hfn' : P.funcs[f'.fn]? = some fn := hfn
      have hres' := hσ.1.res
      unfold tmpRes at hres'
      rw [hfn'] at hres'
      obtain ⟨v0, hv0⟩ := results_tmps hres' f'.tmps
      have hv : v0 = v := by
        have h1 : (results fn f'.tmps).run P w'' = .ok v0 w'' := by rw [← Sem.runT_fst P _ w'' #[], hv0]
        have h2 : (results fn f'.tmps).run P w'' = .ok v w'' := hrun
        rw [h1] at h2
        cases h2
        rfl
      subst hv
      refine .ctl (g' := G (c.finish v0) cs) rfl (fun w => ?_) ((hR v0 w'' hRv).rely hr)
      have h1 : (results fn f'.tmps).run P w = .ok v0 w := by rw [← Sem.runT_fst P _ w #[], hv0]
      have h2 : (results fn f'.tmps).events P w #[] = #[] := by unfold Sem.events; rw [hv0]
      simp [G, stepG, unwind, doReturn, tp, ext, hm', hσ.1.defers, hfn', h1, h2, hσ.1.kind, seen, GStep.after]
  · obtain ⟨e, w', fr, ⟨v, rfl, hRv⟩, hc, _, hl⟩ := h (rt w τ 0) (re_rt w τ 0) [c0]
    obtain ⟨n, hn⟩ := hc
    have e1 : lone (Frame.enter P f args .normal) [c0] (rt w τ 0) = solo (gx (ext (kz false) [Frame.enter P f args .normal]) [c0]) (rt w τ 0) := by
      have : ext (kz false) [Frame.enter P f args .normal] = [Frame.enter P f args .normal] := by simp [ext, kz, Frame.enter]
      rw [this]
      rfl
    rw [e1] at hn
    exact ⟨n, G fr [c0], w', hn, rfl, v, w', Re.refl _, hRv, fr, rfl, hl⟩

end

end Go.Proofs.Ytjphaphnmclbcaa

/- The walk of goroutine 0 alone, operation by operation, where the frame is known; the go statement; what is behind a call. No condition. -/
namespace Go.Proofs.Ytjphaphnmclbcaa
open Go Go.Conc Go.ConcN

section
variable {P : Program} {Stop : Goroutine → World → Prop} {b : Frame} {a a' : Act} {k : List Item} {cs : List Frame} {ops : Array Oper} {i : Nat} {rest : List Nat} {o : Oper} {w : World}

theorem T.oper (hk : b.kind ≠ .early) (ho : ops[i]? = some o) (hw : Region.wanted o (yielded ops a.tmps) = true) (hev : ∀ w₁, Re w w₁ → ∀ e ∈ (execOp a.eval o).events P w₁ #[], Hears e)
    (h : ∀ w₁, Re w w₁ → uponK o a (fun a' w' => T P Stop (G (b.at a' (.inRegion ops rest :: k)) cs) w') ((execOp a.eval o).run P w₁)) : T P Stop (G (b.at a (.inRegion ops (i :: rest) :: k)) cs) w := by
  have key : ∀ w₁, Re w w₁ → ∃ a' w', stepG P true (G (b.at a (.inRegion ops (i :: rest) :: k)) cs) w₁ = .go (G (b.at a' (.inRegion ops rest :: k)) cs) w' (listed P b.fn a o w₁) ∧ T P Stop (G (b.at a' (.inRegion ops rest :: k)) cs) w' := by
    intro w₁ h₁
    have := h w₁ h₁
    revert this
    cases hr : (execOp a.eval o).run P w₁ with
    | ok x w' =>
      cases x <;> first | exact fun h => h.elim | skip
      · exact fun hx => ⟨_, _, stepG_value ho hw hk hr, hx⟩
      · exact fun hx => ⟨_, _, stepG_none ho hw hk hr, hx⟩
    | halt _ _ => exact fun h => h.elim
  refine .step rfl (fun w₁ h₁ => ?_) fun w₁ g' w' es h₁ hs => ?_
  · obtain ⟨a', w', hs, _⟩ := key w₁ h₁
    exact ⟨_, _, _, hs, fun e he => hev w₁ h₁ e (mem_listed he)⟩
  · obtain ⟨a', w₂, hs', hx⟩ := key w₁ h₁
    rw [hs'] at hs
    cases hs
    exact hx

theorem re_heap {w w₁ : World} (h : Re w w₁) : w₁.heap = w.heap := by obtain ⟨_, _, rfl⟩ := h; rfl
theorem re_cell {w w₁ : World} (h : Re w w₁) (ad : Addr) : w₁.cell? ad = w.cell? ad := by obtain ⟨_, _, rfl⟩ := h; rfl
theorem re_alloc {w w₁ : World} (h : Re w w₁) (ob : Obj) : Re (w.alloc ob) (w₁.alloc ob) := by obtain ⟨τ, d, rfl⟩ := h; exact ⟨τ, d, rfl⟩
theorem re_setCell {w w₁ : World} (h : Re w w₁) (ad : Addr) (v : Value) : Re (w.setCell ad v) (w₁.setCell ad v) := by obtain ⟨τ, d, rfl⟩ := h; exact ⟨τ, d, rfl⟩

theorem T.val {v : Value} (hk : b.kind ≠ .early) (ho : ops[i]? = some o) (hw : Region.wanted o (yielded ops a.tmps) = true) (hr : ∀ w₁, Re w w₁ → (execOp a.eval o).run P w₁ = .ok (.value v) w₁ ∧ ∀ e ∈ (execOp a.eval o).events P w₁ #[], Hears e) (ha : a.put o.dst v = a')
    (h : T P Stop (G (b.at a' (.inRegion ops rest :: k)) cs) w) : T P Stop (G (b.at a (.inRegion ops (i :: rest) :: k)) cs) w :=
  T.oper hk ho hw (fun w₁ h₁ => (hr w₁ h₁).2) fun w₁ h₁ => by rw [(hr w₁ h₁).1]; exact (ha ▸ h).rely h₁

theorem T.new {v : Value} {ob : Obj} (hk : b.kind ≠ .early) (ho : ops[i]? = some o) (hw : Region.wanted o (yielded ops a.tmps) = true) (hr : ∀ w₁, Re w w₁ → (execOp a.eval o).run P w₁ = .ok (.value v) (w₁.alloc ob) ∧ ∀ e ∈ (execOp a.eval o).events P w₁ #[], Hears e) (ha : a.put o.dst v = a')
    (h : T P Stop (G (b.at a' (.inRegion ops rest :: k)) cs) (w.alloc ob)) : T P Stop (G (b.at a (.inRegion ops (i :: rest) :: k)) cs) w :=
  T.oper hk ho hw (fun w₁ h₁ => (hr w₁ h₁).2) fun w₁ h₁ => by rw [(hr w₁ h₁).1]; exact (ha ▸ h).rely (re_alloc h₁ ob)

theorem T.upd {ad : Addr} {v : Value} (hk : b.kind ≠ .early) (ho : ops[i]? = some o) (hw : Region.wanted o (yielded ops a.tmps) = true) (hr : ∀ w₁, Re w w₁ → (execOp a.eval o).run P w₁ = .ok .skip (w₁.setCell ad v) ∧ ∀ e ∈ (execOp a.eval o).events P w₁ #[], Hears e) (ha : a.put o.dst undef = a')
    (h : T P Stop (G (b.at a' (.inRegion ops rest :: k)) cs) (w.setCell ad v)) : T P Stop (G (b.at a (.inRegion ops (i :: rest) :: k)) cs) w :=
  T.oper hk ho hw (fun w₁ h₁ => (hr w₁ h₁).2) fun w₁ h₁ => by rw [(hr w₁ h₁).1]; exact (ha ▸ h).rely (re_setCell h₁ ad v)

/-- Into a Go function. -/
theorem T.enterF {f : FuncId} {fd : Func} {c : Code} {args : Array Operand} {vs : Array Value} {ats : Array TypeId} (hk : b.kind ≠ .early) (ho : ops[i]? = some o) (hw : Region.wanted o (yielded ops a.tmps) = true) (hop : o.op = .call { callee := .value (.func f), args, argTypes := ats })
    (hf : P.funcs[f]? = some fd) (hname : (fd.name == "runtime.NumGoroutine") = false) (hb : fd.body = some c) (hargs : args.map a.eval = vs)
    (h : T P Stop (G ((base f).at { tmps := vs ++ Array.replicate (fd.ntmps - vs.size) undef, defers := [] } [.code c]) (b.at a (.inRegion ops (i :: rest) :: k) :: cs)) w) : T P Stop (G (b.at a (.inRegion ops (i :: rest) :: k)) cs) w := by
  have hb' : fd.body.isNone = false := by rw [hb]; rfl
  refine .ctl (g' := G (Frame.enter P f vs .normal) (b.at a (.inRegion ops (i :: rest) :: k) :: cs)) rfl (fun w => ?_) (by rw [enter_at vs hf hb]; exact h)
  rw [stepG_enter ho hw hk (run_call_body hop hf hname hb'), hargs]
  have : listed P b.fn a o w = #[] := by unfold listed; rw [events_call_body hop hf hname hb']; exact seen_none P _
  rw [this]

/-- THE GO STATEMENT: from here on the two are under way. -/
theorem T.fork {α : Type} {c : Nat} {Sh : Nat → Prop} {Phi : α → Value → (Nat → Prop) → World → Prop} {z : Value} {xs : List α} {f : FuncId} {cap : Array Value} {s : Nat} {tm : Bool} {M0 : Nat → Prop} (hPhi : Keeps Phi) (hk : b.kind ≠ .early) (ho : ops[i]? = some o) (hw : Region.wanted o (yielded ops a.tmps) = true)
    (hr : ∀ w₁, (execOp a.eval o).run P w₁ = .ok (.spawn { target := .fn (.func f) cap, args := #[] }) w₁) (he : ∀ w₁, (execOp a.eval o).events P w₁ #[] = #[]) (hch : w.heap[c]? = some (.chan 0 #[] false s s tm)) (hSh : ∀ k, Sh k → k < w.heap.size) (hc : ¬ Sh c) (hM0 : ∀ k, M0 k → k < w.heap.size ∧ k ≠ c ∧ ¬ Sh k) (ha : a.put o.dst undef = a')
    (hA : RcvF P c Sh Phi z Stop (some xs, M0) (G (b.at a' (.inRegion ops rest :: k)) cs) w) (hB : SndF P c Sh Phi (xs, fun _ => False) (born P { target := .fn (.func f) cap, args := #[] }) w) :
    T P Stop (G (b.at a (.inRegion ops (i :: rest) :: k)) cs) w := by
  refine T.jump (T P Stop) (fun w₂ h₂ => fork_reach (c := c) (Sh := Sh) (Phi := Phi) (z := z) (xs := xs) (M0 := M0) hPhi rfl fun w₁ h₁ => ?_) fun _ _ h => h
  have hre : Re w w₁ := h₂.trans h₁
  refine ⟨G (b.at a' (.inRegion ops rest :: k)) cs, born P { target := .fn (.func f) cap, args := #[] }, w₁, #[], s, tm, ?_, by simp, by rw [re_heap hre]; exact hch, by rw [re_heap hre]; exact hSh, hc, by rw [re_heap hre]; exact hM0, ?_, ?_⟩
  · rw [stepG_spawn ho hw hk (hr w₁) rfl]
    have : listed P b.fn a o w₁ = #[] := by unfold listed; rw [he]; exact seen_none P _
    rw [this, ha]
  · exact (fam_rcv (P := P) (c := c) (Sh := Sh) (Phi := Phi) (z := z) (Stop := Stop)).rely (M := (some xs, M0)) hA (Rl.of_re hre)
  · exact (fam_snd (P := P) (c := c) (Sh := Sh) hPhi).rely (M := (xs, fun _ => False)) hB (Rl.of_re hre)
end

end Go.Proofs.Ytjphaphnmclbcaa

/- listWords: all words of a content, made by the goroutine that wordsOf starts. No condition. -/
namespace Go.Proofs.Ytjphaphnmclbcaa
open Go Go.Conc Go.RowKit

/-- What the receiver holds: a list of lists of its own, each in blocks of M, each apart from all others. -/
structure LoL (B : Nat) (w : World) (M : Nat → Prop) (u : Value) (vs : List Value) (yss : List (List Int)) : Prop where
  row : w.ownsRow B 23 1 u yss.length vs
  ub : ∀ k, u.ownBlock = some k → M k
  it : ∀ (j : Nat) (v : Value), vs[j]? = some v → Own w B v (ell yss j) ∧ (∀ k, v.ownBlock = some k → M k) ∧ Apart v u
  ap : ∀ (i j : Nat) (v v' : Value), i < j → vs[i]? = some v → vs[j]? = some v' → Apart v v'

theorem row_chg {w w' : World} {B e s : Nat} {u : Value} {n : Nat} {vs : List Value} (h : w.ownsRow B e s u n vs) (hk : ∀ k, u.ownBlock = some k → w'.heap[k]? = w.heap[k]?) : w'.ownsRow B e s u n vs := by
  refine ⟨h.1, ?_⟩
  rcases h.2 with h2 | ⟨g, cap, cur, hv, hg, hh, r⟩
  · exact .inl h2
  · exact .inr ⟨g, cap, cur, hv, hg, (hk g (by rw [hv]; rfl)).trans hh, r⟩

theorem LoL.chg {B : Nat} {w w' : World} {M M' : Nat → Prop} {u : Value} {vs : List Value} {yss : List (List Int)} (h : LoL B w M u vs yss) (hk : ∀ k, M k → w'.heap[k]? = w.heap[k]?) (hM : ∀ k, M k → M' k) : LoL B w' M' u vs yss :=
  ⟨row_chg h.row fun k e => hk k (h.ub k e), fun k e => hM k (h.ub k e), fun j v hj => ⟨own_chg (h.it j v hj).1 fun k e _ => hk k ((h.it j v hj).2.1 k e), fun k e => hM k ((h.it j v hj).2.1 k e), (h.it j v hj).2.2⟩, h.ap⟩

theorem LoL.own {B : Nat} {w : World} {M : Nat → Prop} {u : Value} {vs : List Value} {yss : List (List Int)} (h : LoL B w M u vs yss) (hB : B ≤ w.heap.size) (hM : ∀ k, M k → k < w.heap.size) : OwnL w B w.heap.size u yss :=
  ⟨hB, Nat.le_refl _, vs, h.row, fun k hk => ⟨hM k (h.ub k hk), fun e => by cases e⟩, fun j v hj => ⟨(h.it j v hj).1, fun k hk => ⟨hM k ((h.it j v hj).2.1 k hk), fun e => by cases e⟩, (h.it j v hj).2.2⟩, h.ap⟩

theorem LoL.app {B : Nat} {w w' : World} {M M' : Nat → Prop} {u u' v : Value} {vs : List Value} {yss : List (List Int)} {ys : List Int} (h : LoL B w M u vs yss) (hv : Own w B v ys) (hvM : ∀ k, v.ownBlock = some k → ¬ M k)
    (hrow : w'.ownsRow B 23 1 u' (yss.length + 1) (vs ++ [v])) (hu' : u'.ownBlock = u.ownBlock ∨ ∃ K, u'.ownBlock = some K ∧ ¬ M K ∧ v.ownBlock ≠ some K) (hk : ∀ k, M k ∨ v.ownBlock = some k → u.ownBlock ≠ some k → w'.heap[k]? = w.heap[k]?)
    (hM : ∀ k, M k ∨ v.ownBlock = some k ∨ u'.ownBlock = some k → M' k) : LoL B w' M' u' (vs ++ [v]) (yss ++ [ys]) := by
  have hvl : vs.length = yss.length := by rw [h.row.1, Nat.mul_one]
  have hvu : Apart v u := by
    unfold Apart
    cases e : v.ownBlock with
    | none => exact .inl rfl
    | some k => exact .inr fun e2 => hvM k e (h.ub k e2.symm)
  have hvu' : Apart v u' := by
    rcases hu' with e | ⟨K, e, _, hK⟩
    · unfold Apart at *; rw [e]; exact hvu
    · exact .inr (by rw [e]; exact hK)
  have hap : ∀ t, Apart t u → (∀ k, t.ownBlock = some k → M k) → Apart t u' := by
    intro t ht htM
    rcases hu' with e | ⟨K, e, hK, _⟩
    · unfold Apart at *; rw [e]; exact ht
    · unfold Apart
      cases e2 : t.ownBlock with
      | none => exact .inl rfl
      | some k => exact .inr fun e3 => hK (by rw [e] at e3; cases e3; exact htM _ e2)
  have ne_of : ∀ {t : Value}, Apart t u → ∀ k, t.ownBlock = some k → u.ownBlock ≠ some k := by
    intro t ht k e e2
    rcases ht with h1 | h1
    · rw [h1] at e; cases e
    · exact h1 (e.trans e2.symm)
  refine ⟨by rw [List.length_append]; exact hrow, fun k e => hM k (.inr (.inr e)), fun j t hj => ?_, fun i j t t' hij hti htj => ?_⟩
  · by_cases hjl : j < vs.length
    · rw [List.getElem?_append_left hjl] at hj
      obtain ⟨p, q, r⟩ := h.it j t hj
      rw [ell_app_lt (by omega)]
      exact ⟨own_chg p fun k e _ => hk k (.inl (q k e)) (ne_of r k e), fun k e => hM k (.inl (q k e)), hap t r q⟩
    · have hj2 : j = yss.length := by
        have := (List.getElem?_eq_some_iff.1 hj).1
        rw [List.length_append, List.length_singleton] at this
        omega
      subst hj2
      rw [List.getElem?_append_right (by omega), hvl, Nat.sub_self] at hj
      simp at hj
      subst hj
      rw [ell_app_eq]
      exact ⟨own_chg hv fun k e _ => hk k (.inr e) (ne_of hvu k e), fun k e => hM k (.inr (.inl e)), hvu'⟩
  · have hil : i < vs.length := by
      have := (List.getElem?_eq_some_iff.1 htj).1
      rw [List.length_append, List.length_singleton] at this
      omega
    rw [List.getElem?_append_left hil] at hti
    by_cases hjl : j < vs.length
    · rw [List.getElem?_append_left hjl] at htj
      exact h.ap i j t t' hij hti htj
    · have hj2 : j = vs.length := by
        have := (List.getElem?_eq_some_iff.1 htj).1
        rw [List.length_append, List.length_singleton] at this
        omega
      subst hj2
      rw [List.getElem?_append_right (Nat.le_refl _), Nat.sub_self] at htj
      simp at htj
      subst htj
      unfold Apart
      cases e : t.ownBlock with
      | none => exact .inl rfl
      | some k => exact .inr fun e2 => hvM k e2.symm ((h.it i t hti).2.1 k e)

/-- At the head of listWords' loop: these words are still to come. -/
structure InvL (L : List Nat) (g1 c B : Nat) (Sh : Nat → Prop) (w6 : World) (words : List (List Int)) (rem : List (List Int)) (a : Act) (w : World) (M : Gh (Option (List (List Int)))) : Prop where
  act : ∃ (u : Value) (vs : List Value) (done : List (List Int)) (x2 x4 x5 x6 x8 x9 x10 x11 x12 x13 x14 x15 : Value), a = { tmps := #[.agg (cellsOf L), .pointer (some ⟨g1, 0, none⟩), x2, u, x4, x5, x6, .chan (some c), x8, x9, x10, x11, x12, x13, x14, x15], defers := [] } ∧ done ++ rem = words ∧ LoL B w M.2 u vs done
  ix : M.1 = some rem
  there : There Sh w M
  rl : Rl Sh (fun _ => False) w6 w
  ns : ∀ k, M.2 k → ¬ Sh k

theorem fill1 (f : Nat → Value) (v : Value) (hv : v.cells = #[v]) : Instr.fill (fun i => some (i * 1, 1)) ((Array.range (1 * 1)).map f) [(0, v)] = some #[v] := by
  simp [Instr.fill, hv]
  apply Array.ext'
  simp [List.range, List.range.loop]
theorem own_cells {w : World} {B : Nat} {v : Value} {ys : List Int} (h : Own w B v ys) : v.cells = #[v] := by
  rcases h.place with ⟨rfl, _⟩ | ⟨gv, cv, rfl, _⟩ <;> rfl

theorem load_T {w : World} {a : Act} {o : Oper} {ty t : TypeId} {x : Operand} {g : Nat} {cs : Array Value} {fr : Nat × Nat} (hop : o.op = .load ty x) (hd : aggT Try.prog ty = true) (hi : (Try.prog.info? ty).map (·.size) = some cs.size) (hx : a.eval x = .pointer (some ⟨g, 0, none⟩)) (hc : w.heap[g]? = some (.cells cs t fr)) :
    (execOp a.eval o).run Try.prog w = .ok (.value (.agg cs)) w ∧ ∀ e ∈ (execOp a.eval o).events Try.prog w #[], Hears e := by
  obtain ⟨d, hu, hdd⟩ := aggT_out hd
  have hr := run_loadVar_row (P := Try.prog) w g t ty cs fr d hc hu (by cases d <;> first | rfl | exact hdd) hi
  obtain ⟨ti, hinf, hsz⟩ := Option.map_eq_some_iff.1 hi
  unfold execOp
  simp only [hop]
  refine ⟨?_, fun ev he => ?_⟩
  · simp [Instr.loadAt, Instr.sureAddr, hx, hr]
  · simp [Instr.loadAt, Instr.sureAddr, hx, loadVar, isAgg_agg hd, sizeOf, typeInfo, hinf, loadCells] at he
    rcases events_loadCellsFrom_reads (P := Try.prog) _ _ _ _ _ _ ev he with h2 | ⟨ad, h2, h3⟩
    · simp at h2
    · exact ⟨by rw [h2]; simp, by rw [h2]; simp⟩

theorem infoCh : (Try.prog.info? 79).map (fun i => i.zero) = some (some (.chan none)) := by kernel_rfl
theorem infoCh1 : (Try.prog.info? 79).map (·.size) = some 1 := by kernel_rfl

theorem store_T {w : World} {a : Act} {o : Oper} {t : TypeId} {x y : Operand} {ad : Addr} {v u : Value} (hop : o.op = .store t x y) (hi : (Try.prog.info? t).map (·.size) = some 1) (hv : v.cells = #[v]) (h1 : v.oneCell' = true) (hx : a.eval x = .pointer (some ad)) (hy : a.eval y = v) (hc : w.cell? ad = some u) (hf : w.frozen? ad = false) :
    (execOp a.eval o).run Try.prog w = .ok .skip (w.setCell ad v) ∧ ∀ e ∈ (execOp a.eval o).events Try.prog w #[], Hears e := by
  obtain ⟨inf, hinf, hsz⟩ := Option.map_eq_some_iff.1 hi
  have e0 : ad.add 0 = ad := by simp [Addr.add]
  have hst : (store ad v).run Try.prog w = .ok () (w.setCell ad v) := by rw [run_store Try.prog w ad v .plain h1]; simp [hc, hf]
  have hev : (store ad v).events Try.prog w #[] = #[⟨.cell ad, true, false⟩] := by rw [events_store Try.prog w #[] ad v .plain h1]; simp [hc, hf]
  refine ⟨?_, fun e he => ?_⟩
  · unfold execOp
    simp [hop, Instr.storeAt, Instr.sureAddr, hx, hy, storeVar, sizeOf, hv, storeCells, typeInfo, hinf, hsz, e0, hst]
  · unfold execOp at he
    simp [hop, Instr.storeAt, Instr.sureAddr, hx, hy, storeVar, sizeOf, hv, storeCells, typeInfo, hinf, hsz, e0, hev] at he
    subst he
    exact ⟨by simp, by simp⟩

set_option linter.unusedSimpArgs false in
set_option maxHeartbeats 4000000 in
theorem listWords_T (L : List Nat) (w : World) (hL : L.length = 4) (hs : L.sum ≤ 100) (hlen : (wgo L.sum [] L).length ≤ 1000000) (cf : Frame) (cs : List Frame) (Stop : Goroutine → World → Prop)
    (hR : ∀ v w', OwnL w' w.heap.size w'.heap.size v (wgo L.sum [] L) → Only w w' → T Try.prog Stop (G (cf.finish v) cs) w') :
    T Try.prog Stop (G (Frame.enter Try.prog 72 #[.agg (cellsOf L)] .normal) (cf :: cs)) w := by
  rw [enter_at _ Try.func72 rfl]
  simp only [Try.ntmps72, List.size_toArray, List.length_cons, List.length_nil, Nat.reduceAdd, Nat.reduceSub, Array.replicate_succ,
     Array.replicate_zero, List.push_toArray, List.append_toArray, List.nil_append, List.cons_append]
  obtain ⟨bl, hbl⟩ : ∃ bl, bl = base 72 := ⟨_, rfl⟩
  have hkb : bl.kind ≠ .early := by rw [hbl]; simp [base]
  rw [← hbl]
  refine .ctl rfl (fun _ => stepG_seq) ?_
  refine .ctl rfl (fun _ => stepG_region) ?_
  simp only [List.size_toArray, List.length_cons, List.length_nil, Nat.reduceAdd, Nat.zero_add, List.range, List.range.loop]
  refine T.new (v := .pointer (some ⟨w.heap.size, 0, none⟩)) (ob := .cells (cellsOf L) 63) hkb rfl rfl (fun w₁ h₁ => ⟨?_, by simp [go_sem]⟩) (by (with_reducible simp only [Act.put, Act.eval, Array.getD_eq_getD_getElem?, List.getElem?_toArray, List.getElem_toArray, List.getElem_cons_zero, List.getElem_cons_succ, List.getElem?_cons_zero, List.getElem?_cons_succ, Option.getD_some, List.setIfInBounds_toArray, List.set_cons_zero, List.set_cons_succ]); exact rfl) ?_
  · go_simp
    simp [Instr.box, newVar, newRow, Value.cells, re_heap h₁]
  refine T.val hkb rfl rfl (fun w₁ h₁ => ⟨(by go_simp; exact rfl), by simp [go_sem]⟩) (by (with_reducible simp only [Act.put, Act.eval, Array.getD_eq_getD_getElem?, List.getElem?_toArray, List.getElem_toArray, List.getElem_cons_zero, List.getElem_cons_succ, List.getElem?_cons_zero, List.getElem?_cons_succ, Option.getD_some, List.setIfInBounds_toArray, List.set_cons_zero, List.set_cons_succ]); exact rfl) ?_
  refine .ctl rfl (fun _ => stepG_region_end) ?_
  obtain ⟨w1, hw1⟩ : ∃ w1, w1 = w.alloc (.cells (cellsOf L) 63) := ⟨_, rfl⟩
  have s1 : w.heap.size < w1.heap.size := by rw [hw1, World.size_alloc]; exact Nat.lt_succ_self _
  have b1 : w1.heap[w.heap.size]? = some (.cells (cellsOf L) 63 (0, 0)) := by rw [hw1]; exact heap_alloc_new _ _
  have o1 : Only w w1 := by rw [hw1]; exact ⟨rfl, rfl, by rw [World.size_alloc]; exact Nat.le_succ _, fun k hk => heap_alloc_old _ _ hk⟩
  rw [← hw1]
  clear hw1
  refine .ctl rfl (fun _ => stepG_seq) ?_
  refine .ctl rfl (fun _ => stepG_region) ?_
  simp only [List.size_toArray, List.length_cons, List.length_nil, Nat.reduceAdd, Nat.zero_add, List.range, List.range.loop]
  refine T.new (v := .slice (some ⟨w1.heap.size, 0, none⟩) 0 0) (ob := .cells #[] 23) hkb rfl rfl (fun w₁ h₁ => ⟨?_, ?_⟩) (by (with_reducible simp only [Act.put, Act.eval, Array.getD_eq_getD_getElem?, List.getElem?_toArray, List.getElem_toArray, List.getElem_cons_zero, List.getElem_cons_succ, List.getElem?_cons_zero, List.getElem?_cons_succ, Option.getD_some, List.setIfInBounds_toArray, List.set_cons_zero, List.set_cons_succ]); exact rfl) ?_
  · go_simp
    simp [re_heap h₁]
  · simp [go_sem]
  refine T.val hkb rfl rfl (fun w₁ h₁ => ⟨(by go_simp; exact rfl), by simp [go_sem]⟩) (by (with_reducible simp only [Act.put, Act.eval, Array.getD_eq_getD_getElem?, List.getElem?_toArray, List.getElem_toArray, List.getElem_cons_zero, List.getElem_cons_succ, List.getElem?_cons_zero, List.getElem?_cons_succ, Option.getD_some, List.setIfInBounds_toArray, List.set_cons_zero, List.set_cons_succ]); exact rfl) ?_
  refine .ctl rfl (fun _ => stepG_region_end) ?_
  obtain ⟨w2, hw2⟩ : ∃ w2, w2 = w1.alloc (.cells #[] 23) := ⟨_, rfl⟩
  have s2 : w1.heap.size < w2.heap.size := by rw [hw2, World.size_alloc]; exact Nat.lt_succ_self _
  have b2 : w2.heap[w1.heap.size]? = some (.cells #[] 23 (0, 0)) := by rw [hw2]; exact heap_alloc_new _ _
  have o2 : Only w1 w2 := by rw [hw2]; exact ⟨rfl, rfl, by rw [World.size_alloc]; exact Nat.le_succ _, fun k hk => heap_alloc_old _ _ hk⟩
  rw [← hw2]
  clear hw2
  refine .ctl rfl (fun _ => stepG_seq) ?_
  refine .ctl rfl (fun _ => stepG_seq) ?_
  refine .ctl rfl (fun _ => stepG_region) ?_
  simp only [List.size_toArray, List.length_cons, List.length_nil, Nat.reduceAdd, Nat.zero_add, List.range, List.range.loop]
  have hcs : (cellsOf L).size = 4 := by simp [cellsOf, hL]
  have bo : w2.heap[w.heap.size]? = some (.cells (cellsOf L) 63 (0, 0)) := (o2.keep _ s1).trans b1
  refine T.val (v := .agg (cellsOf L)) hkb rfl rfl (fun w₁ h₁ => ?_) (by (with_reducible simp only [Act.put, Act.eval, Array.getD_eq_getD_getElem?, List.getElem?_toArray, List.getElem_toArray, List.getElem_cons_zero, List.getElem_cons_succ, List.getElem?_cons_zero, List.getElem?_cons_succ, Option.getD_some, List.setIfInBounds_toArray, List.set_cons_zero, List.set_cons_succ]); exact rfl) ?_
  · exact load_T rfl (by kernel_rfl) (by rw [hcs]; exact info4) rfl (by rw [re_heap h₁]; exact bo)
  refine T.enterF (vs := #[.agg (cellsOf L)]) hkb rfl rfl rfl Try.func93 (by kernel_rfl) rfl (by simp only [List.map_toArray, List.map_cons, List.map_nil]; rfl) ?_
  simp only [Try.ntmps93, List.size_toArray, List.length_cons, List.length_nil, Nat.reduceAdd, Nat.reduceSub, Array.replicate_succ,
     Array.replicate_zero, List.push_toArray, List.append_toArray, List.nil_append, List.cons_append]
  obtain ⟨bw, hbw⟩ : ∃ bw, bw = base 93 := ⟨_, rfl⟩
  have hkw : bw.kind ≠ .early := by rw [hbw]; simp [base]
  rw [← hbw]
  refine .ctl rfl (fun _ => stepG_seq) ?_
  refine .ctl rfl (fun _ => stepG_region) ?_
  simp only [List.size_toArray, List.length_cons, List.length_nil, Nat.reduceAdd, Nat.zero_add, List.range, List.range.loop]
  refine T.new (v := .pointer (some ⟨w2.heap.size, 0, none⟩)) (ob := .cells (cellsOf L) 63) hkw rfl rfl (fun w₁ h₁ => ⟨?_, by simp [go_sem]⟩) (by (with_reducible simp only [Act.put, Act.eval, Array.getD_eq_getD_getElem?, List.getElem?_toArray, List.getElem_toArray, List.getElem_cons_zero, List.getElem_cons_succ, List.getElem?_cons_zero, List.getElem?_cons_succ, Option.getD_some, List.setIfInBounds_toArray, List.set_cons_zero, List.set_cons_succ]); exact rfl) ?_
  · go_simp
    simp [Instr.box, newVar, newRow, Value.cells, re_heap h₁]
  refine T.val hkw rfl rfl (fun w₁ h₁ => ⟨(by go_simp; exact rfl), by simp [go_sem]⟩) (by (with_reducible simp only [Act.put, Act.eval, Array.getD_eq_getD_getElem?, List.getElem?_toArray, List.getElem_toArray, List.getElem_cons_zero, List.getElem_cons_succ, List.getElem?_cons_zero, List.getElem?_cons_succ, Option.getD_some, List.setIfInBounds_toArray, List.set_cons_zero, List.set_cons_succ]); exact rfl) ?_
  refine .ctl rfl (fun _ => stepG_region_end) ?_
  obtain ⟨w3, hw3⟩ : ∃ w3, w3 = w2.alloc (.cells (cellsOf L) 63) := ⟨_, rfl⟩
  have s3 : w2.heap.size < w3.heap.size := by rw [hw3, World.size_alloc]; exact Nat.lt_succ_self _
  have b3 : w3.heap[w2.heap.size]? = some (.cells (cellsOf L) 63 (0, 0)) := by rw [hw3]; exact heap_alloc_new _ _
  have o3 : Only w2 w3 := by rw [hw3]; exact ⟨rfl, rfl, by rw [World.size_alloc]; exact Nat.le_succ _, fun k hk => heap_alloc_old _ _ hk⟩
  rw [← hw3]
  clear hw3
  refine .ctl rfl (fun _ => stepG_seq) ?_
  refine .ctl rfl (fun _ => stepG_region) ?_
  simp only [List.size_toArray, List.length_cons, List.length_nil, Nat.reduceAdd, Nat.zero_add, List.range, List.range.loop]
  refine T.new (v := .chan (some w3.heap.size)) (ob := .chan 0 #[] false 0 0 false) hkw rfl rfl (fun w₁ h₁ => ⟨?_, ?_⟩) (by (with_reducible simp only [Act.put, Act.eval, Array.getD_eq_getD_getElem?, List.getElem?_toArray, List.getElem_toArray, List.getElem_cons_zero, List.getElem_cons_succ, List.getElem?_cons_zero, List.getElem?_cons_succ, Option.getD_some, List.setIfInBounds_toArray, List.set_cons_zero, List.set_cons_succ]); exact rfl) ?_
  · go_simp
    simp [Instr.makeChan, asInt, asIntOf, re_heap h₁]
  · go_simp
    simp [Instr.makeChan, asInt, asIntOf]
  obtain ⟨w4, hw4⟩ : ∃ w4, w4 = w3.alloc (.chan 0 #[] false 0 0 false) := ⟨_, rfl⟩
  have s4 : w3.heap.size < w4.heap.size := by rw [hw4, World.size_alloc]; exact Nat.lt_succ_self _
  have b4 : w4.heap[w3.heap.size]? = some (.chan 0 #[] false 0 0 false) := by rw [hw4]; exact heap_alloc_new _ _
  have o4 : Only w3 w4 := by rw [hw4]; exact ⟨rfl, rfl, by rw [World.size_alloc]; exact Nat.le_succ _, fun k hk => heap_alloc_old _ _ hk⟩
  rw [← hw4]
  clear hw4
  obtain ⟨ic, hic, hzc⟩ := Option.map_eq_some_iff.1 infoCh
  refine T.new (v := .pointer (some ⟨w4.heap.size, 0, none⟩)) (ob := .cells #[.chan none] 79) hkw rfl rfl (fun w₁ h₁ => ⟨?_, ?_⟩) (by (with_reducible simp only [Act.put, Act.eval, Array.getD_eq_getD_getElem?, List.getElem?_toArray, List.getElem_toArray, List.getElem_cons_zero, List.getElem_cons_succ, List.getElem?_cons_zero, List.getElem?_cons_succ, Option.getD_some, List.setIfInBounds_toArray, List.set_cons_zero, List.set_cons_succ]); exact rfl) ?_
  · go_simp
    simp [Instr.alloc, newVar, newRow, zeroValue, typeInfo, hic, hzc, Value.cells, re_heap h₁]
  · go_simp
  obtain ⟨w5, hw5⟩ : ∃ w5, w5 = w4.alloc (.cells #[.chan none] 79) := ⟨_, rfl⟩
  have s5 : w4.heap.size < w5.heap.size := by rw [hw5, World.size_alloc]; exact Nat.lt_succ_self _
  have b5 : w5.heap[w4.heap.size]? = some (.cells #[.chan none] 79 (0, 0)) := by rw [hw5]; exact heap_alloc_new _ _
  have o5 : Only w4 w5 := by rw [hw5]; exact ⟨rfl, rfl, by rw [World.size_alloc]; exact Nat.le_succ _, fun k hk => heap_alloc_old _ _ hk⟩
  rw [← hw5]
  clear hw5
  refine T.upd (ad := ⟨w4.heap.size, 0, none⟩) (v := .chan (some w3.heap.size)) hkw rfl rfl (fun w₁ h₁ => ?_) (by (with_reducible simp only [Act.put, Act.eval, Array.getD_eq_getD_getElem?, List.getElem?_toArray, List.getElem_toArray, List.getElem_cons_zero, List.getElem_cons_succ, List.getElem?_cons_zero, List.getElem?_cons_succ, Option.getD_some, List.setIfInBounds_toArray, List.set_cons_zero, List.set_cons_succ]); exact rfl) ?_
  · have hb : w₁.heap[w4.heap.size]? = some (.cells #[.chan none] 79 (0, 0)) := by rw [re_heap h₁]; exact b5
    exact store_T rfl infoCh1 rfl rfl rfl rfl (by rw [cell_of_row w₁ _ 0 _ _ _ hb]; rfl) (by simp [World.frozen?, hb])
  obtain ⟨w6, hw6⟩ : ∃ w6, w6 = w5.setCell ⟨w4.heap.size, 0, none⟩ (.chan (some w3.heap.size)) := ⟨_, rfl⟩
  have s6 : w6.heap.size = w5.heap.size := by rw [hw6]; exact setCell_size _ _ _
  have k6 : ∀ k, k ≠ w4.heap.size → w6.heap[k]? = w5.heap[k]? := fun k hk => by rw [hw6]; exact setCell_other _ _ _ hk
  have c6 : w6.cell? ⟨w4.heap.size, 0, none⟩ = some (.chan (some w3.heap.size)) := by
    rw [hw6, setCell_eq_setRow w5 _ 0 _ _ _ _ b5, cell_of_row _ _ 0 _ _ _ (setRow_heap w5 _ _ _ _ _ b5)]
    rfl
  have q6 : w6.os = w5.os ∧ w6.output = w5.output := by rw [hw6]; exact ⟨rfl, rfl⟩
  rw [← hw6]
  clear hw6
  refine .ctl rfl (fun _ => stepG_region_end) ?_
  refine .ctl rfl (fun _ => stepG_seq) ?_
  refine .ctl rfl (fun _ => stepG_region) ?_
  simp only [List.size_toArray, List.length_cons, List.length_nil, Nat.reduceAdd, Nat.zero_add, List.range, List.range.loop]
  refine T.val (v := .func (.func 104) #[] #[.pointer (some ⟨w4.heap.size, 0, none⟩), .pointer (some ⟨w2.heap.size, 0, none⟩)]) hkw rfl rfl (fun w₁ h₁ => ⟨(by go_simp), by simp [go_sem]⟩) (by (with_reducible simp only [Act.put, Act.eval, Array.getD_eq_getD_getElem?, List.getElem?_toArray, List.getElem_toArray, List.getElem_cons_zero, List.getElem_cons_succ, List.getElem?_cons_zero, List.getElem?_cons_succ, Option.getD_some, List.setIfInBounds_toArray, List.set_cons_zero, List.set_cons_succ]); exact rfl) ?_
  have hc3 : w3.heap.size < w6.heap.size := by omega
  obtain ⟨Sh, hSh⟩ : ∃ Sh : Nat → Prop, Sh = fun k => k < w6.heap.size ∧ k ≠ w3.heap.size ∧ k ≠ w1.heap.size := ⟨_, rfl⟩
  obtain ⟨B6, hB6⟩ : ∃ B6, B6 = w6.heap.size := ⟨_, rfl⟩
  have shlt : ∀ k, Sh k → k < B6 := fun k hk => by rw [hSh] at hk; rw [hB6]; exact hk.1
  have shw4 : Sh w4.heap.size := by rw [hSh]; exact ⟨by omega, by omega, by omega⟩
  have shw2 : Sh w2.heap.size := by rw [hSh]; exact ⟨by omega, by omega, by omega⟩
  have bc6 : w6.heap[w2.heap.size]? = some (.cells (cellsOf L) 63 (0, 0)) := by
    rw [k6 _ (by omega), o5.keep _ (by omega), o4.keep _ (by omega)]
    exact b3
  have hS : Fam Try.prog true Sh (RcvF Try.prog w3.heap.size Sh (PhiW B6) (.slice none 0 0) Stop) := fam_rcv
  refine T.fork (c := w3.heap.size) (Sh := Sh) (Phi := PhiW B6) (z := .slice none 0 0) (xs := wgo L.sum [] L) (s := 0) (tm := false) (M0 := fun k => k = w1.heap.size) (phiW_keeps _) hkw rfl rfl (fun w₁ => ?_) (fun w₁ => ?_) ?_ (fun k hk => hB6 ▸ shlt k hk)
    (by rw [hSh]; exact fun h => h.2.1 rfl) (fun k hk => ?_) (by (with_reducible simp only [Act.put, Act.eval, Array.getD_eq_getD_getElem?, List.getElem?_toArray, List.getElem_toArray, List.getElem_cons_zero, List.getElem_cons_succ, List.getElem?_cons_zero, List.getElem?_cons_succ, Option.getD_some, List.setIfInBounds_toArray, List.set_cons_zero, List.set_cons_succ]); exact rfl) ?_ (child_snd L w4.heap.size w2.heap.size w6 hL hs shlt (by omega) shw4 shw2 c6 bc6)
  · go_simp
  · go_simp
  · rw [k6 _ (by omega), o5.keep _ (by omega)]
    exact b4
  · subst hk
    rw [hSh]
    exact ⟨by omega, by omega, fun h => h.2.2 rfl⟩
  · refine hS.ctl rfl (fun _ => stepG_region_end) ?_
    refine hS.ctl rfl (fun _ => stepG_seq) ?_
    refine WpC.at (fn := 93) (R := fun a w' M' => a = { tmps := #[.agg (cellsOf L), .pointer (some ⟨w2.heap.size, 0, none⟩), .chan (some w3.heap.size), .pointer (some ⟨w4.heap.size, 0, none⟩), .chan (some w3.heap.size), .func (.func 104) #[] #[.pointer (some ⟨w4.heap.size, 0, none⟩), .pointer (some ⟨w2.heap.size, 0, none⟩)], .chan (some w3.heap.size)], defers := [] } ∧ w' = w6 ∧ M' = (some (wgo L.sum [] L), fun k => k = w1.heap.size)) ?_ (by rw [hbw]; rfl) hkw ?_
    · refine wpC_region hS ?_
      simp only [List.size_toArray, List.length_cons, List.length_nil, Nat.reduceAdd, Nat.zero_add, List.range, List.range.loop]
      refine opsC_load (ad := ⟨w4.heap.size, 0, none⟩) (v := .chan (some w3.heap.size)) hS rfl rfl rfl (by kernel_rfl) rfl (.inl shw4) c6 ?_
      repeat first
        | refine opsC_moveA hS rfl rfl (.inl rfl) ?_
        | refine opsC_moveA hS rfl rfl (.inr rfl) ?_
        | refine opsC_binA hS rfl rfl rfl rfl rfl rfl ?_
        | refine opsC_lenA hS rfl rfl rfl (by kernel_rfl) rfl ?_
        | (refine opsC_plain hS rfl rfl fun _ K hK => ?_; go_simp; refine hK _ (by simp [go_sem, events_cap_slice, events_slice_hi, *]) ?_; clear hK K; try walk_nrm)
      exact opsC_nil hS ⟨rfl, rfl, rfl, rfl⟩
    rintro a0 w0' M0' ⟨ha0, hw0, hM0⟩
    rw [ha0, hw0, hM0]
    clear ha0 hw0 hM0
    refine hS.ctl rfl (fun _ => stepG_ret') ?_
    refine hS.ctl rfl (fun w => stepG_leave (by rw [hbw]; rfl) rfl (by rw [hbw]; exact Try.func93) (resultsC_tmp rfl _ w).1 (resultsC_tmp rfl _ w).2) ?_
    rw [Frame.finish_at]
    refine hS.ctl rfl (fun _ => stepG_region_end) ?_
    refine WpC.at (fn := 72) (R := fun a w' M' => ∃ (u : Value) (vs : List Value) (x2 x4 x5 x6 x8 x9 x10 x11 x12 x13 x14 x15 : Value), a = { tmps := #[.agg (cellsOf L), .pointer (some ⟨w.heap.size, 0, none⟩), x2, u, x4, x5, x6, .chan (some w3.heap.size), x8, x9, x10, x11, x12, x13, x14, x15], defers := [] } ∧ LoL w.heap.size w' M'.2 u vs (wgo L.sum [] L) ∧ M'.1 = none ∧ There Sh w' M' ∧ Rl Sh (fun _ => False) w6 w') ?_ (by rw [hbl]; rfl) hkb ?_
    · refine wpC_block hS ?_
      refine wpC_loop_of hS ?_
      refine loopC_list (InvL L w.heap.size w3.heap.size w.heap.size Sh w6 (wgo L.sum [] L)) ?_ ?_ (wgo L.sum [] L) _ _ _ ⟨⟨.slice (some ⟨w1.heap.size, 0, none⟩) 0 0, [], [], _, _, _, _, _, _, _, _, _, _, _, _, rfl, rfl, ?_⟩, rfl, ?_, Rl.refl _ _ _, ?_⟩
      · rintro x rem a w' ⟨Mi, M'⟩ ⟨⟨u, vs, done, x2, x4, x5, x6, x8, x9, x10, x11, x12, x13, x14, x15, rfl, hdn, hl⟩, hix, hth, hrl, hMSh⟩ hN
        simp only at hix
        subst hix
        refine loopC_round hS ?_
        refine wpC_seq hS ?_
        refine wpC_region hS ?_
        simp only [List.size_toArray, List.length_cons, List.length_nil, Nat.reduceAdd, Nat.zero_add, List.range, List.range.loop]
        refine opsC_recv rfl rfl (fun w => by simp [go_sem, rcase]) fun w₂ v V h₂ hP hV => ?_
        obtain ⟨hv, hVe⟩ := hP
        have hl2 := hl.chg (w' := w₂) (M' := M') (fun k hk => h₂.keep k (.inr hk)) (fun _ h => h)
        have th2 : There Sh w₂ ((some rem, fun k => M' k ∨ V k) : Gh (Option (List (List Int)))) := fun k hk => by
          have hsz := h₂.size
          rcases hk with hk | hk | hk
          · have := hth k (.inl hk); omega
          · have := hth k (.inr hk); omega
          · exact (hV k hk).2.2.2
        have hlt2 : ∀ k, M' k → k < w₂.heap.size := fun k hk => th2 k (.inr (.inl hk))
        have rl2 : Rl Sh (fun _ => False) w6 w₂ := hrl.trans (h₂.mono fun k hk => hk.elim)
        have hvV : ∀ k, v.ownBlock = some k → V k := fun k hk => by rw [hVe]; exact hk
        have hvN : ∀ k, v.ownBlock = some k → ¬ M' k := fun k hk => (hV k (hvV k hk)).1
        have hvlt : ∀ k, v.ownBlock = some k → k < w₂.heap.size := fun k hk => (hV k (hvV k hk)).2.2.2
        (refine opsC_plain hS rfl rfl fun _ K hK => ?_; go_simp; refine hK _ (by simp [go_sem, events_cap_slice, events_slice_hi, *]) ?_; clear hK K; try walk_nrm)
        refine opsC_nil hS ?_
        show WpC _ _ _ _ _ _ _
        refine wpC_seq hS ?_
        refine wpC_cond (t := true) hS rfl ?_
        simp only [if_true, if_false, Bool.false_eq_true]
        refine wpC_skip hS ?_
        show WpC _ _ _ _ _ _ _
        refine wpC_block hS ?_
        refine wpC_seq hS ?_
        refine wpC_region hS ?_
        simp only [List.size_toArray, List.length_cons, List.length_nil, Nat.reduceAdd, Nat.zero_add, List.range, List.range.loop]
        (refine opsC_plain hS rfl rfl fun _ K hK => ?_; go_simp; refine hK _ (by simp [go_sem, events_cap_slice, events_slice_hi, *]) ?_; clear hK K; try walk_nrm)
        repeat first
          | refine opsC_moveA hS rfl rfl (.inl rfl) ?_
          | refine opsC_moveA hS rfl rfl (.inr rfl) ?_
          | refine opsC_binA hS rfl rfl rfl rfl rfl rfl ?_
          | refine opsC_lenA hS rfl rfl rfl (by kernel_rfl) rfl ?_
          | (refine opsC_plain hS rfl rfl fun _ K hK => ?_; go_simp; refine hK _ (by simp [go_sem, events_cap_slice, events_slice_hi, *]) ?_; clear hK K; try walk_nrm)
        refine opsC_nil hS ?_
        show WpC _ _ _ _ _ _ _
        refine wpC_region hS ?_
        simp only [List.size_toArray, List.length_cons, List.length_nil, Nat.reduceAdd, Nat.zero_add, List.range, List.range.loop]
        first
          | refine opsC_moveA hS rfl rfl (.inl rfl) ?_
          | refine opsC_moveA hS rfl rfl (.inr rfl) ?_
          | refine opsC_binA hS rfl rfl rfl rfl rfl rfl ?_
          | refine opsC_lenA hS rfl rfl rfl (by kernel_rfl) rfl ?_
          | (refine opsC_plain hS rfl rfl fun _ K hK => ?_; go_simp; refine hK _ (by simp [go_sem, events_cap_slice, events_slice_hi, *]) ?_; clear hK K; try walk_nrm)
        first
          | refine opsC_moveA hS rfl rfl (.inl rfl) ?_
          | refine opsC_moveA hS rfl rfl (.inr rfl) ?_
          | refine opsC_binA hS rfl rfl rfl rfl rfl rfl ?_
          | refine opsC_lenA hS rfl rfl rfl (by kernel_rfl) rfl ?_
          | (refine opsC_plain hS rfl rfl fun _ K hK => ?_; go_simp; refine hK _ (by simp [go_sem, events_cap_slice, events_slice_hi, *]) ?_; clear hK K; try walk_nrm)
        obtain ⟨iL, hiL, zL0, zL1, zL2⟩ := info_parts infoL
        refine opsC_buildSlice (cells := #[v]) hS rfl rfl rfl Try.underlying38 hiL zL0 zL1 (by omega) ?_ fun wa ha => ?_
        · refine (congrArg (Instr.fill _ _) (show _ = [(0, v)] from ?_)).trans (fill1 _ v (own_cells hv))
          simp only [List.map_toArray, List.map_cons, List.map_nil]
          rfl
        have hgb := World.grownBy_alloc wa (.cells #[v] 23) none
        obtain ⟨wb, hwb⟩ : ∃ wb, wb = wa.alloc (.cells #[v] 23) := ⟨_, rfl⟩
        have hcb : wb.heap[wa.heap.size]? = some (.cells #[v] 23 (0, 0)) := by rw [hwb]; exact heap_alloc_new _ _
        have hsb : wa.heap.size < wb.heap.size := by rw [hwb, World.size_alloc]; exact Nat.lt_succ_self _
        rw [← hwb] at hgb ⊢
        have fb := (Fwd.refl Sh w₂ ((some rem, fun k => M' k ∨ V k) : Gh (Option (List (List Int))))).grown ha hgb (fun k hk => by cases hk) th2
        have thb := th2.grown ha hgb.size
        have hlb := hl2.chg (w' := wb) (M' := M') (fun k hk => fb.rl.keep k (.inr (.inl hk))) (fun _ h => h)
        have hvb := own_chg (w' := wb) hv fun k hk _ => fb.rl.keep k (.inr (.inr (hvV k hk)))
        have has := ha.size
        clear hwb hgb
        have hdl : done.length + 1 ≤ 1000000 := by
          have := congrArg List.length hdn
          simp at this
          omega
        refine opsC_append hS rfl rfl _ _ 38 rfl w.heap.size 23 iL (.slice none 0 0) Try.underlying38 hiL zL0 zL1 (by rw [zL2]; decide) rfl u done.length vs rfl hlb.row (fun k hk => .inl (.inl (hlb.ub k hk))) ⟨wa.heap.size, 0, none⟩ 1 1 [v] rfl (.inr (.inr ⟨Nat.le_refl _, hsb⟩)) rfl
          (fun j y hj => ?_) (by intro y hy; simp at hy; subst hy; exact hv.oneCell) (by omega) (by have := rl2.size; omega) ?_
        · match j, hj with
          | 0, hj => simp at hj; subst hj; rw [show (⟨wa.heap.size, 0, none⟩ : Addr).add 0 = ⟨wa.heap.size, 0, none⟩ from rfl, cell_of_row wb _ 0 _ _ _ hcb]; rfl
        intro wc u' wd hc hrow hk hg hm
        have hcs := hc.size
        have hlc := hlb.chg (w' := wc) (M' := M') (fun k hk => hc.keep k (.inr (.inl (.inl hk)))) (fun _ h => h)
        have hvc := own_chg (w' := wc) hvb fun k hk _ => hc.keep k (.inr (.inl (.inr (hvV k hk))))
        have hnew := hlc.app (w' := wd) (M' := grow (grow (fun k => M' k ∨ V k) wa wb) wc wd) (hvc.mono (by have := rl2.size; omega)) hvN hrow (hk.imp id fun e => ⟨wc.heap.size, e, fun h => by have := hlt2 _ h; omega, fun h => by have := hvlt _ h; omega⟩)
          (fun k hk' hne => hg.block k (by rcases hk' with h | h
                                           · have := hlt2 k h; omega
                                           · have := hvlt k h; omega) fun e => hne e.symm)
          (fun k hk' => by rcases hk' with h | h | h
                           · exact .inl (.inl (.inl h))
                           · exact .inl (.inl (.inr (hvV k h)))
                           · exact hm k h)
        have thd := thb.grown hc hg.size
        have hsh : ∀ k, Sh k → k < w6.heap.size := fun k hk => hB6 ▸ shlt k hk
        have rld : Rl Sh (fun _ => False) w6 wd := by
          refine rl2.trans ((fb.rl.mono fun k hk => hk.elim).trans ((hc.mono fun k hk => hk.elim).trans ⟨hg.os, hg.output, hg.size, fun k hk => ?_⟩))
          rcases hk with hk | hk
          · refine hg.block k (by have := hsh k hk; have := rl2.size; omega) fun e => ?_
            have := hl.ub k e.symm
            exact absurd hk (hMSh k this)
          · exact hk.elim
        repeat first
          | refine opsC_moveA hS rfl rfl (.inl rfl) ?_
          | refine opsC_moveA hS rfl rfl (.inr rfl) ?_
          | refine opsC_binA hS rfl rfl rfl rfl rfl rfl ?_
          | refine opsC_lenA hS rfl rfl rfl (by kernel_rfl) rfl ?_
          | (refine opsC_plain hS rfl rfl fun _ K hK => ?_; go_simp; refine hK _ (by simp [go_sem, events_cap_slice, events_slice_hi, *]) ?_; clear hK K; try walk_nrm)
        refine opsC_nil hS ?_
        show LoopC _ _ _ _ _ _ _
        refine hN _ _ _ ⟨⟨u', vs ++ [v], done ++ [x], _, _, _, _, _, _, _, _, _, _, _, _, rfl, by rw [← hdn]; simp, hnew⟩, rfl, thd, rld, ?_⟩
        intro k hk hS'
        have h6 := rl2.size
        have hk6 := hsh k hS'
        rcases hk with (hk | ⟨hk, _⟩) | ⟨hk, _⟩
        · rcases hk with hk | hk
          · exact hMSh k hk hS'
          · exact (hV k hk).2.1 hS'
        · omega
        · omega
      · rintro a w' ⟨Mi, M'⟩ ⟨⟨u, vs, done, x2, x4, x5, x6, x8, x9, x10, x11, x12, x13, x14, x15, rfl, hdn, hl⟩, hix, hth, hrl, hMSh⟩
        simp only at hix
        subst hix
        refine loopC_round hS ?_
        refine wpC_seq hS ?_
        refine wpC_region hS ?_
        simp only [List.size_toArray, List.length_cons, List.length_nil, Nat.reduceAdd, Nat.zero_add, List.range, List.range.loop]
        refine opsC_recv_end rfl rfl (fun w => by simp [go_sem, rcase]) ?_
        (refine opsC_plain hS rfl rfl fun _ K hK => ?_; go_simp; refine hK _ (by simp [go_sem, events_cap_slice, events_slice_hi, *]) ?_; clear hK K; try walk_nrm)
        refine opsC_nil hS ?_
        show WpC _ _ _ _ _ _ _
        refine wpC_seq hS ?_
        refine wpC_cond (t := false) hS rfl ?_
        simp only [if_true, if_false, Bool.false_eq_true]
        have hdw : done = wgo L.sum [] L := by simpa using hdn
        rw [hdw] at hl
        refine wpC_exit hS ?_
        show (Exit.normal = Exit.normal) ∧ _
        exact ⟨rfl, u, vs, _, _, _, _, _, _, _, _, _, _, _, _, rfl, hl, rfl, hth, hrl⟩
      · have hb : w6.heap[w1.heap.size]? = some (.cells #[] 23 (0, 0)) := by rw [k6 _ (by omega), o5.keep _ (by omega), o4.keep _ (by omega), o3.keep _ (by omega)]; exact b2
        refine ⟨⟨rfl, .inr ⟨w1.heap.size, 0, #[], rfl, by omega, hb, Nat.le_refl _, Nat.zero_le _, rfl, rfl⟩⟩, fun k hk => by cases hk; rfl, fun j v hj => by simp at hj, fun i j v v' _ hj => by simp at hj⟩
      · intro k hk
        rcases hk with hk | hk
        · have := shlt k hk; omega
        · have : k = w1.heap.size := hk
          omega
      · intro k hk
        have : k = w1.heap.size := hk
        subst this
        rw [hSh]
        exact fun h => h.2.2 rfl
    · rintro _ w' ⟨Mi, M'⟩ ⟨u, vs, x2, x4, x5, x6, x8, x9, x10, x11, x12, x13, x14, x15, rfl, hl, rfl, hth, hrl⟩
      refine hS.ctl rfl (fun _ => stepG_seq) ?_
      refine WpC.at (fn := 72) (R := fun a w₂ M₂ => a.defers = [] ∧ a.tmps.getD 2 undef = u ∧ w₂ = w' ∧ M₂ = (none, M')) ?_ (by rw [hbl]; rfl) hkb ?_
      · refine wpC_region hS ?_
        simp only [List.size_toArray, List.length_cons, List.length_nil, Nat.reduceAdd, Nat.zero_add, List.range, List.range.loop]
        repeat first
          | refine opsC_moveA hS rfl rfl (.inl rfl) ?_
          | refine opsC_moveA hS rfl rfl (.inr rfl) ?_
          | refine opsC_binA hS rfl rfl rfl rfl rfl rfl ?_
          | refine opsC_lenA hS rfl rfl rfl (by kernel_rfl) rfl ?_
          | (refine opsC_plain hS rfl rfl fun _ K hK => ?_; go_simp; refine hK _ (by simp [go_sem, events_cap_slice, events_slice_hi, *]) ?_; clear hK K; try walk_nrm)
        exact opsC_nil hS ⟨rfl, rfl, rfl, rfl, rfl⟩
      rintro a w0' M0' ⟨hd, h2, hw0, hM0⟩
      rw [hw0, hM0]
      clear hw0 hM0
      refine hS.ctl rfl (fun _ => stepG_ret') ?_
      refine hS.ctl rfl (fun w => stepG_leave (by rw [hbl]; rfl) hd (by rw [hbl]; exact Try.func72) (resultsC_tmp rfl _ w).1 (resultsC_tmp rfl _ w).2) ?_
      rw [h2]
      intro w₂ h₂
      have hl2 := hl.chg (w' := w₂) (M' := M') (fun k hk => h₂.keep k (.inr hk)) (fun _ h => h)
      have hsz := h₂.size
      have hrs := hrl.size
      have hr2 : Rl Sh (fun _ => False) w6 w₂ := hrl.trans (h₂.mono fun k hk => hk.elim)
      refine hR u w₂ (hl2.own (by omega) fun k hk => Nat.lt_of_lt_of_le (hth k (.inr hk)) hsz) ?_
      have ho : Only w w5 := ⟨o5.os.trans (o4.os.trans (o3.os.trans (o2.os.trans o1.os))), o5.output.trans (o4.output.trans (o3.output.trans (o2.output.trans o1.output))), by omega, fun k hk => by
        rw [o5.keep k (by omega), o4.keep k (by omega), o3.keep k (by omega), o2.keep k (by omega), o1.keep k hk]⟩
      refine ⟨hr2.os.trans (q6.1.trans ho.os), hr2.output.trans (q6.2.trans ho.output), by omega, fun k hk => ?_⟩
      rw [hr2.keep k (.inl (by rw [hSh]; exact ⟨by omega, by omega, by omega⟩)), k6 k (by omega), ho.keep k hk]

end Go.Proofs.Ytjphaphnmclbcaa

/- ValidWord for one of the two goroutines under way. Condition: the numbers are a word, of one's own or shared. -/
namespace Go.Proofs.Ytjphaphnmclbcaa
open Go Go.Conc Go.RowKit

/-- A list of one's own or shared that can be read, wherever it lies. -/
structure SlK (Sh : Nat → Prop) {ι : Type} (w : World) (M : Gh ι) (ao : Option Addr) (n : Nat) (xs : List Int) : Prop where
  len : xs.length = n
  row : 0 < n → ∃ b off, ao = some ⟨b, off, none⟩ ∧ (Sh b ∨ M.2 b) ∧ ∀ j, j < n → w.cell? ⟨b, off + j, none⟩ = some (.int .i64 (el xs j))
theorem SlK.fwd {Sh : Nat → Prop} {ι : Type} {w w' : World} {M M' : Gh ι} {ao : Option Addr} {n : Nat} {xs : List Int} (h : SlK Sh w M ao n xs) (hf : Fwd Sh w M w' M') : SlK Sh w' M' ao n xs := by
  refine ⟨h.len, fun hn => ?_⟩
  obtain ⟨b, off, e, hm, hc⟩ := h.row hn
  exact ⟨b, off, e, hm.imp id (hf.up _), fun j hj => (hf.cell hm).trans (hc j hj)⟩
theorem SlK.of_own {Sh : Nat → Prop} {ι : Type} {w : World} {M : Gh ι} {B : Nat} {ao : Option Addr} {n cap : Nat} {ys : List Int} (h : Own w B (.slice ao n cap) ys) (hn : ys.length = n) (hm : ∀ k, (Value.slice ao n cap).ownBlock = some k → M.2 k) : SlK Sh w M ao n ys := by
  subst hn
  refine ⟨rfl, fun hn => ?_⟩
  obtain ⟨a1, c1, e, hs⟩ := h.sl
  cases e
  obtain ⟨b, off, e, hlt, hc⟩ := hs.row hn
  subst e
  rcases h.place with ⟨e1, e2⟩ | ⟨g, c2, e1, _⟩
  · cases e1
  · cases e1
    exact ⟨b, 0, rfl, .inr (hm b rfl), hc⟩

set_option linter.unusedSimpArgs false in
set_option maxHeartbeats 4000000 in
theorem vwC {main : Bool} {Sh : Nat → Prop} {ι : Type} {C : Gh ι → Goroutine → World → Prop} (hS : Fam Try.prog main Sh C) (ao : Option Addr) (n cap : Nat) (xs : List Int) (w : World) (M : Gh ι) (h : SlK Sh w M ao n xs) (hv : VW xs) :
    CallsC Try.prog C 31 #[.slice ao n cap] w M (fun r w' M' => r = .bool true ∧ w' = w ∧ M' = M) := by
  have h7 : n ≤ 7 := by have := hv.len; rw [h.len] at this; exact this
  refine callsC_of_wpC hS Try.func31 rfl ?_
  simp only [Try.ntmps31, List.size_toArray, List.length_cons, List.length_nil, Nat.reduceAdd, Nat.reduceSub, Array.replicate_succ,
     Array.replicate_zero, List.push_toArray, List.append_toArray, List.nil_append, List.cons_append]
  repeat refine wpC_seq hS ?_
  refine wpC_region hS ?_
  simp only [List.size_toArray, List.length_cons, List.length_nil, Nat.reduceAdd, Nat.zero_add, List.range, List.range.loop]
  repeat first
    | refine opsC_moveA hS rfl rfl (.inl rfl) ?_
    | refine opsC_moveA hS rfl rfl (.inr rfl) ?_
    | refine opsC_binA hS rfl rfl rfl rfl rfl rfl ?_
    | refine opsC_lenA hS rfl rfl rfl (by kernel_rfl) rfl ?_
    | (refine opsC_plain hS rfl rfl fun _ K hK => ?_; go_simp; refine hK _ (by simp [go_sem, events_cap_slice, events_slice_hi, *]) ?_; clear hK K; try walk_nrm)
  refine opsC_nil hS ?_
  show WpC _ _ _ _ _ _ _
  repeat refine wpC_seq hS ?_
  refine wpC_region hS ?_
  simp only [List.size_toArray, List.length_cons, List.length_nil, Nat.reduceAdd, Nat.zero_add, List.range, List.range.loop]
  first
    | refine opsC_moveA hS rfl rfl (.inl rfl) ?_
    | refine opsC_moveA hS rfl rfl (.inr rfl) ?_
    | refine opsC_binA hS rfl rfl rfl rfl rfl rfl ?_
    | refine opsC_lenA hS rfl rfl rfl (by kernel_rfl) rfl ?_
    | (refine opsC_plain hS rfl rfl fun _ K hK => ?_; go_simp; refine hK _ (by simp [go_sem, events_cap_slice, events_slice_hi, *]) ?_; clear hK K; try walk_nrm)
  first
    | refine opsC_moveA hS rfl rfl (.inl rfl) ?_
    | refine opsC_moveA hS rfl rfl (.inr rfl) ?_
    | refine opsC_binA hS rfl rfl rfl rfl rfl rfl ?_
    | refine opsC_lenA hS rfl rfl rfl (by kernel_rfl) rfl ?_
    | (refine opsC_plain hS rfl rfl fun _ K hK => ?_; go_simp; refine hK _ (by simp [go_sem, events_cap_slice, events_slice_hi, *]) ?_; clear hK K; try walk_nrm)
  refine opsC_binA (v := .bool false) hS rfl rfl rfl rfl rfl (by simp [int2]; omega) ?_
  refine opsC_nil hS ?_
  show WpC _ _ _ _ _ _ _
  repeat refine wpC_seq hS ?_
  refine wpC_cond (t := false) hS rfl ?_
  simp only [if_true, if_false, Bool.false_eq_true]
  refine wpC_skip hS ?_
  show WpC _ _ _ _ _ _ _
  repeat refine wpC_seq hS ?_
  refine wpC_region hS ?_
  simp only [List.size_toArray, List.length_cons, List.length_nil, Nat.reduceAdd, Nat.zero_add, List.range, List.range.loop]
  repeat first
    | refine opsC_moveA hS rfl rfl (.inl rfl) ?_
    | refine opsC_moveA hS rfl rfl (.inr rfl) ?_
    | refine opsC_binA hS rfl rfl rfl rfl rfl rfl ?_
    | refine opsC_lenA hS rfl rfl rfl (by kernel_rfl) rfl ?_
    | (refine opsC_plain hS rfl rfl fun _ K hK => ?_; go_simp; refine hK _ (by simp [go_sem, events_cap_slice, events_slice_hi, *]) ?_; clear hK K; try walk_nrm)
  refine opsC_nil hS ?_
  show WpC _ _ _ _ _ _ _
  repeat refine wpC_seq hS ?_
  refine wpC_block hS ?_
  refine wpC_loop_of hS ?_
  refine loopC_count (fun k a wr M' => wr = w ∧ M' = M ∧ ∃ (x1 x2 x3 x4 x5 x6 x7 x11 x12 x13 x14 x15 x16 x17 x18 x19 x20 : Value), a = { tmps := #[.slice ao n cap, x1, x2, x3, x4, x5, x6, x7, .slice ao n cap, .int .i64 (n : Int), .int .i64 (k : Int), x11, x12, x13, x14, x15, x16, x17, x18, x19, x20], defers := [] }) n ?_ ?_ 0 (Nat.zero_le _) _ _ _ ⟨rfl, rfl, _, _, _, _, _, _, _, _, _, _, _, _, _, _, _, _, _, rfl⟩
  · rintro k _ wr _ hk ⟨rfl, rfl, x1, x2, x3, x4, x5, x6, x7, x11, x12, x13, x14, x15, x16, x17, x18, x19, x20, rfl⟩ hN
    obtain ⟨b, off, rfl, hm, hcr⟩ := h.row (by omega)
    have hcell := hcr k hk
    have h0 := hv.lo k (by rw [h.len]; exact hk)
    have h3 := hv.hi k (by rw [h.len]; exact hk)
    have hki : (k : Int) < n := by omega
    have hkw : IntKind.i64.wrap ((k : Int) + 1) = ((k + 1 : Nat) : Int) := by rw [IntKind.wrap_i64]; omega
    refine loopC_round hS ?_
    repeat refine wpC_seq hS ?_
    refine wpC_region hS ?_
    simp only [List.size_toArray, List.length_cons, List.length_nil, Nat.reduceAdd, Nat.zero_add, List.range, List.range.loop]
    refine opsC_binA (v := .bool true) hS rfl rfl rfl rfl rfl (by simp [int2]; omega) ?_
    refine opsC_nil hS ?_
    show WpC _ _ _ _ _ _ _
    repeat refine wpC_seq hS ?_
    refine wpC_cond (t := true) hS rfl ?_
    simp only [if_true, if_false, Bool.false_eq_true]
    refine wpC_skip hS ?_
    show WpC _ _ _ _ _ _ _
    repeat refine wpC_seq hS ?_
    refine wpC_block hS ?_
    repeat refine wpC_seq hS ?_
    refine wpC_region hS ?_
    simp only [List.size_toArray, List.length_cons, List.length_nil, Nat.reduceAdd, Nat.zero_add, List.range, List.range.loop]
    (refine opsC_plain hS rfl rfl fun _ K hK => ?_; go_simp; refine hK _ (by simp [go_sem, events_cap_slice, events_slice_hi, *]) ?_; clear hK K; try walk_nrm)
    refine opsC_load hS rfl rfl rfl (by kernel_rfl) rfl (hm) (hcell) ?_
    repeat first
      | refine opsC_moveA hS rfl rfl (.inl rfl) ?_
      | refine opsC_moveA hS rfl rfl (.inr rfl) ?_
      | refine opsC_binA hS rfl rfl rfl rfl rfl rfl ?_
      | refine opsC_lenA hS rfl rfl rfl (by kernel_rfl) rfl ?_
      | (refine opsC_plain hS rfl rfl fun _ K hK => ?_; go_simp; refine hK _ (by simp [go_sem, events_cap_slice, events_slice_hi, *]) ?_; clear hK K; try walk_nrm)
    refine opsC_nil hS ?_
    show WpC _ _ _ _ _ _ _
    repeat refine wpC_seq hS ?_
    refine wpC_region hS ?_
    simp only [List.size_toArray, List.length_cons, List.length_nil, Nat.reduceAdd, Nat.zero_add, List.range, List.range.loop]
    first
      | refine opsC_moveA hS rfl rfl (.inl rfl) ?_
      | refine opsC_moveA hS rfl rfl (.inr rfl) ?_
      | refine opsC_binA hS rfl rfl rfl rfl rfl rfl ?_
      | refine opsC_lenA hS rfl rfl rfl (by kernel_rfl) rfl ?_
      | (refine opsC_plain hS rfl rfl fun _ K hK => ?_; go_simp; refine hK _ (by simp [go_sem, events_cap_slice, events_slice_hi, *]) ?_; clear hK K; try walk_nrm)
    refine opsC_binA (v := .bool false) hS rfl rfl rfl rfl rfl (by simp [int2]; omega) ?_
    first
      | refine opsC_moveA hS rfl rfl (.inl rfl) ?_
      | refine opsC_moveA hS rfl rfl (.inr rfl) ?_
      | refine opsC_binA hS rfl rfl rfl rfl rfl rfl ?_
      | refine opsC_lenA hS rfl rfl rfl (by kernel_rfl) rfl ?_
      | (refine opsC_plain hS rfl rfl fun _ K hK => ?_; go_simp; refine hK _ (by simp [go_sem, events_cap_slice, events_slice_hi, *]) ?_; clear hK K; try walk_nrm)
    first
      | refine opsC_moveA hS rfl rfl (.inl rfl) ?_
      | refine opsC_moveA hS rfl rfl (.inr rfl) ?_
      | refine opsC_binA hS rfl rfl rfl rfl rfl rfl ?_
      | refine opsC_lenA hS rfl rfl rfl (by kernel_rfl) rfl ?_
      | (refine opsC_plain hS rfl rfl fun _ K hK => ?_; go_simp; refine hK _ (by simp [go_sem, events_cap_slice, events_slice_hi, *]) ?_; clear hK K; try walk_nrm)
    refine opsC_binA (v := .bool false) hS rfl rfl rfl rfl rfl (by simp [int2]; omega) ?_
    (refine opsC_plain hS rfl rfl fun _ K hK => ?_; go_simp; refine hK _ (by simp [go_sem, events_cap_slice, events_slice_hi, *]) ?_; clear hK K; try walk_nrm)
    refine opsC_nil hS ?_
    show WpC _ _ _ _ _ _ _
    repeat refine wpC_seq hS ?_
    refine wpC_cond (t := false) hS rfl ?_
    simp only [if_true, if_false, Bool.false_eq_true]
    refine wpC_skip hS ?_
    show WpC _ _ _ _ _ _ _
    repeat refine wpC_seq hS ?_
    refine wpC_region hS ?_
    simp only [List.size_toArray, List.length_cons, List.length_nil, Nat.reduceAdd, Nat.zero_add, List.range, List.range.loop]
    refine opsC_binA (v := .int .i64 ((k + 1 : Nat) : Int)) hS rfl rfl rfl rfl rfl (by simp [int2, hkw]) ?_
    repeat first
      | refine opsC_moveA hS rfl rfl (.inl rfl) ?_
      | refine opsC_moveA hS rfl rfl (.inr rfl) ?_
      | refine opsC_binA hS rfl rfl rfl rfl rfl rfl ?_
      | refine opsC_lenA hS rfl rfl rfl (by kernel_rfl) rfl ?_
      | (refine opsC_plain hS rfl rfl fun _ K hK => ?_; go_simp; refine hK _ (by simp [go_sem, events_cap_slice, events_slice_hi, *]) ?_; clear hK K; try walk_nrm)
    refine opsC_nil hS ?_
    show LoopC _ _ _ _ _ _ _
    exact hN _ _ _ ⟨rfl, rfl, _, _, _, _, _, _, _, _, _, _, _, _, _, _, _, _, _, rfl⟩
  · rintro _ wr _ ⟨rfl, rfl, x1, x2, x3, x4, x5, x6, x7, x11, x12, x13, x14, x15, x16, x17, x18, x19, x20, rfl⟩
    refine loopC_round hS ?_
    repeat refine wpC_seq hS ?_
    refine wpC_region hS ?_
    simp only [List.size_toArray, List.length_cons, List.length_nil, Nat.reduceAdd, Nat.zero_add, List.range, List.range.loop]
    refine opsC_binA (v := .bool false) hS rfl rfl rfl rfl rfl (by simp [int2]) ?_
    refine opsC_nil hS ?_
    show WpC _ _ _ _ _ _ _
    repeat refine wpC_seq hS ?_
    refine wpC_cond (t := false) hS rfl ?_
    simp only [if_true, if_false, Bool.false_eq_true]
    refine wpC_exit hS ?_
    show WpC _ _ _ _ _ _ _
    repeat refine wpC_seq hS ?_
    repeat refine wpC_seq hS ?_
    refine wpC_region hS ?_
    simp only [List.size_toArray, List.length_cons, List.length_nil, Nat.reduceAdd, Nat.zero_add, List.range, List.range.loop]
    repeat first
      | refine opsC_moveA hS rfl rfl (.inl rfl) ?_
      | refine opsC_moveA hS rfl rfl (.inr rfl) ?_
      | refine opsC_binA hS rfl rfl rfl rfl rfl rfl ?_
      | refine opsC_lenA hS rfl rfl rfl (by kernel_rfl) rfl ?_
      | (refine opsC_plain hS rfl rfl fun _ K hK => ?_; go_simp; refine hK _ (by simp [go_sem, events_cap_slice, events_slice_hi, *]) ?_; clear hK K; try walk_nrm)
    refine opsC_nil hS ?_
    show WpC _ _ _ _ _ _ _
    refine wpC_ret hS ⟨rfl, _, resultsC_tmp rfl _, ?_⟩
    exact ⟨rfl, rfl, rfl⟩

end Go.Proofs.Ytjphaphnmclbcaa

/- ValidOrder for one of the two goroutines under way. Condition: the numbers are an order, of one's own or shared. -/
namespace Go.Proofs.Ytjphaphnmclbcaa
open Go Go.RowKit

theorem run_eq7 (a0 a1 a2 a3 a4 a5 a6 : Int) (d : Nat) (w : World) (es : Array Event) : (Op.equalIn (d + 2) 72 (.agg #[.int .i64 a0, .int .i64 a1, .int .i64 a2, .int .i64 a3, .int .i64 a4, .int .i64 a5, .int .i64 a6]) (.agg #[.int .i64 a0, .int .i64 a1, .int .i64 a2, .int .i64 a3, .int .i64 a4, .int .i64 a5, .int .i64 a6])).run Try.prog w = .ok true w ∧
    (Op.equalIn (d + 2) 72 (.agg #[.int .i64 a0, .int .i64 a1, .int .i64 a2, .int .i64 a3, .int .i64 a4, .int .i64 a5, .int .i64 a6]) (.agg #[.int .i64 a0, .int .i64 a1, .int .i64 a2, .int .i64 a3, .int .i64 a4, .int .i64 a5, .int .i64 a6])).events Try.prog w es = es := by
  have hu := Try.underlying72
  obtain ⟨i0, hii, hz0, hz1, hz2⟩ := info_parts infoI
  unfold Op.equalIn underlying
  simp [hu, Go.sizeOf, typeInfo, hii, hz1, Std.Legacy.Range.forIn_eq_forIn_range', List.range', run_part4, ev_part4, run_eqInt, ev_eqInt]
theorem infoPl : (Try.prog.info? 72).map (·.size) = some 7 := by kernel_rfl
theorem infoPz : (Try.prog.info? 72).map (fun i => i.zero) = some (some (.agg (([0, 0, 0, 0, 0, 0, 0].map (Value.int .i64)).toArray))) := by kernel_rfl

open Go.Conc in
/-- Two arrays of seven numbers that are one, compared. -/
theorem opsC_eq7 {main : Bool} {Sh : Nat → Prop} {ι : Type} {C : Gh ι → Goroutine → World → Prop} {fn : FuncId} {Q : Exit → Act → World → Gh ι → Prop} {a a' : Act} {w : World} {M : Gh ι} {ops : Array Oper} {i : Nat} {rest : List Nat} {o : Oper}
    (hS : Fam Try.prog main Sh C) (ho : ops[i]? = some o) (hw : Region.wanted o (yielded ops a.tmps) = true) {x y : Operand} {ty : TypeId} {fs : List Int} (hl : fs.length = 7) (hop : o.op = .binOp .eql 72 x y ty) (hx : a.eval x = .agg (fs.map (Value.int .i64)).toArray)
    (hy : a.eval y = .agg (fs.map (Value.int .i64)).toArray) (ha : a.put o.dst (.bool true) = a') (h : OpsC C fn ops rest Q a' w M) : OpsC C fn ops (i :: rest) Q a w M := by
  match fs, hl with
  | [a0, a1, a2, a3, a4, a5, a6], _ =>
    have e1 := fun (w : World) (es : Array Event) => run_eq7 a0 a1 a2 a3 a4 a5 a6 9998 w es
    simp only [List.map_cons, List.map_nil] at hx hy
    refine opsC_val hS ho hw (v := .bool true) (fun w => ?_) (fun w => ?_) ha h
    · unfold execOp
      simp only [hop, hx, hy]
      simp [eqGuard, binOp, Op.equal, Op.maxDepth, (e1 _ #[]).1]
    · unfold execOp
      simp only [hop, hx, hy]
      simp [eqGuard, binOp, Op.equal, Op.maxDepth, (e1 _ _).2]

open Go.Conc in
/-- An array of seven numbers, a place of it. -/
theorem opsC_indexP7 {main : Bool} {Sh : Nat → Prop} {ι : Type} {C : Gh ι → Goroutine → World → Prop} {fn : FuncId} {Q : Exit → Act → World → Gh ι → Prop} {a a' : Act} {w : World} {M : Gh ι} {ops : Array Oper} {i : Nat} {rest : List Nat} {o : Oper}
    (hS : Fam Try.prog main Sh C) (ho : ops[i]? = some o) (hw : Region.wanted o (yielded ops a.tmps) = true) {x y : Operand} {g j : Nat} {z : Int} (hop : o.op = .indexAddr 72 x y) (hx : a.eval x = .pointer (some ⟨g, 0, none⟩)) (hy : a.eval y = .int .i64 z)
    (hz : z = j) (hj : j < 7) (h : OpsC C fn ops rest Q a' w M) (ha : a.put o.dst (.pointer (some ⟨g, j, none⟩)) = a' := by (with_reducible simp only [Act.put, Act.eval, Array.getD_eq_getD_getElem?, List.getElem?_toArray, List.getElem_toArray, List.getElem_cons_zero, List.getElem_cons_succ, List.getElem?_cons_zero, List.getElem?_cons_succ, Option.getD_some, List.setIfInBounds_toArray, List.set_cons_zero, List.set_cons_succ]); exact rfl) : OpsC C fn ops (i :: rest) Q a w M := by
  have hu := Try.underlying72
  obtain ⟨i0, hii, hz0, hz1, hz2⟩ := info_parts infoI
  have hadd : (⟨g, 0, none⟩ : Addr).add j = ⟨g, j, none⟩ := by unfold Addr.add; split <;> simp_all
  subst hz
  refine opsC_val hS ho hw (v := .pointer (some ⟨g, j, none⟩)) (fun w => ?_) (fun w => ?_) ha h
  · unfold execOp
    simp only [hop, hx, hy]
    simp [Instr.indexAt, Instr.sureAddr, asIntOf, run_underlying hu, hj, Go.sizeOf, typeInfo, hii, hz1, hadd]
  · unfold execOp
    simp only [hop, hx, hy]
    simp [Instr.indexAt, Instr.sureAddr, asIntOf, run_underlying hu, hj, Go.sizeOf, typeInfo, hii]

open Go.Conc in
theorem Arr.rl {Sh M : Nat → Prop} {w w₁ : World} {g T : Nat} {fs : List Int} (h : Arr w g T fs) (hr : Rl Sh M w w₁) (hm : M g) : Arr w₁ g T fs := (hr.keep g (.inr hm)).trans h

open Go.Conc in
/-- From there to here: blocks of one's own that are new have been made and written. -/
structure St2 (Sh : Nat → Prop) {ι : Type} (w : World) (M : Gh ι) (w' : World) (M' : Gh ι) : Prop where
  fwd : Fwd Sh w M w' M'
  there : There Sh w' M'
section
open Go.Conc
variable {Sh : Nat → Prop} {ι : Type} {w w' w₁ : World} {M M' : Gh ι}
theorem St2.refl (h : There Sh w M) : St2 Sh w M w M := ⟨Fwd.refl _ _ _, h⟩
theorem St2.trans {a b c : World} {L N O : Gh ι} (h : St2 Sh a L b N) (k : St2 Sh b N c O) : St2 Sh a L c O := ⟨h.fwd.trans k.fwd, k.there⟩
theorem St2.grown (h : St2 Sh w M w' M') (hM : There Sh w M) (hr : Rl Sh M'.2 w' w₁) {w₂ : World} {row : Option Nat} (hg : w₁.grownBy w₂ row) (hrow : ∀ k, row = some k → w.heap.size ≤ k) : St2 Sh w M w₂ ((M'.1, grow M'.2 w₁ w₂) : Gh ι) :=
  ⟨h.fwd.grown hr hg hrow hM, h.there.grown hr hg.size⟩
theorem St2.store (h : St2 Sh w M w' M') (hM : There Sh w M) (hr : Rl Sh M'.2 w' w₁) (ad : Addr) (v : Value) (hb : w.heap.size ≤ ad.block) : St2 Sh w M (w₁.setCell ad v) M' := by
  have := h.grown hM hr (grownBy_setCell w₁ ad v) (fun k hk => by cases hk; exact hb)
  rwa [grow_same _ (setCell_size _ _ _)] at this
theorem St2.alloc (h : St2 Sh w M w' M') (hM : There Sh w M) (hr : Rl Sh M'.2 w' w₁) (ob : Obj) : St2 Sh w M (w₁.alloc ob) ((M'.1, grow M'.2 w₁ (w₁.alloc ob)) : Gh ι) := h.grown hM hr (World.grownBy_alloc w₁ ob none) (fun k hk => by cases hk)
theorem SlK.st {ao : Option Addr} {n : Nat} {xs : List Int} (h : SlK Sh w M ao n xs) (k : St2 Sh w M w' M') : SlK Sh w' M' ao n xs := h.fwd k.fwd
end

open Go.Conc
set_option linter.unusedSimpArgs false in
set_option maxHeartbeats 4000000 in
theorem voC {main : Bool} {Sh : Nat → Prop} {ι : Type} {C : Gh ι → Goroutine → World → Prop} (hS : Fam Try.prog main Sh C) (ao : Option Addr) (n cap : Nat) (xs : List Int) (w : World) (M : Gh ι) (hM : There Sh w M) (h : SlK Sh w M ao n xs) (hv : Valid xs) :
    CallsC Try.prog C 59 #[.slice ao n cap] w M (fun r w' M' => r = .bool true ∧ St2 Sh w M w' M') := by
  have h7 : n ≤ 7 := by have := hv.len; rw [h.len] at this; exact this
  refine callsC_of_wpC hS Try.func59 rfl ?_
  simp only [Try.ntmps59, List.size_toArray, List.length_cons, List.length_nil, Nat.reduceAdd, Nat.reduceSub, Array.replicate_succ,
     Array.replicate_zero, List.push_toArray, List.append_toArray, List.nil_append, List.cons_append]
  repeat refine wpC_seq hS ?_
  refine wpC_region hS ?_
  simp only [List.size_toArray, List.length_cons, List.length_nil, Nat.reduceAdd, Nat.zero_add, List.range, List.range.loop]
  repeat first
    | refine opsC_moveA hS rfl rfl (.inl rfl) ?_
    | refine opsC_moveA hS rfl rfl (.inr rfl) ?_
    | refine opsC_binA hS rfl rfl rfl rfl rfl rfl ?_
    | refine opsC_lenA hS rfl rfl rfl (by kernel_rfl) rfl ?_
    | (refine opsC_plain hS rfl rfl fun _ K hK => ?_; go_simp; refine hK _ (by simp [go_sem, events_cap_slice, events_slice_hi, *]) ?_; clear hK K; try walk_nrm)
  refine opsC_nil hS ?_
  show WpC _ _ _ _ _ _ _
  repeat refine wpC_seq hS ?_
  refine wpC_region hS ?_
  simp only [List.size_toArray, List.length_cons, List.length_nil, Nat.reduceAdd, Nat.zero_add, List.range, List.range.loop]
  first
    | refine opsC_moveA hS rfl rfl (.inl rfl) ?_
    | refine opsC_moveA hS rfl rfl (.inr rfl) ?_
    | refine opsC_binA hS rfl rfl rfl rfl rfl rfl ?_
    | refine opsC_lenA hS rfl rfl rfl (by kernel_rfl) rfl ?_
    | (refine opsC_plain hS rfl rfl fun _ K hK => ?_; go_simp; refine hK _ (by simp [go_sem, events_cap_slice, events_slice_hi, *]) ?_; clear hK K; try walk_nrm)
  first
    | refine opsC_moveA hS rfl rfl (.inl rfl) ?_
    | refine opsC_moveA hS rfl rfl (.inr rfl) ?_
    | refine opsC_binA hS rfl rfl rfl rfl rfl rfl ?_
    | refine opsC_lenA hS rfl rfl rfl (by kernel_rfl) rfl ?_
    | (refine opsC_plain hS rfl rfl fun _ K hK => ?_; go_simp; refine hK _ (by simp [go_sem, events_cap_slice, events_slice_hi, *]) ?_; clear hK K; try walk_nrm)
  refine opsC_binA (v := .bool false) hS rfl rfl rfl rfl rfl (by simp [int2]; omega) ?_
  refine opsC_nil hS ?_
  show WpC _ _ _ _ _ _ _
  repeat refine wpC_seq hS ?_
  refine wpC_cond (t := false) hS rfl ?_
  simp only [if_true, if_false, Bool.false_eq_true]
  refine wpC_skip hS ?_
  show WpC _ _ _ _ _ _ _
  repeat refine wpC_seq hS ?_
  refine wpC_region hS ?_
  simp only [List.size_toArray, List.length_cons, List.length_nil, Nat.reduceAdd, Nat.zero_add, List.range, List.range.loop]
  obtain ⟨iz, hiz, hzz⟩ := Option.map_eq_some_iff.1 infoPz
  refine opsC_alloc hS rfl rfl rfl hiz hzz fun wa ha => ?_
  have s1 := (St2.refl hM).alloc hM ha (.cells (([0, 0, 0, 0, 0, 0, 0].map (Value.int .i64)).toArray) 72)
  have A1 : Arr (wa.alloc (.cells (([0, 0, 0, 0, 0, 0, 0].map (Value.int .i64)).toArray) 72)) wa.heap.size 72 [0, 0, 0, 0, 0, 0, 0] := Arr.made wa _ _
  have m1 : (grow M.2 wa (wa.alloc (.cells (([0, 0, 0, 0, 0, 0, 0].map (Value.int .i64)).toArray) 72))) wa.heap.size := .inr ⟨Nat.le_refl _, by rw [World.size_alloc]; exact Nat.lt_succ_self _⟩
  have hz1 : w.heap.size ≤ wa.heap.size := ha.size
  obtain ⟨w1, hw1⟩ : ∃ w1, w1 = wa.alloc (.cells (([0, 0, 0, 0, 0, 0, 0].map (Value.int .i64)).toArray) 72) := ⟨_, rfl⟩
  have hl1 : wa.heap.size < w1.heap.size := by rw [hw1, World.size_alloc]; exact Nat.lt_succ_self _
  show OpsC C _ _ _ _ _ (wa.alloc (.cells (([0, 0, 0, 0, 0, 0, 0].map (Value.int .i64)).toArray) 72)) (M.1, grow M.2 wa (wa.alloc (.cells (([0, 0, 0, 0, 0, 0, 0].map (Value.int .i64)).toArray) 72)))
  rw [← hw1] at s1 A1 m1 ⊢
  clear hw1
  obtain ⟨M1, hM1⟩ : ∃ M1 : Gh ι, M1 = (M.1, grow M.2 wa w1) := ⟨_, rfl⟩
  replace m1 : M1.2 wa.heap.size := by rw [hM1]; exact m1
  rw [← hM1] at s1 ⊢
  clear hM1
  refine opsC_alloc hS rfl rfl rfl hiz hzz fun wb hb => ?_
  have s2 := s1.alloc hM hb (.cells (([0, 0, 0, 0, 0, 0, 0].map (Value.int .i64)).toArray) 72)
  have A2 : Arr (wb.alloc (.cells (([0, 0, 0, 0, 0, 0, 0].map (Value.int .i64)).toArray) 72)) wb.heap.size 72 [0, 0, 0, 0, 0, 0, 0] := Arr.made wb _ _
  replace A1 := (A1.rl hb m1).alloc (.cells (([0, 0, 0, 0, 0, 0, 0].map (Value.int .i64)).toArray) 72)
  have m2 : (grow M1.2 wb (wb.alloc (.cells (([0, 0, 0, 0, 0, 0, 0].map (Value.int .i64)).toArray) 72))) wb.heap.size := .inr ⟨Nat.le_refl _, by rw [World.size_alloc]; exact Nat.lt_succ_self _⟩
  replace m1 : (grow M1.2 wb (wb.alloc (.cells (([0, 0, 0, 0, 0, 0, 0].map (Value.int .i64)).toArray) 72))) wa.heap.size := .inl m1
  have hz2 : w.heap.size ≤ wb.heap.size := by have := hb.size; omega
  have hne : wa.heap.size ≠ wb.heap.size := by have := hb.size; omega
  obtain ⟨g1, hg1⟩ : ∃ g1, g1 = wa.heap.size := ⟨_, rfl⟩
  obtain ⟨g2, hg2⟩ : ∃ g2, g2 = wb.heap.size := ⟨_, rfl⟩
  show OpsC C _ _ _ _ _ (wb.alloc (.cells (([0, 0, 0, 0, 0, 0, 0].map (Value.int .i64)).toArray) 72)) (M1.1, grow M1.2 wb (wb.alloc (.cells (([0, 0, 0, 0, 0, 0, 0].map (Value.int .i64)).toArray) 72)))
  obtain ⟨w2, hw2⟩ : ∃ w2, w2 = wb.alloc (.cells (([0, 0, 0, 0, 0, 0, 0].map (Value.int .i64)).toArray) 72) := ⟨_, rfl⟩
  rw [← hw2] at s2 A1 A2 m1 m2 ⊢
  clear hw2
  obtain ⟨M2, hM2⟩ : ∃ M2 : Gh ι, M2 = (M1.1, grow M1.2 wb w2) := ⟨_, rfl⟩
  replace m1 : M2.2 wa.heap.size := by rw [hM2]; exact m1
  replace m2 : M2.2 wb.heap.size := by rw [hM2]; exact m2
  rw [← hM2] at s2 ⊢
  rw [← hg1] at A1 m1 hz1 hne ⊢
  rw [← hg2] at A2 m2 hz2 hne ⊢
  clear hM2 hg1 hg2 s1 hl1 ha hb
  repeat first
    | refine opsC_moveA hS rfl rfl (.inl rfl) ?_
    | refine opsC_moveA hS rfl rfl (.inr rfl) ?_
    | refine opsC_binA hS rfl rfl rfl rfl rfl rfl ?_
    | refine opsC_lenA hS rfl rfl rfl (by kernel_rfl) rfl ?_
    | (refine opsC_plain hS rfl rfl fun _ K hK => ?_; go_simp; refine hK _ (by simp [go_sem, events_cap_slice, events_slice_hi, *]) ?_; clear hK K; try walk_nrm)
  refine opsC_nil hS ?_
  show WpC _ _ _ _ _ _ _
  repeat refine wpC_seq hS ?_
  refine wpC_region hS ?_
  simp only [List.size_toArray, List.length_cons, List.length_nil, Nat.reduceAdd, Nat.zero_add, List.range, List.range.loop]
  repeat first
    | refine opsC_moveA hS rfl rfl (.inl rfl) ?_
    | refine opsC_moveA hS rfl rfl (.inr rfl) ?_
    | refine opsC_binA hS rfl rfl rfl rfl rfl rfl ?_
    | refine opsC_lenA hS rfl rfl rfl (by kernel_rfl) rfl ?_
    | (refine opsC_plain hS rfl rfl fun _ K hK => ?_; go_simp; refine hK _ (by simp [go_sem, events_cap_slice, events_slice_hi, *]) ?_; clear hK K; try walk_nrm)
  refine opsC_nil hS ?_
  show WpC _ _ _ _ _ _ _
  repeat refine wpC_seq hS ?_
  refine wpC_block hS ?_
  refine wpC_loop_of hS ?_
  refine loopC_count (fun k a wr M' => ∃ (fs os : List Int) (x1 x2 x5 x6 x7 x8 x9 x13 x14 x15 x16 x17 x18 x19 x20 x21 x22 x23 x24 x25 x26 x27 x28 x29 x30 x31 x32 x33 x34 x35 : Value), a = { tmps := #[.slice ao n cap, x1, x2, .pointer (some ⟨g1, 0, none⟩), .pointer (some ⟨g2, 0, none⟩), x5, x6, x7, x8, x9, .slice ao n cap, .int .i64 (n : Int), .int .i64 (k : Int), x13, x14, x15, x16, x17, x18, x19, x20, x21, x22, x23, x24, x25, x26, x27, x28, x29, x30, x31, x32, x33, x34, x35], defers := [] } ∧ St2 Sh w M wr M' ∧ Arr wr g1 72 fs ∧ Arr wr g2 72 os ∧ M'.2 g1 ∧ M'.2 g2 ∧ fs.length = 7 ∧ os.length = 7 ∧ (∀ v, v < 7 → el fs v = ((xs.take k).count (v : Int) : Nat)) ∧ (∀ v, v < 7 → el os v = if v < k then 1 else 0)) n ?_ ?_ 0 (Nat.zero_le _) _ _ _
    ⟨[0, 0, 0, 0, 0, 0, 0], [0, 0, 0, 0, 0, 0, 0], _, _, _, _, _, _, _, _, _, _, _, _, _, _, _, _, _, _, _, _, _, _, _, _, _, _, _, _, _, _, rfl, s2, A1, A2, m1, m2, rfl, rfl, fun v hv => by rw [zeros v hv]; simp, fun v hv => by rw [zeros v hv]; simp⟩
  · rintro k _ wr Mr hk ⟨fs, os, x1, x2, x5, x6, x7, x8, x9, x13, x14, x15, x16, x17, x18, x19, x20, x21, x22, x23, x24, x25, x26, x27, x28, x29, x30, x31, x32, x33, x34, x35, rfl, s3, B1, B2, r1, r2, hf7, ho7, hfc, hoc⟩ hN
    have hsl := h.st s3
    obtain ⟨b, off, rfl, hm, hcr⟩ := hsl.row (by omega)
    have hcell := hcr k hk
    have h0 := hv.lo k (by rw [h.len]; exact hk)
    have h3 := hv.hi k (by rw [h.len]; exact hk)
    rw [h.len] at h3
    obtain ⟨v, hve⟩ := Int.eq_ofNat_of_zero_le h0
    have hvn : v < n := by omega
    rw [hve] at hcell
    have hfb : el fs v ≤ 7 ∧ 0 ≤ el fs v := by
      rw [hfc v (by omega)]
      have := List.count_le_length (a := (v : Int)) (l := xs.take k)
      rw [List.length_take] at this
      omega
    have hki : (k : Int) < n := by omega
    have hkw : IntKind.i64.wrap ((k : Int) + 1) = ((k + 1 : Nat) : Int) := by rw [IntKind.wrap_i64]; omega
    have hfw : IntKind.i64.wrap (el fs v + 1) = el fs v + 1 := by rw [IntKind.wrap_i64]; omega
    have hvi : (v : Int) < 7 := by omega
    have hkj : (k : Int) < 7 := by omega
    clear h0 h3 hcr
    refine loopC_round hS ?_
    repeat refine wpC_seq hS ?_
    refine wpC_region hS ?_
    simp only [List.size_toArray, List.length_cons, List.length_nil, Nat.reduceAdd, Nat.zero_add, List.range, List.range.loop]
    refine opsC_binA (v := .bool true) hS rfl rfl rfl rfl rfl (by simp [int2]; omega) ?_
    refine opsC_nil hS ?_
    show WpC _ _ _ _ _ _ _
    repeat refine wpC_seq hS ?_
    refine wpC_cond (t := true) hS rfl ?_
    simp only [if_true, if_false, Bool.false_eq_true]
    refine wpC_skip hS ?_
    show WpC _ _ _ _ _ _ _
    repeat refine wpC_seq hS ?_
    refine wpC_block hS ?_
    repeat refine wpC_seq hS ?_
    refine wpC_region hS ?_
    simp only [List.size_toArray, List.length_cons, List.length_nil, Nat.reduceAdd, Nat.zero_add, List.range, List.range.loop]
    first
      | refine opsC_moveA hS rfl rfl (.inl rfl) ?_
      | refine opsC_moveA hS rfl rfl (.inr rfl) ?_
      | refine opsC_binA hS rfl rfl rfl rfl rfl rfl ?_
      | refine opsC_lenA hS rfl rfl rfl (by kernel_rfl) rfl ?_
      | (refine opsC_plain hS rfl rfl fun _ K hK => ?_; go_simp; refine hK _ (by simp [go_sem, events_cap_slice, events_slice_hi, *]) ?_; clear hK K; try walk_nrm)
    (refine opsC_plain hS rfl rfl fun _ K hK => ?_; go_simp; refine hK _ (by simp [go_sem, events_cap_slice, events_slice_hi, *]) ?_; clear hK K; try walk_nrm)
    refine opsC_load hS rfl rfl rfl (by kernel_rfl) rfl (hm) (hcell) ?_
    repeat first
      | refine opsC_moveA hS rfl rfl (.inl rfl) ?_
      | refine opsC_moveA hS rfl rfl (.inr rfl) ?_
      | refine opsC_binA hS rfl rfl rfl rfl rfl rfl ?_
      | refine opsC_lenA hS rfl rfl rfl (by kernel_rfl) rfl ?_
      | (refine opsC_plain hS rfl rfl fun _ K hK => ?_; go_simp; refine hK _ (by simp [go_sem, events_cap_slice, events_slice_hi, *]) ?_; clear hK K; try walk_nrm)
    refine opsC_nil hS ?_
    show WpC _ _ _ _ _ _ _
    repeat refine wpC_seq hS ?_
    refine wpC_region hS ?_
    simp only [List.size_toArray, List.length_cons, List.length_nil, Nat.reduceAdd, Nat.zero_add, List.range, List.range.loop]
    first
      | refine opsC_moveA hS rfl rfl (.inl rfl) ?_
      | refine opsC_moveA hS rfl rfl (.inr rfl) ?_
      | refine opsC_binA hS rfl rfl rfl rfl rfl rfl ?_
      | refine opsC_lenA hS rfl rfl rfl (by kernel_rfl) rfl ?_
      | (refine opsC_plain hS rfl rfl fun _ K hK => ?_; go_simp; refine hK _ (by simp [go_sem, events_cap_slice, events_slice_hi, *]) ?_; clear hK K; try walk_nrm)
    refine opsC_binA (v := .bool false) hS rfl rfl rfl rfl rfl (by simp [int2]) ?_
    first
      | refine opsC_moveA hS rfl rfl (.inl rfl) ?_
      | refine opsC_moveA hS rfl rfl (.inr rfl) ?_
      | refine opsC_binA hS rfl rfl rfl rfl rfl rfl ?_
      | refine opsC_lenA hS rfl rfl rfl (by kernel_rfl) rfl ?_
      | (refine opsC_plain hS rfl rfl fun _ K hK => ?_; go_simp; refine hK _ (by simp [go_sem, events_cap_slice, events_slice_hi, *]) ?_; clear hK K; try walk_nrm)
    first
      | refine opsC_moveA hS rfl rfl (.inl rfl) ?_
      | refine opsC_moveA hS rfl rfl (.inr rfl) ?_
      | refine opsC_binA hS rfl rfl rfl rfl rfl rfl ?_
      | refine opsC_lenA hS rfl rfl rfl (by kernel_rfl) rfl ?_
      | (refine opsC_plain hS rfl rfl fun _ K hK => ?_; go_simp; refine hK _ (by simp [go_sem, events_cap_slice, events_slice_hi, *]) ?_; clear hK K; try walk_nrm)
    first
      | refine opsC_moveA hS rfl rfl (.inl rfl) ?_
      | refine opsC_moveA hS rfl rfl (.inr rfl) ?_
      | refine opsC_binA hS rfl rfl rfl rfl rfl rfl ?_
      | refine opsC_lenA hS rfl rfl rfl (by kernel_rfl) rfl ?_
      | (refine opsC_plain hS rfl rfl fun _ K hK => ?_; go_simp; refine hK _ (by simp [go_sem, events_cap_slice, events_slice_hi, *]) ?_; clear hK K; try walk_nrm)
    first
      | refine opsC_moveA hS rfl rfl (.inl rfl) ?_
      | refine opsC_moveA hS rfl rfl (.inr rfl) ?_
      | refine opsC_binA hS rfl rfl rfl rfl rfl rfl ?_
      | refine opsC_lenA hS rfl rfl rfl (by kernel_rfl) rfl ?_
      | (refine opsC_plain hS rfl rfl fun _ K hK => ?_; go_simp; refine hK _ (by simp [go_sem, events_cap_slice, events_slice_hi, *]) ?_; clear hK K; try walk_nrm)
    refine opsC_binA (v := .bool false) hS rfl rfl rfl rfl rfl (by simp [int2]; omega) ?_
    (refine opsC_plain hS rfl rfl fun _ K hK => ?_; go_simp; refine hK _ (by simp [go_sem, events_cap_slice, events_slice_hi, *]) ?_; clear hK K; try walk_nrm)
    refine opsC_nil hS ?_
    show WpC _ _ _ _ _ _ _
    repeat refine wpC_seq hS ?_
    refine wpC_cond (t := false) hS rfl ?_
    simp only [if_true, if_false, Bool.false_eq_true]
    refine wpC_skip hS ?_
    show WpC _ _ _ _ _ _ _
    repeat refine wpC_seq hS ?_
    refine wpC_region hS ?_
    simp only [List.size_toArray, List.length_cons, List.length_nil, Nat.reduceAdd, Nat.zero_add, List.range, List.range.loop]
    first
      | refine opsC_moveA hS rfl rfl (.inl rfl) ?_
      | refine opsC_moveA hS rfl rfl (.inr rfl) ?_
      | refine opsC_binA hS rfl rfl rfl rfl rfl rfl ?_
      | refine opsC_lenA hS rfl rfl rfl (by kernel_rfl) rfl ?_
      | (refine opsC_plain hS rfl rfl fun _ K hK => ?_; go_simp; refine hK _ (by simp [go_sem, events_cap_slice, events_slice_hi, *]) ?_; clear hK K; try walk_nrm)
    refine opsC_indexP7 (g := g1) (j := v) hS rfl rfl rfl rfl rfl rfl (by omega) ?_
    refine opsC_load hS rfl rfl rfl (by kernel_rfl) rfl (.inr r1) (B1.cell (j := v) (by omega)) ?_
    refine opsC_binA (v := .int .i64 (el fs v + 1)) hS rfl rfl rfl rfl rfl (by simp [int2, hfw]) ?_
    refine opsC_indexP7 (g := g1) (j := v) hS rfl rfl rfl rfl rfl rfl (by omega) ?_
    refine opsC_store (ad := ⟨g1, v, none⟩) (v := .int .i64 (el fs v + 1)) hS rfl rfl rfl (by kernel_rfl) rfl rfl rfl rfl (r1) (B1.cell (j := v) (by omega)) (B1.frozen v) fun wc hwc => ?_
    have s4 := s3.store hM hwc ⟨g1, v, none⟩ (.int .i64 (el fs v + 1)) hz1
    replace B1 := (B1.rl hwc r1).set v (el fs v + 1)
    replace B2 := (B2.rl hwc r2).other (a := ⟨g1, v, none⟩) hne (.int .i64 (el fs v + 1))
    obtain ⟨w4, hw4⟩ : ∃ w4, w4 = wc.setCell ⟨g1, v, none⟩ (.int .i64 (el fs v + 1)) := ⟨_, rfl⟩
    rw [← hw4] at s4 B1 B2 ⊢
    clear hw4 hwc s3
    refine opsC_nil hS ?_
    show WpC _ _ _ _ _ _ _
    repeat refine wpC_seq hS ?_
    refine wpC_region hS ?_
    simp only [List.size_toArray, List.length_cons, List.length_nil, Nat.reduceAdd, Nat.zero_add, List.range, List.range.loop]
    first
      | refine opsC_moveA hS rfl rfl (.inl rfl) ?_
      | refine opsC_moveA hS rfl rfl (.inr rfl) ?_
      | refine opsC_binA hS rfl rfl rfl rfl rfl rfl ?_
      | refine opsC_lenA hS rfl rfl rfl (by kernel_rfl) rfl ?_
      | (refine opsC_plain hS rfl rfl fun _ K hK => ?_; go_simp; refine hK _ (by simp [go_sem, events_cap_slice, events_slice_hi, *]) ?_; clear hK K; try walk_nrm)
    refine opsC_indexP7 (g := g2) (j := k) hS rfl rfl rfl rfl rfl rfl (by omega) ?_
    refine opsC_store (ad := ⟨g2, k, none⟩) (v := .int .i64 1) hS rfl rfl rfl (by kernel_rfl) rfl rfl rfl rfl (r2) (B2.cell (j := k) (by omega)) (B2.frozen k) fun wc hwc => ?_
    have s5 := s4.store hM hwc ⟨g2, k, none⟩ (.int .i64 1) hz2
    replace B2 := (B2.rl hwc r2).set k 1
    replace B1 := (B1.rl hwc r1).other (a := ⟨g2, k, none⟩) (Ne.symm hne) (.int .i64 1)
    obtain ⟨w5, hw5⟩ : ∃ w5, w5 = wc.setCell ⟨g2, k, none⟩ (.int .i64 1) := ⟨_, rfl⟩
    rw [← hw5] at s5 B1 B2 ⊢
    clear hw5 hwc s4
    refine opsC_nil hS ?_
    show WpC _ _ _ _ _ _ _
    repeat refine wpC_seq hS ?_
    refine wpC_region hS ?_
    simp only [List.size_toArray, List.length_cons, List.length_nil, Nat.reduceAdd, Nat.zero_add, List.range, List.range.loop]
    refine opsC_binA (v := .int .i64 ((k + 1 : Nat) : Int)) hS rfl rfl rfl rfl rfl (by simp [int2, hkw]) ?_
    repeat first
      | refine opsC_moveA hS rfl rfl (.inl rfl) ?_
      | refine opsC_moveA hS rfl rfl (.inr rfl) ?_
      | refine opsC_binA hS rfl rfl rfl rfl rfl rfl ?_
      | refine opsC_lenA hS rfl rfl rfl (by kernel_rfl) rfl ?_
      | (refine opsC_plain hS rfl rfl fun _ K hK => ?_; go_simp; refine hK _ (by simp [go_sem, events_cap_slice, events_slice_hi, *]) ?_; clear hK K; try walk_nrm)
    refine opsC_nil hS ?_
    show LoopC _ _ _ _ _ _ _
    refine hN _ _ _ ⟨fs.set v (el fs v + 1), os.set k 1, _, _, _, _, _, _, _, _, _, _, _, _, _, _, _, _, _, _, _, _, _, _, _, _, _, _, _, _, _, _, rfl, s5, B1, B2, r1, r2, by simp [hf7], by simp [ho7], fun t ht => ?_, fun t ht => ?_⟩
    · rw [count_take (by rw [h.len]; exact hk), hve]
      have := hfc t ht
      by_cases e : v = t
      · subst e
        rw [el_set_same (by rw [hf7]; exact ht), this]; simp
      · rw [el_set_ne e, this, if_neg (by omega)]; simp
    · have := hoc t ht
      by_cases e : k = t
      · subst e
        rw [el_set_same (by rw [ho7]; exact ht), if_pos (by omega)]
      · rw [el_set_ne e, this]
        split <;> split <;> omega
  · rintro _ wr Mr ⟨fs, os, x1, x2, x5, x6, x7, x8, x9, x13, x14, x15, x16, x17, x18, x19, x20, x21, x22, x23, x24, x25, x26, x27, x28, x29, x30, x31, x32, x33, x34, x35, rfl, s3, B1, B2, r1, r2, hf7, ho7, hfc, hoc⟩
    have hfo : fs = os := by
      have := counted (xs := xs) (fs := fs) (os := os) (by rw [h.len]; exact h7) (fun j hj => ⟨hv.lo j hj, hv.hi j hj⟩) hf7 ho7 (fun t ht => by have := hfc t ht; rwa [List.take_of_length_le (Nat.le_of_eq h.len)] at this) (fun t ht => by rw [h.len]; exact hoc t ht)
      rw [decide_eq_true hv] at this
      exact of_decide_eq_true this
    subst hfo
    have hsz : (Try.prog.info? 72).map (·.size) = some (fs.map (Value.int .i64)).toArray.size := by rw [infoPl]; simp [hf7]
    refine loopC_round hS ?_
    repeat refine wpC_seq hS ?_
    refine wpC_region hS ?_
    simp only [List.size_toArray, List.length_cons, List.length_nil, Nat.reduceAdd, Nat.zero_add, List.range, List.range.loop]
    refine opsC_binA (v := .bool false) hS rfl rfl rfl rfl rfl (by simp [int2]) ?_
    refine opsC_nil hS ?_
    show WpC _ _ _ _ _ _ _
    repeat refine wpC_seq hS ?_
    refine wpC_cond (t := false) hS rfl ?_
    simp only [if_true, if_false, Bool.false_eq_true]
    refine wpC_exit hS ?_
    show WpC _ _ _ _ _ _ _
    repeat refine wpC_seq hS ?_
    repeat refine wpC_seq hS ?_
    refine wpC_region hS ?_
    simp only [List.size_toArray, List.length_cons, List.length_nil, Nat.reduceAdd, Nat.zero_add, List.range, List.range.loop]
    refine opsC_loadrow hS rfl rfl rfl (by kernel_rfl) hsz rfl (.inr r1) B1 ?_
    refine opsC_loadrow hS rfl rfl rfl (by kernel_rfl) hsz rfl (.inr r2) B2 ?_
    refine opsC_eq7 (fs := fs) hS rfl rfl hf7 rfl rfl rfl (by (with_reducible simp only [Act.put, Act.eval, Array.getD_eq_getD_getElem?, List.getElem?_toArray, List.getElem_toArray, List.getElem_cons_zero, List.getElem_cons_succ, List.getElem?_cons_zero, List.getElem?_cons_succ, Option.getD_some, List.setIfInBounds_toArray, List.set_cons_zero, List.set_cons_succ]); exact rfl) ?_
    repeat first
      | refine opsC_moveA hS rfl rfl (.inl rfl) ?_
      | refine opsC_moveA hS rfl rfl (.inr rfl) ?_
      | refine opsC_binA hS rfl rfl rfl rfl rfl rfl ?_
      | refine opsC_lenA hS rfl rfl rfl (by kernel_rfl) rfl ?_
      | (refine opsC_plain hS rfl rfl fun _ K hK => ?_; go_simp; refine hK _ (by simp [go_sem, events_cap_slice, events_slice_hi, *]) ?_; clear hK K; try walk_nrm)
    refine opsC_nil hS ?_
    show WpC _ _ _ _ _ _ _
    refine wpC_ret hS ⟨rfl, _, resultsC_tmp rfl _, ?_⟩
    exact ⟨rfl, s3⟩

end Go.Proofs.Ytjphaphnmclbcaa

/- Products of rows of numbers, and the rows of circles and of descents, in the program and in its model. Conditions: of products: few small numbers, at least one on each side. -/
namespace Go.Proofs.Ytjphaphnmclbcaa
open Go.RowKit

theorem own_list (w : World) (ys : List Int) (B : Nat) (hB : B ≤ w.heap.size) (hl : ys.length ≤ 1000) : Own (w.alloc (.cells (ys.map (Value.int .i64)).toArray 3)) B (.slice (some ⟨w.heap.size, 0, none⟩) ys.length ys.length) ys :=
  World.ownsRow_lit w (ys.map (Value.int .i64)).toArray ys.length hB (by unfold maxLen; omega) (by simp)
theorem own_one (w : World) (x : Int) (B : Nat) (hB : B ≤ w.heap.size) : Own (w.alloc (.cells #[.int .i64 x] 3)) B (.slice (some ⟨w.heap.size, 0, none⟩) 1 1) [x] := own_list w [x] B hB (by simp)
theorem own_two (w : World) (x y : Int) (B : Nat) (hB : B ≤ w.heap.size) : Own (w.alloc (.cells #[.int .i64 x, .int .i64 y] 3)) B (.slice (some ⟨w.heap.size, 0, none⟩) 2 2) [x, y] := own_list w [x, y] B hB (by simp)

set_option maxRecDepth 20000 in
set_option maxHeartbeats 2000000 in
theorem timesI_any (ao : Option Addr) (n cap : Nat) (xs : List Int) (bo : Option Addr) (m cap2 : Nat) (ys : List Int) (w : World) (h : Sl w ao n cap xs) (g : Sl w bo m cap2 ys) (hn : 0 < n) (hm : 0 < m) (hn3 : n ≤ 30) (hm1 : m ≤ 10) (hx : Hid (Bd xs 10000)) (hy : Hid (Bd ys 10)) :
    Calls Try.prog 88 #[.slice ao n cap, .slice bo m cap2] w (Made w (mul xs ys)) := by
  have hlen := hid h.len
  have glen := hid g.len
  obtain ⟨b, off, rfl, hblt, hc⟩ := h.row hn
  obtain ⟨b2, off2, rfl, hblt2, hc2⟩ := g.row hm
  have hcc := hid hc
  have hcc2 := hid hc2
  clear hc hc2
  have hbig := h.big
  have hbig2 := g.big
  obtain ⟨s, hs⟩ : ∃ s, s = n + m - 1 := ⟨_, rfl⟩
  have Hs := hid hs
  have hz1 : ((n : Int) == 0) = false := by simp; omega
  have hz2 : ((m : Int) == 0) = false := by simp; omega
  clear hs
  go_enter Try.func88, Try.ntmps88
  go_wp2_with (at_make; refine make_ints _ rfl _ _ rfl _ _ s rfl rfl (by have := Hs.out; omega) (by have := Hs.out; omega) (by have := Hs.out; omega) ?_)
  intro w2 ho2 hb2
  go_wp2
  go_loopw [19] (fun i wr => ∃ (k : Nat) (zs : List Int), k ≤ n ∧ i = .int .i64 k ∧ Below w.heap.size w wr ∧ OwS wr w.heap.size w.heap.size s s zs ∧ Hid (zs = muP xs ys k))
    (fun i _ => n - (intOf i).toNat)
  case atStart => exact ⟨0, _, Nat.zero_le _, rfl, hb2, ho2, hid (by rw [muP, hlen.out, glen.out, ← Hs.out])⟩
  case round =>
    obtain ⟨k, zs, hk, rfl, hbr, hr, hz⟩ := hrel
    by_cases hlt : k < n
    · have hcell := (hbr.cell (p := ⟨b, off + k, none⟩) hblt).trans (hcc.out k hlt)
      have hi1 : (k : Int) < n := by omega
      go_wp2
      obtain ⟨wo, hwo⟩ : ∃ wo : World, wo = wr := ⟨_, rfl⟩
      subst hwo
      go_loopw [26] (fun j wr => ∃ (t : Nat) (zs : List Int), t ≤ m ∧ j = .int .i64 t ∧ Below w.heap.size w wr ∧ OwS wr w.heap.size w.heap.size s s zs ∧ Hid (zs = muR xs ys k (muP xs ys k) t))
        (fun j _ => m - (intOf j).toNat)
      case atStart => exact ⟨0, zs, Nat.zero_le _, rfl, hbr, hr, hz⟩
      case round =>
        obtain ⟨t, zs, ht, rfl, hbr, hr, hz⟩ := hrel
        by_cases htl : t < m
        · have hcell := (hbr.cell (p := ⟨b, off + k, none⟩) hblt).trans (hcc.out k hlt)
          have hcell2 := (hbr.cell (p := ⟨b2, off2 + t, none⟩) hblt2).trans (hcc2.out t htl)
          have hp := prod_bd (hx.out k) (hy.out t)
          have hbz := muR_bd hx.out hy.out k (muP_bd hx.out hy.out (by rw [glen.out]; omega) k) t (k + t)
          rw [← hz.out] at hbz
          have hz1 := hbz.1
          have hz2 : el zs (k + t) ≤ 100000000 := by have := hbz.2; omega
          have hp1 := hp.1
          have hp2 : el xs k * el ys t ≤ 100000 := hp.2
          obtain ⟨pr, hpr⟩ : ∃ pr, pr = el xs k * el ys t := ⟨_, rfl⟩
          rw [← hpr] at hp1 hp2
          have hw : wrap64 (el xs k * el ys t) = pr := by rw [← hpr]; exact IntWalk.wrap64_in _ ⟨by omega, by omega⟩
          have hi2 : (t : Int) < m := by omega
          have hi3 : (k : Int) + t < s := by have := Hs.out; omega
          have hkt : k + t < s := by have := Hs.out; omega
          have hzl := hid hr.len
          have hfr := hr.frozen (k + t)
          have hcur := hr.cell hkt
          have Hpr := hid hpr
          clear hbz hp hpr
          go_wp2
          go_roundw
          case rel =>
            refine ⟨t + 1, _, by omega, by go_num, hbr.setCell (Nat.le_refl _) _, hr.set (k + t) (el zs (k + t) + pr), ?_⟩
            show zs.set (k + t) _ = addAt _ (k + t) _
            rw [addAt, ← hz.out, ← Hpr.out]
          case measure => simp [intOf]; omega
        · obtain rfl : t = m := by omega
          go_wp2
          go_roundw
          case rel => exact ⟨k + 1, zs, by omega, by go_num, hbr, hr, by rw [muP, glen.out]; exact hz.out⟩
          case measure => simp [intOf]; omega
    · obtain rfl : k = n := by omega
      go_wp2
      go_ret
      refine ⟨_, rfl, ?_, hbr⟩
      rw [mul, hlen.out, ← hz.out]
      exact hr.own

set_option maxRecDepth 20000 in
set_option maxHeartbeats 2000000 in
theorem timesS_any (ao : Option Addr) (n cap : Nat) (xs : List Int) (bo : Option Addr) (m cap2 : Nat) (ys : List Int) (w : World) (h : Sl w ao n cap xs) (g : Sl w bo m cap2 ys) (hn : 0 < n) (hm : 0 < m) (hn3 : n ≤ 30) (hm1 : m ≤ 10) (hx : Hid (Bd xs 10000)) (hy : Hid (Bd ys 10)) :
    Calls Try.prog 102 #[.slice ao n cap, .slice bo m cap2] w (Made w (mul xs ys)) := by
  have hlen := hid h.len
  have glen := hid g.len
  obtain ⟨b, off, rfl, hblt, hc⟩ := h.row hn
  obtain ⟨b2, off2, rfl, hblt2, hc2⟩ := g.row hm
  have hcc := hid hc
  have hcc2 := hid hc2
  clear hc hc2
  have hbig := h.big
  have hbig2 := g.big
  obtain ⟨s, hs⟩ : ∃ s, s = n + m - 1 := ⟨_, rfl⟩
  have Hs := hid hs
  have hz1 : ((n : Int) == 0) = false := by simp; omega
  have hz2 : ((m : Int) == 0) = false := by simp; omega
  clear hs
  go_enter Try.func102, Try.ntmps102
  go_wp2_with (at_make; refine make_ints _ rfl _ _ rfl _ _ s rfl rfl (by have := Hs.out; omega) (by have := Hs.out; omega) (by have := Hs.out; omega) ?_)
  intro w2 ho2 hb2
  go_wp2
  go_loopw [6] (fun i wr => ∃ (k : Nat) (zs : List Int), k ≤ n ∧ i = .int .i64 k ∧ Below w.heap.size w wr ∧ OwS wr w.heap.size w.heap.size s s zs ∧ Hid (zs = muP xs ys k))
    (fun i _ => n - (intOf i).toNat)
  case atStart => exact ⟨0, _, Nat.zero_le _, rfl, hb2, ho2, hid (by rw [muP, hlen.out, glen.out, ← Hs.out])⟩
  case round =>
    obtain ⟨k, zs, hk, rfl, hbr, hr, hz⟩ := hrel
    by_cases hlt : k < n
    · have hcell := (hbr.cell (p := ⟨b, off + k, none⟩) hblt).trans (hcc.out k hlt)
      have hi1 : (k : Int) < n := by omega
      go_wp2
      obtain ⟨wo, hwo⟩ : ∃ wo : World, wo = wr := ⟨_, rfl⟩
      subst hwo
      go_loopw [7] (fun j wr => ∃ (t : Nat) (zs : List Int), t ≤ m ∧ j = .int .i64 t ∧ Below w.heap.size w wr ∧ OwS wr w.heap.size w.heap.size s s zs ∧ Hid (zs = muR xs ys k (muP xs ys k) t))
        (fun j _ => m - (intOf j).toNat)
      case atStart => exact ⟨0, zs, Nat.zero_le _, rfl, hbr, hr, hz⟩
      case round =>
        obtain ⟨t, zs, ht, rfl, hbr, hr, hz⟩ := hrel
        by_cases htl : t < m
        · have hcell := (hbr.cell (p := ⟨b, off + k, none⟩) hblt).trans (hcc.out k hlt)
          have hcell2 := (hbr.cell (p := ⟨b2, off2 + t, none⟩) hblt2).trans (hcc2.out t htl)
          have hp := prod_bd (hx.out k) (hy.out t)
          have hbz := muR_bd hx.out hy.out k (muP_bd hx.out hy.out (by rw [glen.out]; omega) k) t (k + t)
          rw [← hz.out] at hbz
          have hz1 := hbz.1
          have hz2 : el zs (k + t) ≤ 100000000 := by have := hbz.2; omega
          have hp1 := hp.1
          have hp2 : el xs k * el ys t ≤ 100000 := hp.2
          obtain ⟨pr, hpr⟩ : ∃ pr, pr = el xs k * el ys t := ⟨_, rfl⟩
          rw [← hpr] at hp1 hp2
          have hw : wrap64 (el xs k * el ys t) = pr := by rw [← hpr]; exact IntWalk.wrap64_in _ ⟨by omega, by omega⟩
          have hi2 : (t : Int) < m := by omega
          have hi3 : (k : Int) + t < s := by have := Hs.out; omega
          have hkt : k + t < s := by have := Hs.out; omega
          have hzl := hid hr.len
          have hfr := hr.frozen (k + t)
          have hcur := hr.cell hkt
          have Hpr := hid hpr
          clear hbz hp hpr
          have hi0 : 0 ≤ (k : Int) + t := by omega
          have htn : ((k : Int) + t).toNat = k + t := by omega
          have hwk : IntKind.i64.wrap ((k : Int) + t) = (k : Int) + t := IntWalk.i64_in _ ⟨by omega, by omega⟩
          have hwp : IntKind.i64.wrap (el xs k * el ys t) = pr := (IntWalk.i64_left _).trans hw
          have hws : IntKind.i64.wrap (el zs (k + t) + pr) = el zs (k + t) + pr := IntWalk.i64_in _ ⟨by omega, by omega⟩
          go_wp2_with fail
          refine wp_region_still_tail 21 (by kernel_rfl) (by kernel_rfl) ?_
          simp only [List.take_succ_cons, List.take_zero, List.drop_succ_cons, List.drop_zero]
          change wpStill _ _ (World.drew _) _ _ _
          repeat still_step
          refine wpStill_nil ?_
          change wpList _ _ _ _ _ (World.drew _)
          go_wp2
          go_roundw
          case rel =>
            refine ⟨t + 1, _, by omega, by go_num, (drewN_below hbr _).setCell (Nat.le_refl _) _, hr.set (k + t) (el zs (k + t) + pr), ?_⟩
            show zs.set (k + t) _ = addAt _ (k + t) _
            rw [addAt, ← hz.out, ← Hpr.out]
          case measure => simp [intOf]; omega
        · obtain rfl : t = m := by omega
          go_wp2
          go_roundw
          case rel => exact ⟨k + 1, zs, by omega, by go_num, hbr, hr, by rw [muP, glen.out]; exact hz.out⟩
          case measure => simp [intOf]; omega
    · obtain rfl : k = n := by omega
      go_wp2
      go_ret
      refine ⟨_, rfl, ?_, hbr⟩
      rw [mul, hlen.out, ← hz.out]
      exact hr.own

end Go.Proofs.Ytjphaphnmclbcaa

/- The rows of circles and of descents, in the program and in its model. No condition. -/
namespace Go.Proofs.Ytjphaphnmclbcaa
open Go.RowKit

theorem Own.alloc' {w : World} {B : Nat} {u : Value} {ys : List Int} (h : Own w B u ys) (o : Obj) : Own (w.alloc o) B u ys := World.ownsRow.alloc h o
theorem Own.slAt {w : World} {B : Nat} {ao : Option Addr} {n cap : Nat} {ys : List Int} (h : Own w B (.slice ao n cap) ys) : Sl w ao n cap ys := h.read

set_option maxHeartbeats 1000000 in
theorem inRange_any (n lo hi : Int) (w : World) : Calls Try.prog 85 #[.int .i64 n, .int .i64 lo, .int .i64 hi] w fun e w' => e = .returned (.bool (decide (lo ≤ n ∧ n ≤ hi))) ∧ w = w' := by
  go_enter Try.func85, Try.ntmps85
  by_cases h1 : lo ≤ n <;> by_cases h2 : n ≤ hi
  all_goals go_wp2
  all_goals go_ret
  all_goals exact ⟨ret_eq (congrArg Value.bool (by simp [h1, h2])), rfl⟩

end Go.Proofs.Ytjphaphnmclbcaa

