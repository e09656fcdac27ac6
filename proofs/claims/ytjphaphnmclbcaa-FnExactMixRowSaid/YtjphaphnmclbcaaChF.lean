/- What a plain stack of frames does alone on every tape it does beside goroutines that only leave. No condition. -/
import Derived.Test.YtjphaphnmclbcaaBnf
namespace Go.Proofs.Ytjphaphnmclbcaa
open Go Go.Conc

theorem re_rt (w : World) (τ : Tape) (d : Nat) : Re w (rt w τ d) := ⟨τ, d, rfl⟩
theorem re_unrt (w : World) (τ : Tape) (d : Nat) : Re (rt w τ d) w := ⟨w.tape, w.drawn, rfl⟩
theorem rt_self {w w' : World} {n : Nat} (h : DrewN w w' n) : rt w' w.tape (w.drawn + n) = w' := by
  obtain ⟨h1, h2⟩ := h
  unfold rt
  rw [← h1, ← h2]

section
variable {z : Bool} {P : Program} {F : Nat → Bool} {Stop : Goroutine → World → Prop} {k : List Item} {cs : List Frame}

theorem gx_running {σ : List Frame} (h : StackOk P F σ) (k : List Item) (cs : List Frame) : (gx (ext k σ) cs).status = .running := by
  cases σ with
  | nil => exact h.elim
  | cons f r => rw [gx_ext]; rfl

/-- The step in the lonely place, on every tape that gives these answers. -/
def Went (z : Bool) (P : Program) (σ σ' : List Frame) (w w' : World) (τ : Tape) (d n : Nat) : Prop :=
  ∀ τ' d', Ag τ' d' τ d n → ∃ es, stepG P true (gx (ext (kz z) σ) [c0]) (rt w τ' d') = .go (gx (ext (kz z) σ') [c0]) (rt w' τ' (d' + n)) es
def Died (z : Bool) (P : Program) (σ : List Frame) (w : World) (τ : Tape) (d n : Nat) : Prop := ∀ τ' d', Ag τ' d' τ d n → DeadIn P (gx (ext (kz z) σ) [c0]) (rt w τ' d')

theorem bad_next (H : Plain P F) (hk : z = false → k = []) {σ : List Frame} {w : World} (h : StackOk P F σ) (hT : ¬ T P Stop (gx (ext k σ) cs) w) :
    ∃ (τ : Tape) (d n : Nat), Died z P σ w τ d n ∨ ∃ σ' w', StackOk P F σ' ∧ ¬ T P Stop (gx (ext k σ') cs) w' ∧ Went z P σ σ' w w' τ d n := by
  refine Classical.byContradiction fun hno => hT ?_
  have good : ∀ w₁, Re w w₁ → ∃ σ' w' es n, StackOk P F σ' ∧ (∀ e ∈ es, Hears e) ∧ DrewN w₁ w' n ∧ T P Stop (gx (ext k σ') cs) w' ∧
      ∀ τ d, Ag τ d w₁.tape w₁.drawn n → ∀ k cs, (z = false → k = []) → stepG P true (gx (ext k σ) cs) (rt w₁ τ d) = .go (gx (ext k σ') cs) (rt w' τ (d + n)) es := by
    rintro w₁ ⟨τ, d, rfl⟩
    rcases dich (z := z) H h (rt w τ d) with ⟨σ', w', es, n, h1, h2, h3, h4⟩ | ⟨n, hd⟩
    · refine ⟨σ', w', es, n, h1, h2, h3, Classical.byContradiction fun hT' => hno ⟨τ, d, n, .inr ⟨σ', w', h1, hT', fun τ' d' hA => ⟨es, ?_⟩⟩⟩, h4⟩
      have := h4 τ' d' hA (kz z) [c0] (fun e => by rw [e]; rfl)
      exact this
    · exact absurd ⟨τ, d, n, .inl fun τ' d' hA => hd τ' d' hA⟩ hno
  refine T.step (gx_running h k cs) (fun w₁ h₁ => ?_) fun w₁ g' w' es h₁ hs => ?_
  · obtain ⟨σ', w', es, n, _, h2, h3, _, h5⟩ := good w₁ h₁
    have := h5 w₁.tape w₁.drawn (fun _ _ => rfl) k cs hk
    exact ⟨_, _, es, this, h2⟩
  · obtain ⟨σ', w'', es', n, _, _, h3, h4, h5⟩ := good w₁ h₁
    have := h5 w₁.tape w₁.drawn (fun _ _ => rfl) k cs hk
    have e : rt w₁ w₁.tape w₁.drawn = w₁ := rfl
    rw [e, hs, rt_self h3] at this
    cases this
    exact h4

/-- WHAT IS DONE ALONE ON EVERY TAPE IS DONE BESIDE LEAVERS. -/
theorem transfer (H : Plain P F) (hk : z = false → k = []) {ExS : Goroutine → World → Prop} (hst : ∀ σ w', StackOk P F σ → ExS (gx (ext (kz z) σ) [c0]) w' → T P Stop (gx (ext k σ) cs) w') (hcs : ∀ g w', ExS g w' → g.callers = [c0])
    {σ : List Frame} {w : World} (h : StackOk P F σ) (hrun : ∀ τ, ∃ n g w', runN P n (solo (gx (ext (kz z) σ) [c0]) (rt w τ 0)) = .next (solo g w') ∧ ExS g w') : T P Stop (gx (ext k σ) cs) w := by
  refine Classical.byContradiction fun hT => ?_
  let Bad := { x : List Frame × World // StackOk P F x.1 ∧ ¬ T P Stop (gx (ext k x.1) cs) x.2 }
  have hnext : ∀ x : Bad, ∃ y : Tape × Nat × Nat × Option Bad,
      (y.2.2.2 = none → Died z P x.1.1 x.1.2 y.1 y.2.1 y.2.2.1) ∧ (∀ u, y.2.2.2 = some u → Went z P x.1.1 u.1.1 x.1.2 u.1.2 y.1 y.2.1 y.2.2.1) := by
    intro x
    obtain ⟨τ, d, n, hd | ⟨σ', w', h1, h2, h3⟩⟩ := bad_next (z := z) (k := k) (cs := cs) H hk x.2.1 x.2.2
    · exact ⟨(τ, d, n, none), fun _ => hd, fun z hz => by cases hz⟩
    · refine ⟨(τ, d, n, some ⟨(σ', w'), h1, h2⟩), ?_, ?_⟩
      · intro hz; cases hz
      · intro z hz; cases hz; exact h3
  obtain ⟨f, hf⟩ := Classical.axiomOfChoice hnext
  let x0 : Bad := ⟨(σ, w), h, hT⟩
  let p : Nat → Option Bad := fun i => Nat.rec (some x0) (fun _ y => y.bind fun x => (f x).2.2.2) i
  have p0 : p 0 = some x0 := rfl
  have pS : ∀ i, p (i + 1) = (p i).bind fun x => (f x).2.2.2 := fun _ => rfl
  let dn : Option Bad → Nat := fun y => match y with | some x => (f x).2.2.1 | none => 0
  let D : Nat → Nat := fun i => Nat.rec 0 (fun i a => a + dn (p i)) i
  have DS : ∀ i, D (i + 1) = D i + dn (p i) := fun _ => rfl
  have Dmono : ∀ i j, i ≤ j → D i ≤ D j := by
    intro i j hij
    induction hij with
    | refl => exact Nat.le_refl _
    | step _ ih => rw [Nat.succ_eq_add_one, DS]; omega
  have Duniq : ∀ i i' j, D i ≤ j → j < D (i + 1) → D i' ≤ j → j < D (i' + 1) → i = i' := by
    intro i i' j h1 h2 h3 h4
    rcases Nat.lt_trichotomy i i' with hlt | rfl | hlt
    · have := Dmono (i + 1) i' hlt; omega
    · rfl
    · have := Dmono (i' + 1) i hlt; omega
  let τs : Tape := fun j q => open Classical in if hx : ∃ i x, p i = some x ∧ D i ≤ j ∧ j < D (i + 1) then
      (f (Classical.choose (Classical.choose_spec hx))).1 ((f (Classical.choose (Classical.choose_spec hx))).2.1 + (j - D (Classical.choose hx))) q else 0
  have hAg : ∀ i x, p i = some x → Ag τs (D i) (f x).1 (f x).2.1 (f x).2.2.1 := by
    intro i x hi j hj
    have hD : D (i + 1) = D i + (f x).2.2.1 := by rw [DS, hi]
    have hx : ∃ i' x, p i' = some x ∧ D i' ≤ D i + j ∧ D i + j < D (i' + 1) := ⟨i, x, hi, by omega, by omega⟩
    funext q
    show (open Classical in if hx : ∃ i' x, p i' = some x ∧ D i' ≤ D i + j ∧ D i + j < D (i' + 1) then
      (f (Classical.choose (Classical.choose_spec hx))).1 ((f (Classical.choose (Classical.choose_spec hx))).2.1 + (D i + j - D (Classical.choose hx))) q else 0) = _
    rw [dif_pos hx]
    have hs := Classical.choose_spec (Classical.choose_spec hx)
    generalize Classical.choose (Classical.choose_spec hx) = x' at hs ⊢
    generalize Classical.choose hx = i' at hs ⊢
    obtain ⟨h1, h2, h3⟩ := hs
    have e := Duniq i i' (D i + j) (by omega) (by omega) h2 h3
    subst e
    rw [hi] at h1
    cases h1
    rw [show D i + j - D i = j by omega]
  have hpath : ∀ i x, p i = some x → runN P i (solo (gx (ext (kz z) σ) [c0]) (rt w τs 0)) = .next (solo (gx (ext (kz z) x.1.1) [c0]) (rt x.1.2 τs (D i))) := by
    intro i
    induction i with
    | zero => intro x hx; rw [p0] at hx; cases hx; rfl
    | succ i ih =>
      intro y hy
      rw [pS] at hy
      obtain ⟨x, hx, hxy⟩ := Option.bind_eq_some_iff.1 hy
      obtain ⟨es, hs⟩ := (hf x).2 y hxy τs (D i) (hAg i x hx)
      rw [runN_add, ih x hx]
      have e : D (i + 1) = D i + (f x).2.2.1 := by rw [DS, hx]
      simp only [runN, step_solo_go (gx_running x.2.1 (kz z) [c0]) hs, e]
  obtain ⟨n, g, w', hr, hE⟩ := hrun τs
  cases hn : p n with
  | some x =>
    rw [hpath n x hn] at hr
    simp only [Stepped.next.injEq] at hr
    have e1 : gx (ext (kz z) x.1.1) [c0] = g := by
      have := congrArg (fun m : Machine => m.gs[0]?) hr
      simpa [solo] using this
    have e2 : rt x.1.2 τs (D n) = w' := congrArg (fun m : Machine => m.world) hr
    subst e1 e2
    exact x.2.2 ((hst _ _ x.2.1 hE).rely (re_unrt _ _ _))
  | none =>
    -- where it died
    have hm : ∃ m x, m < n ∧ p m = some x ∧ p (m + 1) = none := by
      clear hr hE
      induction n with
      | zero => rw [p0] at hn; cases hn
      | succ n ih =>
        cases hn' : p n with
        | none => obtain ⟨m, x, h1, h2, h3⟩ := ih hn'; exact ⟨m, x, by omega, h2, h3⟩
        | some x => exact ⟨n, x, by omega, hn', hn⟩
    obtain ⟨m, x, hmn, hx, hx'⟩ := hm
    rw [pS, hx] at hx'
    have hd := (hf x).1 hx' τs (D m) (hAg m x hx)
    obtain ⟨j, rfl⟩ : ∃ j, n = m + (j + 1) := ⟨n - m - 1, by omega⟩
    rw [runN_add, hpath m x hx] at hr
    exact hd j g w' hr (hcs g w' hE)
end

end Go.Proofs.Ytjphaphnmclbcaa
