/- An operation that asks the system nothing hangs on the tape through the answers drawn alone, and makes nobody deaf. No condition. -/
import Derived.Test.YtjphaphnmclbcaaTame
namespace Go.Proofs.Ytjphaphnmclbcaa
open Go Go.Conc

/-- The world with this tape and this count of draws. -/
def rt (w : World) (τ : Tape) (d : Nat) : World := { w with tape := τ, drawn := d }

/-- The two tapes give the same n answers, from here and from there. -/
def Ag (τ : Tape) (d : Nat) (σ : Tape) (e n : Nat) : Prop := ∀ j, j < n → τ (d + j) = σ (e + j)

theorem Ag.tail {τ σ : Tape} {d e n : Nat} (h : Ag τ d σ e (1 + n)) : τ d = σ e ∧ Ag τ (d + 1) σ (e + 1) n :=
  ⟨by simpa using h 0 (by omega), fun j hj => by have := h (1 + j) (by omega); simpa only [Nat.add_assoc] using this⟩

/-- w' is behind w by n draws. -/
def DrewN (w w' : World) (n : Nat) : Prop := w'.tape = w.tape ∧ w'.drawn = w.drawn + n

def resW {α : Type} : Result α → World
  | .ok _ w => w
  | .halt _ w => w
def resT {α : Type} (r : Result α) (τ : Tape) (d : Nat) : Result α :=
  match r with
  | .ok a w => .ok a (rt w τ d)
  | .halt h w => .halt h (rt w τ d)

/-- It stops by a panic or for good. -/
def okHalt : Halt → Prop
  | .panic _ | .stuck _ | .unsupported _ => True
  | _ => False
def okRes {α : Type} : Result α → Prop
  | .ok _ _ => True
  | .halt h _ => okHalt h

theorem farLoad_rt (P : Program) (w : World) (τ : Tape) (d : Nat) (a : Addr) (b : Bool) : (rt w τ d).farLoad P a b = w.farLoad P a b := rfl
theorem noCell_rt (w : World) (τ : Tape) (d : Nat) (a : Addr) (s : String) : (rt w τ d).noCell a s = w.noCell a s := rfl
theorem noCell_ok (w : World) (a : Addr) (s : String) : okHalt (w.noCell a s) := by unfold World.noCell; split <;> trivial

theorem seen_rt (P : Program) (w : World) (τ : Tape) (d : Nat) (a : Addr) (t : TypeId) (k : Addr) (b : Bool) : (rt w τ d).seen P a t k b = w.seen P a t k b := rfl

theorem viewStore_rt (P : Program) (w : World) (τ : Tape) (d : Nat) (a : Addr) (t : TypeId) (k : Addr) (v : Value) (b : Bool) :
    (rt w τ d).viewStore P a t k v b = (w.viewStore P a t k v b).map fun x => (rt x.1 τ d, x.2) := by
  unfold World.viewStore
  simp only [seen_rt]
  generalize w.seen P a t k b = r
  simp only [bind, Except.bind, pure, Except.pure]
  split
  · rfl
  · cases r with
    | error e => rfl
    | ok r =>
      obtain ⟨c, e, fz, first, like, cells⟩ := r
      cases v.bytes? with
      | none => rfl
      | some bytes =>
        simp only []
        split
        · rfl
        · generalize List.foldlM (m := Except String) _ c cells = r2
          cases r2 <;> rfl

theorem farStore_rt (P : Program) (w : World) (τ : Tape) (d : Nat) (a : Addr) (v : Value) (b : Bool) : (rt w τ d).farStore P a v b = (w.farStore P a v b).map fun x => (rt x.1 τ d, x.2) := by
  unfold World.farStore
  have e : (rt w τ d).heap[a.block]? = w.heap[a.block]? := rfl
  rw [e]
  cases w.heap[a.block]? with
  | none => rfl
  | some o =>
    cases o <;> first
      | rfl
      | (simp only [viewStore_rt]; generalize World.viewStore P w _ _ a v b = r; cases r <;> rfl)

theorem farStore_drew {P : Program} {w w' : World} {a : Addr} {v : Value} {b : Bool} {ts : List Addr} (h : w.farStore P a v b = .ok (w', ts)) : DrewN w w' 0 := by
  have h1 := farStore_rt P w w.tape w.drawn a v b
  have e : rt w w.tape w.drawn = w := rfl
  rw [e, h] at h1
  simp only [Except.map, Except.ok.injEq, Prod.mk.injEq, and_true] at h1
  have a1 := congrArg World.tape h1
  have a2 := congrArg World.drawn h1
  exact ⟨a1, a2⟩

theorem farLoad_ok {P : Program} {w : World} {a : Addr} {b : Bool} {h : Halt} (e : w.farLoad P a b = .error h) : okHalt h := by
  unfold World.farLoad at e
  split at e
  · split at e
    · cases e
    · cases e; trivial
  · cases e; exact noCell_ok _ _ _
theorem farStore_ok {P : Program} {w : World} {a : Addr} {v : Value} {b : Bool} {h : Halt} (e : w.farStore P a v b = .error h) : okHalt h := by
  unfold World.farStore at e
  split at e
  · split at e
    · cases e
    · cases e; trivial
  · cases e; exact noCell_ok _ _ _

theorem sys_env_rt (w : World) : DrewN w (w.sys .env).2 0 ∧ ∀ τ d, (rt w τ d).sys .env = ((w.sys .env).1, rt (w.sys .env).2 τ d) := by
  have h : ∀ w : World, w.sys .env = (.strings w.os.env, w) := fun w => by
    simp only [World.sys, Kernel.perform]
    rfl
  exact ⟨by rw [h]; exact ⟨rfl, rfl⟩, fun τ d => by rw [h, h]; rfl⟩

/-- What is said of a run: what it lists makes nobody deaf; it stops by a panic or for good; it hangs on the answers drawn alone. -/
def Local {α : Type} (P : Program) (s : Sem α) (w : World) (es : Array Event) : Prop :=
  ∃ (r : Result α) (us : Array Event) (n : Nat), (∀ e ∈ us, Hears e) ∧ okRes r ∧ DrewN w (resW r) n ∧ ∀ τ d, Ag τ d w.tape w.drawn n → s.runT P (rt w τ d) es = (resT r τ (d + n), es ++ us)

theorem hears_cell (a : Addr) (x y : Bool) : Hears ⟨.cell a, x, y⟩ := ⟨by simp, by simp⟩
theorem hears_obj (a : Nat) (x y : Bool) : Hears ⟨.obj a, x, y⟩ := ⟨by simp, by simp⟩
theorem hears_out (x y : Bool) : Hears ⟨.output, x, y⟩ := ⟨by simp, by simp⟩

theorem Local.done {α : Type} {P : Program} {s : Sem α} {w : World} {es : Array Event} (r : World → Result α) (h : ∀ τ d, s.runT P (rt w τ d) es = (r (rt w τ d), es)) (hr : ∀ τ d, r (rt w τ d) = resT (r w) τ d) (ho : okRes (r w)) (hd : DrewN w (resW (r w)) 0) : Local P s w es :=
  ⟨r w, #[], 0, by simp, ho, hd, fun τ d _ => by rw [h, hr]; simp⟩

/-- One step more, that draws nothing. -/
theorem Local.next {α : Type} {P : Program} {s : Sem α} {k : Sem α} {w w₁ : World} {es vs : Array Event} (hv : ∀ e ∈ vs, Hears e) (hd : DrewN w w₁ 0) (h : ∀ τ d, s.runT P (rt w τ d) es = k.runT P (rt w₁ τ d) (es ++ vs))
    (hk : Local P k w₁ (es ++ vs)) : Local P s w es := by
  obtain ⟨r, us, n, h1, h2, h3, h4⟩ := hk
  refine ⟨r, vs ++ us, n, fun e he => (Array.mem_append.1 he).elim (hv e) (h1 e), h2, ⟨h3.1.trans hd.1, by have := h3.2; have := hd.2; omega⟩, fun τ d hA => ?_⟩
  rw [h, h4 τ d (by rw [hd.1, hd.2]; simpa using hA), Array.append_assoc]

theorem tame_local {α : Type} (P : Program) {s : Sem α} (hs : Tame s) : ∀ (w : World) (es : Array Event), Local P s w es := by
  induction s with
  | pure a => exact fun w es => .done (fun w => .ok a w) (fun _ _ => rfl) (fun _ _ => rfl) trivial ⟨rfl, rfl⟩
  | load m a k ih =>
    intro w es
    cases hc : w.cell? a with
    | some v =>
      refine .next (k := k v) (w₁ := w) (vs := #[⟨.cell a, false, m == .atomic⟩]) (by intro e he; simp at he; subst he; exact hears_cell _ _ _) ⟨rfl, rfl⟩ (fun τ d => ?_) (ih v (hs v) w _)
      have : (rt w τ d).cell? a = some v := hc
      simp only [Sem.runT, this, Array.push_eq_append]
    | none =>
      cases hf : w.farLoad P a (m == .atomic) with
      | ok r =>
        obtain ⟨v, ts⟩ := r
        refine .next (k := k v) (w₁ := w) (vs := ts.toArray.map (⟨.cell ·, false, m == .atomic⟩)) (by intro e he; obtain ⟨x, _, rfl⟩ := Array.mem_map.1 he; exact hears_cell _ _ _) ⟨rfl, rfl⟩ (fun τ d => ?_) (ih v (hs v) w _)
        have h1 : (rt w τ d).cell? a = none := hc
        have h2 : (rt w τ d).farLoad P a (m == .atomic) = .ok (v, ts) := hf
        simp only [Sem.runT, h1, h2]
      | error h =>
        refine .done (fun w => .halt h w) (fun τ d => ?_) (fun _ _ => rfl) (farLoad_ok hf) ⟨rfl, rfl⟩
        have h1 : (rt w τ d).cell? a = none := hc
        have h2 : (rt w τ d).farLoad P a (m == .atomic) = .error h := hf
        simp only [Sem.runT, h1, h2]
  | store m a v k ih =>
    intro w es
    by_cases hv : (∃ c, v = .agg c) ∨ ∃ c, v = .tuple c
    · rcases hv with ⟨c, rfl⟩ | ⟨c, rfl⟩
      · exact .done (fun w => .halt (.stuck "store: not the value of one cell") w) (fun _ _ => by simp only [Sem.runT]) (fun _ _ => rfl) trivial ⟨rfl, rfl⟩
      · exact .done (fun w => .halt (.stuck "store: not the value of one cell") w) (fun _ _ => by simp only [Sem.runT]) (fun _ _ => rfl) trivial ⟨rfl, rfl⟩
    · have e : ∀ w es, (Sem.store m a v k).runT P w es = match w.cell? a with
        | some _ =>
          if w.frozen? a then (.halt (.unsupported (.unsafePointer "a write to bytes that a string shares")) w, es)
          else k.runT P (w.setCell a v) (es.push ⟨.cell a, true, m == .atomic⟩)
        | none => match w.farStore P a v (m == .atomic) with
          | .ok (w, touched) => k.runT P w (es ++ touched.toArray.map (⟨.cell ·, true, m == .atomic⟩))
          | .error h => (.halt h w, es) := by
        intro w es
        cases v <;> first | rfl | exact absurd (.inl ⟨_, rfl⟩) hv | exact absurd (.inr ⟨_, rfl⟩) hv
      cases hc : w.cell? a with
      | some u =>
        by_cases hf : w.frozen? a = true
        · refine .done (fun w => .halt (.unsupported (.unsafePointer "a write to bytes that a string shares")) w) (fun τ d => ?_) (fun _ _ => rfl) trivial ⟨rfl, rfl⟩
          have h1 : (rt w τ d).cell? a = some u := hc
          have h2 : (rt w τ d).frozen? a = true := hf
          rw [e]; simp only [h1, h2, if_true]
        · refine .next (k := k) (w₁ := w.setCell a v) (vs := #[⟨.cell a, true, m == .atomic⟩]) (by intro e he; simp at he; subst he; exact hears_cell _ _ _) ⟨rfl, rfl⟩ (fun τ d => ?_) (ih hs _ _)
          have h1 : (rt w τ d).cell? a = some u := hc
          have h2 : (rt w τ d).frozen? a = false := (by simpa using hf : w.frozen? a = false)
          rw [e]; simp only [h1, h2, Array.push_eq_append]; rfl
      | none =>
        cases hf : w.farStore P a v (m == .atomic) with
        | ok r =>
          obtain ⟨w₁, ts⟩ := r
          refine .next (k := k) (w₁ := w₁) (vs := ts.toArray.map (⟨.cell ·, true, m == .atomic⟩)) (by intro e he; obtain ⟨x, _, rfl⟩ := Array.mem_map.1 he; exact hears_cell _ _ _) (farStore_drew hf) (fun τ d => ?_) (ih hs _ _)
          have h1 : (rt w τ d).cell? a = none := hc
          have h2 := farStore_rt P w τ d a v (m == .atomic)
          rw [hf] at h2
          simp only [Except.map] at h2
          rw [e]; simp only [h1, h2]
        | error h =>
          refine .done (fun w => .halt h w) (fun τ d => ?_) (fun _ _ => rfl) (farStore_ok hf) ⟨rfl, rfl⟩
          have h1 : (rt w τ d).cell? a = none := hc
          have h2 := farStore_rt P w τ d a v (m == .atomic)
          rw [hf] at h2
          simp only [Except.map] at h2
          rw [e]; simp only [h1, h2]
  | new o k ih => exact fun w es => .next (k := k w.heap.size) (vs := #[]) (w₁ := { w with heap := w.heap.push o }) (by simp) ⟨rfl, rfl⟩ (fun τ d => by simp only [Sem.runT, Array.append_empty]; rfl) (ih _ (hs _) _ _)
  | shape r k ih => exact fun w es => .next (k := k (w.shape? r)) (vs := #[]) (w₁ := w) (by simp) ⟨rfl, rfl⟩ (fun τ d => by simp only [Sem.runT, Array.append_empty]; rfl) (ih (w.shape? r) (hs _) _ _)
  | freeze a n k ih =>
    intro w es
    have hd : DrewN w (w.freeze a n) 0 := by unfold World.freeze; split <;> exact ⟨rfl, rfl⟩
    refine .next (vs := #[]) (w₁ := w.freeze a n) (by simp) hd (fun τ d => ?_) (ih hs _ _)
    have : (rt w τ d).freeze a n = rt (w.freeze a n) τ d := by unfold World.freeze; split <;> rfl
    simp only [Sem.runT, Array.append_empty, this]
  | frozen a k ih => exact fun w es => .next (k := k (w.frozen? a)) (vs := #[]) (w₁ := w) (by simp) ⟨rfl, rfl⟩ (fun τ d => by simp only [Sem.runT, Array.append_empty]; rfl) (ih (w.frozen? a) (hs _) _ _)
  | getObj r k ih =>
    intro w es
    cases hc : w.heap[r]? with
    | none =>
      refine .done (fun w => .halt (.stuck "getObj: no such block") w) (fun τ d => ?_) (fun _ _ => rfl) trivial ⟨rfl, rfl⟩
      have h1 : (rt w τ d).heap[r]? = none := hc
      simp only [Sem.runT, h1]
    | some o =>
      have h1 : ∀ τ d, (rt w τ d).heap[r]? = some o := fun _ _ => hc
      by_cases ho : ∃ a b c, o = .cells a b c
      · obtain ⟨a, b, c, rfl⟩ := ho
        refine .done (fun w => .halt (.stuck "getObj: a row of cells") w) (fun τ d => ?_) (fun _ _ => rfl) trivial ⟨rfl, rfl⟩
        simp only [Sem.runT, h1]
      · refine .next (k := k o) (w₁ := w) (vs := #[⟨.obj r, false, o.isChan⟩]) (by intro e he; simp at he; subst he; exact hears_obj _ _ _) ⟨rfl, rfl⟩ (fun τ d => ?_) (ih o (hs o) w _)
        cases o <;> first | exact absurd ⟨_, _, _, rfl⟩ ho | simp only [Sem.runT, h1, Array.push_eq_append]
  | setObj r o k ih =>
    intro w es
    cases hc : w.heap[r]? with
    | none =>
      refine .done (fun w => .halt (.stuck "setObj: no such block") w) (fun τ d => ?_) (fun _ _ => rfl) trivial ⟨rfl, rfl⟩
      have h1 : (rt w τ d).heap[r]? = none := hc
      simp only [Sem.runT, h1]
    | some o' =>
      have h1 : ∀ τ d, (rt w τ d).heap[r]? = some o' := fun _ _ => hc
      by_cases ho : ∃ a b c, o' = .cells a b c
      · obtain ⟨a, b, c, rfl⟩ := ho
        refine .done (fun w => .halt (.stuck "setObj: a row of cells") w) (fun τ d => ?_) (fun _ _ => rfl) trivial ⟨rfl, rfl⟩
        simp only [Sem.runT, h1]
      · refine .next (k := k) (w₁ := { w with heap := w.heap.setIfInBounds r o }) (vs := #[⟨.obj r, true, o.isChan⟩]) (by intro e he; simp at he; subst he; exact hears_obj _ _ _) ⟨rfl, rfl⟩ (fun τ d => ?_) (ih hs _ _)
        cases o' <;> first | exact absurd ⟨_, _, _, rfl⟩ ho | (simp only [Sem.runT, h1, Array.push_eq_append]; rfl)
  | choose q k ih =>
    intro w es
    by_cases hq : q.forced = true
    · exact .next (k := k 0) (vs := #[]) (w₁ := w) (by simp) ⟨rfl, rfl⟩ (fun τ d => by simp only [Sem.runT, hq, if_true, Array.append_empty]) (ih _ (hs _) _ _)
    · obtain ⟨r, us, n, h1, h2, h3, h4⟩ := ih (q.cut (w.tape w.drawn q)) (hs _) { w with drawn := w.drawn + 1 } es
      refine ⟨r, us, 1 + n, h1, h2, ⟨h3.1, by have := h3.2; simp only at this; omega⟩, fun τ d hA => ?_⟩
      obtain ⟨e0, hA'⟩ := hA.tail
      have := h4 τ (d + 1) hA'
      have e1 : (rt w τ d).tape (rt w τ d).drawn = w.tape w.drawn := e0
      have e2 : ({ rt w τ d with drawn := (rt w τ d).drawn + 1 } : World) = rt { w with drawn := w.drawn + 1 } τ (d + 1) := rfl
      simp only [Sem.runT, hq, Bool.false_eq_true, if_false, e1, e2, this, Nat.add_assoc]
  | sys c k ih =>
    obtain ⟨rfl, hk⟩ := hs
    intro w es
    obtain ⟨hd, hw⟩ := sys_env_rt w
    refine .next (k := k (w.sys .env).1) (w₁ := (w.sys .env).2) (vs := #[⟨.output, true, false⟩]) (by intro e he; simp at he; subst he; exact hears_out _ _) hd (fun τ d => ?_) (ih _ (hk _) _ _)
    simp only [Sem.runT, hw, Array.push_eq_append]
  | program k ih => exact fun w es => .next (k := k P) (vs := #[]) (w₁ := w) (by simp) ⟨rfl, rfl⟩ (fun τ d => by simp only [Sem.runT, Array.append_empty]) (ih _ (hs _) _ _)
  | mark m k ih =>
    intro w es
    refine .next (k := k) (w₁ := w) (vs := #[⟨.mark m, false, true⟩]) (by intro e he; simp at he; subst he; exact ⟨fun x => hs.1 (Loc.mark.inj x), fun x => hs.2.1 (Loc.mark.inj x)⟩) ⟨rfl, rfl⟩ (fun τ d => ?_) (ih hs.2.2 _ _)
    simp only [Sem.runT, Array.push_eq_append]
  | halt h =>
    intro w es
    refine .done (fun w => .halt h w) (fun _ _ => rfl) (fun _ _ => rfl) ?_ ⟨rfl, rfl⟩
    cases h <;> first | trivial | exact hs.elim

end Go.Proofs.Ytjphaphnmclbcaa
