/- A region that draws its order, for one of the two goroutines under way: a state that every order keeps. No condition. -/
import Derived.Test.YtjphaphnmclbcaaBnd
import Derived.Orders
namespace Go.Proofs.Ytjphaphnmclbcaa
open Go Go.Conc

section
variable {P : Program} {main : Bool} {Sh : Nat → Prop} {ι : Type} {C : Gh ι → Goroutine → World → Prop} {fn : FuncId} {Q : Exit → Act → World → Gh ι → Prop}

theorem opsC_lin (hS : Fam P main Sh C) {md : Region.Mode} {ops : Array Oper} (St : Array Bool → Act → World → Gh ι → Prop)
    (step : ∀ L a w M i, L.size = ops.size → St L a w M → i ∈ Region.ready md ops L → ∀ rest Q, (∀ a' w' M', St (L.setIfInBounds i true) a' w' M' → OpsC C fn ops rest Q a' w' M') → OpsC C fn ops (i :: rest) Q a w M)
    (fin : ∀ L a w M, L.size = ops.size → St L a w M → Region.ready md ops L = [] → Q .normal a w M) :
    ∀ (fuel t : Nat) (L : Array Bool) (a : Act) (w : World) (M : Gh ι), L.size = ops.size → L.count false ≤ fuel → St L a w M → OpsC C fn ops (Region.linearise.go md ops fuel t L []) Q a w M := by
  intro fuel
  induction fuel with
  | zero =>
    intro t L a w M hL hc h
    have hnil : Region.ready md ops L = [] := by
      rw [List.eq_nil_iff_forall_not_mem]
      intro j hj
      obtain ⟨h1, o, ho, _⟩ := mem_ready.1 hj
      have hlt : j < L.size := by rw [hL]; exact (Array.getElem?_eq_some_iff.1 ho).1
      have hz : L.count false = 0 := by omega
      rw [Array.count_eq_zero] at hz
      refine hz ?_
      have : L[j] = false := by simpa [Array.getD, hlt] using h1
      rw [← this]
      exact Array.getElem_mem hlt
    simpa [Region.linearise.go] using opsC_nil hS (fin L a w M hL h hnil)
  | succ fuel ih =>
    intro t L a w M hL hc h
    simp only [Region.linearise.go]
    change OpsC C fn ops (match (Region.ready md ops L)[t % (Region.ready md ops L).length]? with
      | some i => Region.linearise.go md ops fuel (t / (Region.ready md ops L).length) (L.setIfInBounds i true) [i]
      | none => [].reverse) Q a w M
    cases hi : (Region.ready md ops L)[t % (Region.ready md ops L).length]? with
    | none =>
      have hnil : Region.ready md ops L = [] := by
        cases hr : Region.ready md ops L with
        | nil => rfl
        | cons x xs =>
          rw [hr] at hi
          have hlt : t % (x :: xs).length < (x :: xs).length := Nat.mod_lt _ (by simp)
          simp at hi
          simp at hlt
          omega
      simpa using opsC_nil hS (fin L a w M hL h hnil)
    | some i =>
      simp only []
      rw [linearise_go_acc, List.reverse_singleton, List.singleton_append]
      have hm := List.mem_of_getElem? hi
      refine step L a w M i hL h hm _ _ fun a' w' M' h' => ih _ _ _ _ _ (by simpa using hL) ?_ h'
      obtain ⟨h1, o, ho, _⟩ := mem_ready.1 hm
      have hlt : i < L.size := by rw [hL]; exact (Array.getElem?_eq_some_iff.1 ho).1
      have hli : L[i] = false := by simpa [Array.getD, hlt] using h1
      have e : L.setIfInBounds i true = L.set i true hlt := by simp [Array.setIfInBounds, hlt]
      rw [e, Array.count_set hlt]
      simp [hli]
      have hpos : 0 < L.count false := by
        rw [Array.count_pos_iff, ← hli]
        exact Array.getElem_mem hlt
      omega

/-- A region that draws its order. -/
theorem wpC_region_draw (hS : Fam P main Sh C) (hm : P.follows .mixedOrders = true) {id : Nat} {ops : Array Oper} {a : Act} {w : World} {M : Gh ι}
    (h : ∀ w₁, Rl Sh M.2 w w₁ → ∀ t, OpsC C fn ops (Region.linearise.go .any ops ops.size t (Array.replicate ops.size false) []) Q a w₁ M) : WpC C fn (.region id ops true) Q a w M := by
  intro b k cs hb hk hc
  have hst : ∀ w, stepG P main (G (b.at a (.code (.region id ops true) :: k)) cs) w =
      .go (G (b.at a (.inRegion ops (Region.linearise .any ops (w.tape w.drawn (.order b.fn id))) :: k)) cs) { w with drawn := w.drawn + 1 } := by
    intro w
    have : Region.linearise .any ops (w.tape w.drawn (.order b.fn id)) = Region.schedule (P.follows .mixedOrders) ops (w.tape w.drawn (.order b.fn id)) := by simp [Region.schedule, hm]
    rw [this]
    simp [G, stepG, stepG.exec, Frame.at, choose, Sem.run, Question.forced, Question.cut]
  refine hS.step rfl (fun w₁ _ => ⟨_, _, _, hst w₁, rfl, rfl, Nat.le_refl _, fun _ _ _ => rfl, by simp⟩) fun w₁ g' w' es h₁ hs => ?_
  rw [hst w₁] at hs
  cases hs
  rw [grow_self M.2 w₁ { w₁ with drawn := w₁.drawn + 1 } rfl]
  refine hS.rely (h w₁ h₁ _ b k cs hb hk hc) ⟨rfl, rfl, Nat.le_refl _, fun _ _ => rfl⟩

end

end Go.Proofs.Ytjphaphnmclbcaa
