/- The walk of goroutine 0 alone, operation by operation, where the frame is known; the go statement; what is behind a call. No condition. -/
import Derived.Test.YtjphaphnmclbcaaBnf
import Derived.Test.YtjphaphnmclbcaaBne
import Derived.Test.YtjphaphnmclbcaaChG
namespace Go.Proofs.Ytjphaphnmclbcaa
open Go Go.Conc Go.ConcN

section
variable {P : Program} {Stop : Goroutine → World → Prop} {b : Frame} {a a' : Act} {k : List Item} {cs : List Frame} {ops : Array Oper} {i : Nat} {rest : List Nat} {o : Oper} {w : World}

theorem T.oper (hk : b.kind ≠ .early) (ho : ops[i]? = some o) (hw : Region.wanted o (yielded ops a.tmps) = true) (hev : ∀ w₁, Re w w₁ → ∀ e ∈ (execOp a.eval o).events P w₁ #[], Hears e)
    (h : ∀ w₁, Re w w₁ → uponK o a (fun a' w' => T P Stop (G (b.at a' (.inRegion ops rest :: k)) cs) w') ((execOp a.eval o).run P w₁)) : T P Stop (G (b.at a (.inRegion ops (i :: rest) :: k)) cs) w := by
  have key : ∀ w₁, Re w w₁ → ∃ a' w', stepG P true (G (b.at a (.inRegion ops (i :: rest) :: k)) cs) w₁ = .go (G (b.at a' (.inRegion ops rest :: k)) cs) w' (listed P b.fn a o w₁) ∧ T P Stop (G (b.at a' (.inRegion ops rest :: k)) cs) w' := by
    intro w₁ h₁
    have := h w₁ h₁
    revert this
    cases hr : (execOp a.eval o).run P w₁ with
    | ok x w' =>
      cases x <;> first | exact fun h => h.elim | skip
      · exact fun hx => ⟨_, _, stepG_value ho hw hk hr, hx⟩
      · exact fun hx => ⟨_, _, stepG_none ho hw hk hr, hx⟩
    | halt _ _ => exact fun h => h.elim
  refine .step rfl (fun w₁ h₁ => ?_) fun w₁ g' w' es h₁ hs => ?_
  · obtain ⟨a', w', hs, _⟩ := key w₁ h₁
    exact ⟨_, _, _, hs, fun e he => hev w₁ h₁ e (mem_listed he)⟩
  · obtain ⟨a', w₂, hs', hx⟩ := key w₁ h₁
    rw [hs'] at hs
    cases hs
    exact hx

theorem re_heap {w w₁ : World} (h : Re w w₁) : w₁.heap = w.heap := by obtain ⟨_, _, rfl⟩ := h; rfl
theorem re_cell {w w₁ : World} (h : Re w w₁) (ad : Addr) : w₁.cell? ad = w.cell? ad := by obtain ⟨_, _, rfl⟩ := h; rfl
theorem re_alloc {w w₁ : World} (h : Re w w₁) (ob : Obj) : Re (w.alloc ob) (w₁.alloc ob) := by obtain ⟨τ, d, rfl⟩ := h; exact ⟨τ, d, rfl⟩
theorem re_setCell {w w₁ : World} (h : Re w w₁) (ad : Addr) (v : Value) : Re (w.setCell ad v) (w₁.setCell ad v) := by obtain ⟨τ, d, rfl⟩ := h; exact ⟨τ, d, rfl⟩

theorem T.val {v : Value} (hk : b.kind ≠ .early) (ho : ops[i]? = some o) (hw : Region.wanted o (yielded ops a.tmps) = true) (hr : ∀ w₁, Re w w₁ → (execOp a.eval o).run P w₁ = .ok (.value v) w₁ ∧ ∀ e ∈ (execOp a.eval o).events P w₁ #[], Hears e) (ha : a.put o.dst v = a')
    (h : T P Stop (G (b.at a' (.inRegion ops rest :: k)) cs) w) : T P Stop (G (b.at a (.inRegion ops (i :: rest) :: k)) cs) w :=
  T.oper hk ho hw (fun w₁ h₁ => (hr w₁ h₁).2) fun w₁ h₁ => by rw [(hr w₁ h₁).1]; exact (ha ▸ h).rely h₁

theorem T.new {v : Value} {ob : Obj} (hk : b.kind ≠ .early) (ho : ops[i]? = some o) (hw : Region.wanted o (yielded ops a.tmps) = true) (hr : ∀ w₁, Re w w₁ → (execOp a.eval o).run P w₁ = .ok (.value v) (w₁.alloc ob) ∧ ∀ e ∈ (execOp a.eval o).events P w₁ #[], Hears e) (ha : a.put o.dst v = a')
    (h : T P Stop (G (b.at a' (.inRegion ops rest :: k)) cs) (w.alloc ob)) : T P Stop (G (b.at a (.inRegion ops (i :: rest) :: k)) cs) w :=
  T.oper hk ho hw (fun w₁ h₁ => (hr w₁ h₁).2) fun w₁ h₁ => by rw [(hr w₁ h₁).1]; exact (ha ▸ h).rely (re_alloc h₁ ob)

theorem T.upd {ad : Addr} {v : Value} (hk : b.kind ≠ .early) (ho : ops[i]? = some o) (hw : Region.wanted o (yielded ops a.tmps) = true) (hr : ∀ w₁, Re w w₁ → (execOp a.eval o).run P w₁ = .ok .skip (w₁.setCell ad v) ∧ ∀ e ∈ (execOp a.eval o).events P w₁ #[], Hears e) (ha : a.put o.dst undef = a')
    (h : T P Stop (G (b.at a' (.inRegion ops rest :: k)) cs) (w.setCell ad v)) : T P Stop (G (b.at a (.inRegion ops (i :: rest) :: k)) cs) w :=
  T.oper hk ho hw (fun w₁ h₁ => (hr w₁ h₁).2) fun w₁ h₁ => by rw [(hr w₁ h₁).1]; exact (ha ▸ h).rely (re_setCell h₁ ad v)

/-- Into a Go function. -/
theorem T.enterF {f : FuncId} {fd : Func} {c : Code} {args : Array Operand} {vs : Array Value} {ats : Array TypeId} (hk : b.kind ≠ .early) (ho : ops[i]? = some o) (hw : Region.wanted o (yielded ops a.tmps) = true) (hop : o.op = .call { callee := .value (.func f), args, argTypes := ats })
    (hf : P.funcs[f]? = some fd) (hname : (fd.name == "runtime.NumGoroutine") = false) (hb : fd.body = some c) (hargs : args.map a.eval = vs)
    (h : T P Stop (G ((base f).at { tmps := vs ++ Array.replicate (fd.ntmps - vs.size) undef, defers := [] } [.code c]) (b.at a (.inRegion ops (i :: rest) :: k) :: cs)) w) : T P Stop (G (b.at a (.inRegion ops (i :: rest) :: k)) cs) w := by
  have hb' : fd.body.isNone = false := by rw [hb]; rfl
  refine .ctl (g' := G (Frame.enter P f vs .normal) (b.at a (.inRegion ops (i :: rest) :: k) :: cs)) rfl (fun w => ?_) (by rw [enter_at vs hf hb]; exact h)
  rw [stepG_enter ho hw hk (run_call_body hop hf hname hb'), hargs]
  have : listed P b.fn a o w = #[] := by unfold listed; rw [events_call_body hop hf hname hb']; exact seen_none P _
  rw [this]

/-- THE GO STATEMENT: from here on the two are under way. -/
theorem T.fork {α : Type} {c : Nat} {Sh : Nat → Prop} {Phi : α → Value → (Nat → Prop) → World → Prop} {z : Value} {xs : List α} {f : FuncId} {cap : Array Value} {s : Nat} {tm : Bool} {M0 : Nat → Prop} (hPhi : Keeps Phi) (hk : b.kind ≠ .early) (ho : ops[i]? = some o) (hw : Region.wanted o (yielded ops a.tmps) = true)
    (hr : ∀ w₁, (execOp a.eval o).run P w₁ = .ok (.spawn { target := .fn (.func f) cap, args := #[] }) w₁) (he : ∀ w₁, (execOp a.eval o).events P w₁ #[] = #[]) (hch : w.heap[c]? = some (.chan 0 #[] false s s tm)) (hSh : ∀ k, Sh k → k < w.heap.size) (hc : ¬ Sh c) (hM0 : ∀ k, M0 k → k < w.heap.size ∧ k ≠ c ∧ ¬ Sh k) (ha : a.put o.dst undef = a')
    (hA : RcvF P c Sh Phi z Stop (some xs, M0) (G (b.at a' (.inRegion ops rest :: k)) cs) w) (hB : SndF P c Sh Phi (xs, fun _ => False) (born P { target := .fn (.func f) cap, args := #[] }) w) :
    T P Stop (G (b.at a (.inRegion ops (i :: rest) :: k)) cs) w := by
  refine T.jump (T P Stop) (fun w₂ h₂ => fork_reach (c := c) (Sh := Sh) (Phi := Phi) (z := z) (xs := xs) (M0 := M0) hPhi rfl fun w₁ h₁ => ?_) fun _ _ h => h
  have hre : Re w w₁ := h₂.trans h₁
  refine ⟨G (b.at a' (.inRegion ops rest :: k)) cs, born P { target := .fn (.func f) cap, args := #[] }, w₁, #[], s, tm, ?_, by simp, by rw [re_heap hre]; exact hch, by rw [re_heap hre]; exact hSh, hc, by rw [re_heap hre]; exact hM0, ?_, ?_⟩
  · rw [stepG_spawn ho hw hk (hr w₁) rfl]
    have : listed P b.fn a o w₁ = #[] := by unfold listed; rw [he]; exact seen_none P _
    rw [this, ha]
  · exact (fam_rcv (P := P) (c := c) (Sh := Sh) (Phi := Phi) (z := z) (Stop := Stop)).rely (M := (some xs, M0)) hA (Rl.of_re hre)
  · exact (fam_snd (P := P) (c := c) (Sh := Sh) hPhi).rely (M := (xs, fun _ => False)) hB (Rl.of_re hre)
end

end Go.Proofs.Ytjphaphnmclbcaa
