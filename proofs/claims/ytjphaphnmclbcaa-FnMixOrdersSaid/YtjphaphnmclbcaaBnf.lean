/- Texts of this claim put into one: ChS, ChT, Sw9, Eq4, SwK, WoK, Tame, ChC, ChD, ChE. -/
import Derived.Test.YtjphaphnmclbcaaBne
import Derived.Conc.PipeGen
import Derived.Conc.TokenWalk
import Derived.Test.YtjphaphnmclbcaaBnd
import Derived.Test.YtjphaphnmclbcaaChecked
import Derived.KernelRfl
/- From the go statement to the closed channel found. No condition. -/
namespace Go.Proofs.Ytjphaphnmclbcaa
open Go Go.Conc Go.ConcN

theorem fork_reach {α : Type} {P : Program} {c : Nat} {Sh : Nat → Prop} {Phi : α → Value → (Nat → Prop) → World → Prop} {z : Value} {Fin : Goroutine → World → Prop} {g : Goroutine} {w : World} {xs : List α} {M0 : Nat → Prop}
    (hPhi : ∀ x v V w w₁, (∀ k, V k → w₁.heap[k]? = w.heap[k]?) → Phi x v V w → Phi x v V w₁) (hrun : g.status = .running)
    (h : ∀ w₁, Re w w₁ → ∃ a child w' es s tm, stepG P true g w₁ = .spawn a child w' es ∧ (∀ e ∈ es, Hears e) ∧ w'.heap[c]? = some (.chan 0 #[] false s s tm) ∧ (∀ k, Sh k → k < w'.heap.size) ∧ ¬ Sh c ∧ (∀ k, M0 k → k < w'.heap.size ∧ k ≠ c ∧ ¬ Sh k) ∧
      Rcv P c Sh Phi z Fin xs M0 a w' ∧ Snd P c Sh Phi xs (fun _ => False) child w') : Reach P g w Fin := by
  have key : ∀ (m : Nat) (w₁ : World) (gs : Array Goroutine) (sl : Option (Nat × Nat)) (t : Trace) (q : Nat → Nat), Re w w₁ → Go.ConcN.sumTo gs.size q ≤ m → gs[0]? = some g → Leavers P t gs q → Pst t → Concl P Fin gs w₁ sl t := by
    have mv : ∀ (w₁ : World) (gs : Array Goroutine) (sl sl' : Option (Nat × Nat)) (t : Trace) (q : Nat → Nat) (d : Nat), Re w w₁ → gs[0]? = some g → Leavers P t gs q → Pst t → stepT P (crowd gs w₁ sl) = runT P (crowd gs (w₁.at d) sl') 0 → Concl P Fin gs w₁ sl t := by
      intro w₁ gs sl sl' t q d hr h0 hL hP hs
      obtain ⟨a, child, w', es, s, tm, hsp, hev, hch, hSh, hcSh, hM0, hA, hB⟩ := h (w₁.at d) (hr.trans (Re.at _ _))
      have hlt : 0 < gs.size := (Array.getElem?_eq_some_iff.1 h0).1
      have hrn := runT_crowd_spawn (P := P) (sl := sl') (i := 0) h0 (show stepG P (0 == 0) g (w₁.at d) = _ from hsp)
      have hsz : c < w'.heap.size := (Array.getElem?_eq_some_iff.1 hch).1
      refine .step (hs.trans hrn) ?_
      have e : ∀ (u : Array MemOp) (x y : MemOp), t ++ ((u.push x).push y) = (t ++ u) ++ #[x, y] := fun u x y => by apply Array.ext'; simp
      rw [e]
      have hP' : Pst (t ++ MemOp.ofEvents 0 g.frame.fn g.frame.place es) := hP.own hev
      have hdj : Deaf (t ++ MemOp.ofEvents 0 g.frame.fn g.frame.place es) gs.size = 0 := by
        rw [Deaf_other t (g' := 0) (by omega) _ own_g]
        exact hL.above _ (Nat.le_refl _)
      have hdf : ∀ l, l ≠ 0 → Deaf ((t ++ MemOp.ofEvents 0 g.frame.fn g.frame.place es) ++ #[({ g := 0, fn := g.frame.fn, pos := g.frame.place, act := .go gs.size } : MemOp), { g := gs.size, fn := child.frame.fn, pos := g.frame.place, act := .start }]) l = Deaf t l := by
        intro l hl
        rw [Deaf_still (by intro op hop; rcases (show op = _ ∨ op = _ by simpa using hop) with rfl | rfl <;> simp), Deaf_other t (g' := 0) (Ne.symm hl) _ own_g]
      refine phase hPhi xs (s := s) (tm := tm) (q := upd q gs.size 0) (j := gs.size) ⟨?_, ?_, hlt, upd_same _ _ _, fun l y hl hlj hy => ?_, fun l hl => ?_, hch, ⟨⟨hsz, hcSh⟩, hSh, fun k hk => ⟨(hM0 k hk).1, (hM0 k hk).2.1, (hM0 k hk).2.2, fun h => h⟩, fun k hk => hk.elim⟩, TwoG.fork hP' hdj ⟨rfl, rfl⟩ ⟨rfl, rfl⟩ _ _ _ _⟩ hA hB
      · rw [Array.getElem?_push_lt (by simpa using hlt)]; simp
      · have : (gs.setIfInBounds 0 a).size = gs.size := by simp
        rw [← this]; exact Array.getElem?_push_size
      · have hl' : l < gs.size := by
          have := (Array.getElem?_eq_some_iff.1 hy).1
          simp at this; omega
        rw [Array.getElem?_push_lt (by simpa using hl')] at hy
        have hy' : gs[l]? = some y := by
          rw [← hy, Array.getElem_setIfInBounds (by simpa using hl')]
          simp [show (0 : Nat) ≠ l by omega, hl']
        rw [hdf l (by omega), upd_ne q 0 hlj]
        exact hL.old l y hl hy'
      · have : gs.size < l := by simp at hl; omega
        rw [hdf l (by omega)]
        exact hL.above l (by omega)
    intro m
    induction m with
    | zero =>
      intro w₁ gs sl t q hr hm h0 hL hP
      rcases pick_leavers (P := P) (w := w₁) (sl := sl) h0 hrun hL hP with ⟨d, sl', hs⟩ | ⟨_, _, _, _, _, _, _, _, _, _, _, hlt⟩
      · exact mv w₁ gs sl sl' t q d hr h0 hL hP hs
      · omega
    | succ m ih =>
      intro w₁ gs sl t q hr hm h0 hL hP
      rcases pick_leavers (P := P) (w := w₁) (sl := sl) h0 hrun hL hP with ⟨d, sl', hs⟩ | ⟨d, sl', gs', t', q', ops, hs, rfl, h0', hL', hP', hlt⟩
      · exact mv w₁ gs sl sl' t q d hr h0 hL hP hs
      · exact .step hs (ih _ _ _ _ _ (hr.trans (Re.at _ _)) (by omega) h0' hL' hP')
  exact fun gs sl t q h0 hL hP => key _ w gs sl t q (Re.refl _) (Nat.le_refl _) h0 hL hP

end Go.Proofs.Ytjphaphnmclbcaa

/- The sender's and the receiver's families of scripts, and their communications as rules. No condition. -/
namespace Go.Proofs.Ytjphaphnmclbcaa
open Go Go.Conc Go.ConcN

section
variable {α : Type} {P : Program} {c : Nat} {Sh : Nat → Prop} {Phi : α → Value → (Nat → Prop) → World → Prop}

/-- The sender's. -/
def SndF (P : Program) (c : Nat) (Sh : Nat → Prop) (Phi : α → Value → (Nat → Prop) → World → Prop) (M : Gh (List α)) (g : Goroutine) (w : World) : Prop := Snd P c Sh Phi M.1 M.2 g w

/-- What passes stays as it is in the blocks that pass. -/
def Keeps (Phi : α → Value → (Nat → Prop) → World → Prop) : Prop := ∀ x v V w w₁, (∀ k, V k → w₁.heap[k]? = w.heap[k]?) → Phi x v V w → Phi x v V w₁

theorem fam_snd (hPhi : Keeps Phi) : Fam P false Sh (SndF P c Sh Phi) := by
  refine ⟨fun {M g w} hs h k => ?_, fun {M g w w₁} h hr => ?_⟩
  · exact snd_co.2 (.step hs h fun w₁ g' w' es h₁ h₂ => snd_co.1 (k w₁ g' w' es h₁ h₂))
  · exact snd_co.2 ((snd_co.1 h).rely (fun _ _ _ _ h hr => h.rely hPhi hr) hr)

variable {fn : FuncId} {a : Act} {w : World} {ops : Array Oper} {i : Nat} {rest : List Nat} {o : Oper}

/-- A send. -/
theorem opsC_send (hPhi : Keeps Phi) {Q : Exit → Act → World → Gh (List α) → Prop} {x₀ : α} {xs : List α} {M V : Nat → Prop} {x y : Operand} {v : Value} (ho : ops[i]? = some o) (hw : Region.wanted o (yielded ops a.tmps) = true) (hop : o.op = .send x y)
    (hx : a.eval x = .chan (some c)) (hy : a.eval y = v) (hV : ∀ k, V k → M k) (hP : Phi x₀ v V w) (h : OpsC (SndF P c Sh Phi) fn ops rest Q (a.put o.dst undef) w (xs, fun k => M k ∧ ¬ V k)) :
    OpsC (SndF P c Sh Phi) fn ops (i :: rest) Q a w (x₀ :: xs, M) := by
  intro b k cs hb hk hc
  have hke : b.kind ≠ .early := hk
  refine .stop ⟨rfl, G (b.at a (.inRegion ops (i :: rest) :: k)) cs, v, .tuple #[], V, fun w₁ _ => ⟨#[], ?_, by simp⟩, hV, hP, fun w₂ h₂ => ?_⟩
  · rw [stepG_comm (cases := #[scase c v (.tuple #[])]) (blocking := true) (shape := .send) (w' := w₁) ho hw hke (by simp [execOp, hop, hx, hy, scase])]
    have he : (execOp a.eval o).events P w₁ #[] = #[] := by
      unfold execOp
      simp only [hop]
      rfl
    unfold listed
    rw [he]
    simp [seen]
  · have e : Go.Conc.served (G (b.at a (.inRegion ops (i :: rest) :: k)) cs) undef = G (b.at (a.put o.dst undef) (.inRegion ops rest :: k)) cs := by
      rw [served_G]
      simp [ho]
    rw [e]
    exact (fam_snd hPhi).rely (M := (xs, fun k => M k ∧ ¬ V k)) (h b k cs hb hk hc) h₂

/-- A load of one cell, where the frame is known. -/
theorem raw_load {main : Bool} {ι : Type} {C : Gh ι → Goroutine → World → Prop} (hS : Fam P main Sh C) {M : Gh ι} {b : Frame} {k : List Item} {cs : List Frame} {t : TypeId} {x : Operand} {ad : Addr} {v : Value} (hk : b.kind ≠ .early) (ho : ops[i]? = some o) (hw : Region.wanted o (yielded ops a.tmps) = true)
    (hop : o.op = .load t x) (ht : scal P t = true) (hx : a.eval x = .pointer (some ad)) (hm : Sh ad.block ∨ M.2 ad.block) (hc : w.cell? ad = some v)
    (h : C M (G (b.at (a.put o.dst v) (.inRegion ops rest :: k)) cs) w) : C M (G (b.at a (.inRegion ops (i :: rest) :: k)) cs) w := by
  have key : ∀ w₁, Rl Sh M.2 w w₁ → stepG P main (G (b.at a (.inRegion ops (i :: rest) :: k)) cs) w₁ = .go (G (b.at (a.put o.dst v) (.inRegion ops rest :: k)) cs) w₁ (listed P b.fn a o w₁) ∧ ∀ e ∈ listed P b.fn a o w₁, EvM M.2 Sh e := by
    intro w₁ h₁
    have hc' : w₁.cell? ad = some v := (cell_eq (h₁.keep _ hm)).trans hc
    obtain ⟨h1, h2⟩ := loadVar_scal ht hc'
    have hr : (execOp a.eval o).run P w₁ = .ok (.value v) w₁ := by
      unfold execOp
      simp [hop, Instr.loadAt, Instr.sureAddr, hx, h1]
    refine ⟨stepG_value ho hw hk hr, fun e he => ?_⟩
    have he' := mem_listed he
    unfold execOp at he'
    simp [hop, Instr.loadAt, Instr.sureAddr, hx, h2] at he'
    subst he'
    exact evM_read hm
  refine hS.step rfl (fun w₁ h₁ => ⟨_, _, _, (key w₁ h₁).1, rfl, rfl, Nat.le_refl _, fun _ _ _ => rfl, fun e he => ?_⟩) fun w₁ g' w' es h₁ hs => ?_
  · rw [grow_self M.2 w₁ w₁ rfl]; exact (key w₁ h₁).2 e he
  · rw [(key w₁ h₁).1] at hs
    cases hs
    rw [grow_self M.2 w₁ w₁ rfl]
    exact hS.rely h h₁

/-- The bottom of a goroutine that a go statement has made. -/
def botF (P : Program) : Frame := { (default : Frame) with fn := P.funcs.size, defers := [], mode := .panicking [goexitEntry] }
def bDef (f : FuncId) : Frame := { (default : Frame) with fn := f, kind := .deferred }

theorem born_step {f : FuncId} {fd : Func} {code : Code} {main : Bool} {args : Array Value} (hf : P.funcs[f]? = some fd) (hname : (fd.name == "runtime.NumGoroutine") = false) (hb : fd.body = some code) (w : World) :
    stepG P main (born P { target := .fn (.func f) args, args := #[] }) w = .go (G ((bDef f).at ⟨args ++ Array.replicate (fd.ntmps - args.size) undef, []⟩ [.code code]) [botF P]) w #[] := by
  have hn : ¬ fd.name = "runtime.NumGoroutine" := by simpa using hname
  simp [born, stepG, unwind, callDeferred, invoke, callFunc, hf, hb, hn, seen, GStep.after, G, Frame.enter, Frame.at, bDef, botF]

/-- Behind the last operation of such a goroutine it only leaves. -/
theorem quits_def {f : FuncId} {fd : Func} {ops : Array Oper} {a : Act} (hf : P.funcs[f]? = some fd) (hr : fd.results = #[]) (hd : a.defers = []) : QuitsIn P 4 (G ((bDef f).at a [.inRegion ops []]) [botF P]) := by
  refine .inr ⟨rfl, _, fun w => stepG_region_end, ?_⟩
  refine .inr ⟨rfl, _, fun w => stepG_end, ?_⟩
  refine .inr ⟨rfl, G (botF P) [], fun w => ?_, ?_⟩
  · simp [G, stepG, unwind, doReturn, results, Frame.at, bDef, botF, hf, hr, hd, seen, GStep.after, goexitEntry]
  refine .inr ⟨rfl, { G (botF P) [] with status := .finished }, fun w => ?_, rfl⟩
  simp [G, stepG, unwind, botF, goexitEntry, Frame.catches]
  rfl

/-- The close: behind it the goroutine only leaves. -/
theorem shut_at {b : Frame} {k : List Item} {cs : List Frame} {M : Nat → Prop} {x : Operand} {ats : Array TypeId} {n : Nat} (ho : ops[i]? = some o) (hw : Region.wanted o (yielded ops a.tmps) = true) (hk : b.kind ≠ .early) (hop : o.op = .call { callee := .builtin .close, args := #[x], argTypes := ats })
    (hx : a.eval x = .chan (some c)) (hl : (P.funcs[b.fn]?).any (·.norace) = false) (hmw : mayWake P (G (b.at a (.inRegion ops (i :: rest) :: k)) cs) = true)
    (hq : QuitsIn P n (G (b.at (a.put o.dst (.tuple #[])) (.inRegion ops rest :: k)) cs)) :
    SndF P c Sh Phi ([], M) (G (b.at a (.inRegion ops (i :: rest) :: k)) cs) w := by
  refine .stop ⟨rfl, hmw, G (b.at (a.put o.dst (.tuple #[])) (.inRegion ops rest :: k)) cs, n, QuitsD.of_quitsIn hq, fun w₁ s r tm _ hc => ⟨#[⟨.obj c, false, true⟩], ?_, fun e he => ?_⟩⟩
  · rw [stepG_close ho hw hk hop hx hc hl]
    rfl
  · simp at he
    subst he
    exact ⟨fun m => by simp, fun a ha => by
      simp [MemAct.ofEvent, MemAct.touch?] at ha
      subst ha
      exact .inr ⟨.inr rfl, rfl⟩⟩

variable {z : Value} {Stop : Goroutine → World → Prop}

/-- The receiver's: while the channel is open, and (none) behind the phase. -/
def RcvF (P : Program) (c : Nat) (Sh : Nat → Prop) (Phi : α → Value → (Nat → Prop) → World → Prop) (z : Value) (Stop : Goroutine → World → Prop) (M : Gh (Option (List α))) (g : Goroutine) (w : World) : Prop :=
  match M.1 with
  | some xs => Rcv P c Sh Phi z (T P Stop) xs M.2 g w
  | none => ∀ w₂, Rl Sh M.2 w w₂ → T P Stop g w₂

theorem Rl.of_re {Sh M : Nat → Prop} {w w₁ : World} (h : Re w w₁) : Rl Sh M w w₁ := by
  obtain ⟨τ, d, rfl⟩ := h
  exact ⟨rfl, rfl, Nat.le_refl _, fun _ _ => rfl⟩

theorem fam_rcv : Fam P true Sh (RcvF P c Sh Phi z Stop) := by
  refine ⟨fun {M g w} hs h k => ?_, fun {M g w w₁} h hr => ?_⟩
  · obtain ⟨j, M⟩ := M
    cases j with
    | some xs => exact rcv_co.2 (.step hs h fun w₁ g' w' es h₁ h₂ => rcv_co.1 (k w₁ g' w' es h₁ h₂))
    | none =>
      refine fun w₂ h₂ => T.step hs (fun w₁ h₁ => ?_) fun w₁ g' w' es h₁ hst => ?_
      · obtain ⟨g', w', es, h3, h4⟩ := h w₁ (h₂.trans (Rl.of_re h₁))
        exact ⟨g', w', es, h3, fun e he => (h4.evs e he).hears⟩
      · exact k w₁ g' w' es (h₂.trans (Rl.of_re h₁)) hst w' (Rl.refl _ _ _)
  · obtain ⟨j, M⟩ := M
    cases j with
    | some xs => exact rcv_co.2 ((rcv_co.1 h).rely (fun _ _ _ _ h hr => h.rely hr) hr)
    | none => exact fun w₂ h₂ => h w₂ (hr.trans h₂)

section
variable {t : TypeId} {x : Operand} {b : Frame} {k : List Item} {cs : List Frame} {M : Nat → Prop}

theorem recv0_at (ho : ops[i]? = some o) (hw : Region.wanted o (yielded ops a.tmps) = true) (hk : b.kind ≠ .early)
    (hr : ∀ w, (execOp a.eval o).runT P w #[] = (.ok (.comm #[rcase c z] true (.recv true)) w, #[])) :
    AtRecv0 P c Sh z M (G (b.at a (.inRegion ops (i :: rest) :: k)) cs) w := by
  refine ⟨rfl, fun w₁ _ => ⟨#[], ?_, by simp⟩⟩
  have h1 : (execOp a.eval o).run P w₁ = .ok (.comm #[rcase c z] true (.recv true)) w₁ := by rw [← Sem.runT_fst P _ w₁ #[], hr]
  rw [stepG_comm ho hw hk h1, core_G]
  have he : (execOp a.eval o).events P w₁ #[] = #[] := by unfold Sem.events; rw [hr]
  unfold listed
  rw [he]
  simp [seen]

theorem served_at (ho : ops[i]? = some o) (v : Value) : Go.Conc.served (Go.Conc.core (G (b.at a (.inRegion ops (i :: rest) :: k)) cs)) v = G (b.at (a.put o.dst v) (.inRegion ops rest :: k)) cs := by
  rw [core_G, served_G]
  simp [ho]
end

/-- A receive that a send meets. -/
theorem opsC_recv {Q : Exit → Act → World → Gh (Option (List α)) → Prop} {x₀ : α} {xs : List α} {M : Nat → Prop} (ho : ops[i]? = some o) (hw : Region.wanted o (yielded ops a.tmps) = true)
    (hr : ∀ w, (execOp a.eval o).runT P w #[] = (.ok (.comm #[rcase c z] true (.recv true)) w, #[]))
    (h : ∀ w₂ v V, Rl Sh M w w₂ → Phi x₀ v V w₂ → (∀ k, V k → ¬ M k ∧ ¬ Sh k ∧ k ≠ c ∧ k < w₂.heap.size) → OpsC (RcvF P c Sh Phi z Stop) fn ops rest Q (a.put o.dst (.tuple #[v, .bool true])) w₂ (some xs, fun k => M k ∨ V k)) :
    OpsC (RcvF P c Sh Phi z Stop) fn ops (i :: rest) Q a w (some (x₀ :: xs), M) := by
  intro b k cs hb hk hc
  have hke : b.kind ≠ .early := hk
  refine .stop ⟨recv0_at ho hw hke hr, fun w₂ v V h₂ hP hV => ?_⟩
  rw [served_at ho]
  exact h w₂ v V h₂ hP hV b k cs hb hk hc

/-- The receive that finds the channel closed. -/
theorem opsC_recv_end {Q : Exit → Act → World → Gh (Option (List α)) → Prop} {M : Nat → Prop} (ho : ops[i]? = some o) (hw : Region.wanted o (yielded ops a.tmps) = true)
    (hr : ∀ w, (execOp a.eval o).runT P w #[] = (.ok (.comm #[rcase c z] true (.recv true)) w, #[]))
    (h : OpsC (RcvF P c Sh Phi z Stop) fn ops rest Q (a.put o.dst (.tuple #[z, .bool false])) w (none, M)) :
    OpsC (RcvF P c Sh Phi z Stop) fn ops (i :: rest) Q a w (some [], M) := by
  intro b k cs hb hk hc
  have hke : b.kind ≠ .early := hk
  refine .stop ⟨recv0_at ho hw hke hr, fun w₂ h₂ => ?_⟩
  rw [served_at ho]
  exact h b k cs hb hk hc w₂ h₂

end

end Go.Proofs.Ytjphaphnmclbcaa

/- The region of sendWords that makes the next beginning and calls sendWords again, whatever order the tape picks. No condition. -/
namespace Go.Proofs.Ytjphaphnmclbcaa
open Go Go.Conc Go.RowKit

theorem mixed_follows : Try.prog.follows .mixedOrders = true := by kernel_rfl

def cellsOf (c : List Nat) : Array Value := (c.map fun (x : Nat) => Value.int .i64 (x : Int)).toArray

/-- What passes: a word, in one block that the call has made. -/
def PhiW (B : Nat) (x : List Int) (v : Value) (V : Nat → Prop) (w : World) : Prop := Own w B v x ∧ V = fun k => v.ownBlock = some k
theorem phiW_keeps (B : Nat) : Keeps (PhiW B) := by
  intro x v V w w₁ hk h
  obtain ⟨h1, rfl⟩ := h
  exact ⟨own_chg h1 fun k hk' _ => hk k hk', rfl⟩

/-- What is one's own stays so, and as it is. -/
structure Up (Sh : Nat → Prop) {ι : Type} (w : World) (M : Gh ι) (w' : World) (M' : Gh ι) : Prop where
  up : ∀ k, M.2 k → M'.2 k
  rl : Rl Sh M.2 w w'
theorem Up.refl (Sh : Nat → Prop) {ι : Type} (w : World) (M : Gh ι) : Up Sh w M w M := ⟨fun _ h => h, Rl.refl _ _ _⟩
theorem Up.trans {Sh : Nat → Prop} {ι : Type} {a b c : World} {M N L : Gh ι} (h : Up Sh a M b N) (k : Up Sh b N c L) : Up Sh a M c L := ⟨fun x hx => k.up x (h.up x hx), h.rl.trans (k.rl.mono h.up)⟩
theorem Fwd.to_up {Sh : Nat → Prop} {ι : Type} {w w' : World} {M M' : Gh ι} (h : Fwd Sh w M w' M') : Up Sh w M w' M' := ⟨h.up, h.rl⟩

/-- A list of one's own, in one block. -/
structure OwC {ι : Type} (B : Nat) (w : World) (M : Gh ι) (u : Value) (ys : List Int) : Prop where
  own : Own w B u ys
  mine : ∀ k, u.ownBlock = some k → M.2 k
  some_ : u ≠ .slice none 0 0
theorem OwC.up {Sh : Nat → Prop} {ι : Type} {B : Nat} {w w' : World} {M M' : Gh ι} {u : Value} {ys : List Int} (h : OwC B w M u ys) (k : Up Sh w M w' M') : OwC B w' M' u ys :=
  ⟨own_chg h.own fun j hj _ => k.rl.keep j (.inr (h.mine j hj)), fun j hj => k.up j (h.mine j hj), h.some_⟩
theorem OwC.sl {ι : Type} {Sh : Nat → Prop} {B : Nat} {w : World} {M : Gh ι} {u : Value} {ys : List Int} (h : OwC B w M u ys) : ∃ g c, u = .slice (some ⟨g, 0, none⟩) ys.length c ∧ SlC Sh w M ⟨g, 0, none⟩ ys.length ys := by
  rcases h.own.2 with ⟨h1, h2⟩ | ⟨g, cap, cur, hv, r⟩
  · exact absurd h1 h.some_
  · refine ⟨g, cap, hv, rfl, .inr (h.mine g (by rw [hv]; rfl)), fun j u hj => ?_⟩
    have := World.ownsRow.cells (g := g) h.own (by rw [hv]; rfl)
    exact this j u hj

/-- Behind a call of sendWords: the words are sent; the beginning may have gone with them, nothing else. -/
structure SentC (Sh : Nat → Prop) {α : Type} (u : Value) (xs : List α) (w : World) (M : Nat → Prop) (w' : World) (M' : Gh (List α)) : Prop where
  ix : M'.1 = xs
  up : ∀ k, M k → u.ownBlock ≠ some k → M'.2 k
  rl : Rl Sh (fun k => M k ∧ u.ownBlock ≠ some k) w w'
  there : There Sh w' M'

/-- sendWords sends the words, where t letters are left. -/
def SendOK (c B : Nat) (Sh : Nat → Prop) (t : Nat) : Prop := ∀ (b : List Int) (L : List Nat) (u : Value) (w : World) (M : Nat → Prop) (xs : List (List Int)), L.length = 4 → L.sum = t → b.length + t ≤ 100 → (∀ k, Sh k → k < B) → B ≤ w.heap.size →
  There Sh w ((wgo t b L ++ xs, M) : Gh (List (List Int))) → OwC B w ((wgo t b L ++ xs, M) : Gh (List (List Int))) u b →
  CallsC Try.prog (SndF Try.prog c Sh (PhiW B)) 105 #[.chan (some c), u, .agg (cellsOf L)] w (wgo t b L ++ xs, M) (fun _ w' M' => SentC Sh u xs w M w' M')

/-- o waits for operation j. -/
def dep (j : Nat) (o : Oper) : Prop := ∃ e ∈ o.after, e.on = j ∧ Region.binds .any e = true
theorem dep_ready {ops : Array Oper} {L : Array Bool} {i j : Nat} {o : Oper} (hi : i ∈ Region.ready .any ops L) (ho : ops[i]? = some o) (hd : dep j o) : L.getD j false = true := by
  obtain ⟨_, o', ho', h⟩ := mem_ready.1 hi
  rw [ho] at ho'
  cases ho'
  obtain ⟨e, he, rfl, hb⟩ := hd
  exact h e he hb

/-- The eight operations. -/
structure R9 (ops : Array Oper) : Prop where
  n : ops.size = 8
  o0 : ∃ o, ops[0]? = some o ∧ o.guard = none ∧ o.dst = some 27 ∧ o.op = .move (.tmp 0)
  o1 : ∃ o, ops[1]? = some o ∧ o.guard = none ∧ o.dst = some 28 ∧ o.op = .move (.tmp 1)
  o2 : ∃ o, ops[2]? = some o ∧ o.guard = none ∧ o.dst = some 29 ∧ o.op = .move (.tmp 6)
  o3 : ∃ o, ops[3]? = some o ∧ o.guard = none ∧ o.dst = some 30 ∧ o.op = .buildSlice 23 1 #[(0, .tmp 29)] ∧ dep 2 o
  o4 : ∃ o, ops[4]? = some o ∧ o.guard = none ∧ o.dst = some 31 ∧ o.op = .buildSlice 38 2 #[(0, .tmp 28), (1, .tmp 30)] ∧ dep 1 o ∧ dep 3 o
  o5 : ∃ o, ops[5]? = some o ∧ o.guard = none ∧ o.dst = some 32 ∧ o.op = .call { callee := .value (.func 111), args := #[.tmp 31], argTypes := #[38] } ∧ dep 4 o
  o6 : ∃ o, ops[6]? = some o ∧ o.guard = none ∧ o.dst = some 33 ∧ o.op = .load 63 (.tmp 8)
  o7 : ∃ o, ops[7]? = some o ∧ o.guard = none ∧ (∃ ats, o.op = .call { callee := .value (.func 105), args := #[.tmp 27, .tmp 32, .tmp 33], argTypes := ats }) ∧ dep 0 o ∧ dep 5 o ∧ dep 6 o ∧ (o.dst = none ∨ o.dst = some 34)

theorem getD_set {L : Array Bool} {i j : Nat} (h : i < L.size) : (L.setIfInBounds i true).getD j false = if i = j then true else L.getD j false := by
  simp only [Array.getD_eq_getD_getElem?, Array.getElem?_setIfInBounds]
  split
  · rename_i e; subst e; simp
  · rfl
theorem put_getD {a : Act} {d j : Nat} {v : Value} (h : d < a.tmps.size) : (a.put (some d) v).tmps.getD j undef = if d = j then v else a.tmps.getD j undef := by
  unfold Act.put
  simp only [Array.getD_eq_getD_getElem?, Array.getElem?_setIfInBounds]
  split
  · rename_i e; subst e; simp
  · rfl
theorem put_size (a : Act) (d : Option Tmp) (v : Value) : (a.put d v).tmps.size = a.tmps.size := by unfold Act.put; cases d <;> simp
theorem put_defers (a : Act) (d : Option Tmp) (v : Value) : (a.put d v).defers = a.defers := by unfold Act.put; cases d <;> rfl

section
variable (Sh : Nat → Prop) (c B : Nat) (u : Value) (b : List Int) (x : Int) (gr : Nat) (L' : List Nat) (a0 : Act) (w0 : World) (M0 : Nat → Prop) (ws xs : List (List Int))

/-- Ahead of the call of sendWords. -/
structure Pre9 (L : Array Bool) (a : Act) (w : World) (M : Gh (List (List Int))) : Prop where
  ix : M.1 = ws ++ xs
  up : Up Sh w0 ((ws ++ xs, M0) : Gh (List (List Int))) w M
  there : There Sh w M
  r3 : L.getD 3 false = true → ∃ g c', a.tmps.getD 30 undef = .slice (some ⟨g, 0, none⟩) 1 c' ∧ SlC Sh w M ⟨g, 0, none⟩ 1 [x]
  r4 : L.getD 4 false = true → ∃ g A1 A2 n1 c1 c2, a.tmps.getD 31 undef = .slice (some ⟨g, 0, none⟩) 2 2 ∧ M.2 g ∧ w.cell? ⟨g, 0, none⟩ = some (.slice (some A1) n1 c1) ∧ w.cell? ⟨g, 1, none⟩ = some (.slice (some A2) 1 c2) ∧ SlC Sh w M A1 n1 b ∧ SlC Sh w M A2 1 [x]
  r5 : L.getD 5 false = true → OwC w0.heap.size w M (a.tmps.getD 32 undef) (b ++ [x])

structure St9 (L : Array Bool) (a : Act) (w : World) (M : Gh (List (List Int))) : Prop where
  sz : a.tmps.size = 36
  df : a.defers = []
  eq : ∀ s, s < 27 → a.tmps.getD s undef = a0.tmps.getD s undef
  r0 : L.getD 0 false = true → a.tmps.getD 27 undef = .chan (some c)
  r1 : L.getD 1 false = true → a.tmps.getD 28 undef = u
  r2 : L.getD 2 false = true → a.tmps.getD 29 undef = .int .i64 x
  r6 : L.getD 6 false = true → a.tmps.getD 33 undef = .agg (cellsOf L')
  cl : (L.getD 5 false = true → L.getD 4 false = true) ∧ (L.getD 4 false = true → L.getD 1 false = true ∧ L.getD 3 false = true) ∧ (L.getD 3 false = true → L.getD 2 false = true)
  pre : L.getD 7 false = false → Pre9 Sh b x w0 M0 ws xs L a w M
  post : L.getD 7 false = true → (∀ j, j < 8 → L.getD j false = true) ∧ M.1 = xs ∧ (∀ k, M0 k → M.2 k) ∧ Rl Sh M0 w0 w ∧ There Sh w M

variable {Sh c B u b x L' a0 w0 M0 ws xs}
variable {L : Array Bool} {a : Act} {w : World} {M : Gh (List (List Int))}

theorem SlC.up {ι : Type} {w w' : World} {M M' : Gh ι} {ad : Addr} {n : Nat} {ys : List Int} (h : SlC Sh w M ad n ys) (hf : Up Sh w M w' M') : SlC Sh w' M' ad n ys :=
  ⟨h.len, h.at_.imp id (hf.up _), fun j u hj => (cell_eq (by rw [addBlock]; exact hf.rl.keep _ h.at_)).trans (h.cell j u hj)⟩

theorem Pre9.next (h : Pre9 Sh b x w0 M0 ws xs L a w M) (hL : L.size = 8) (hsz : a.tmps.size = 36) {i : Nat} (hi : i < 7) {v : Value} {w' : World} {M' : Gh (List (List Int))} (hu : Up Sh w M w' M') (hx : M'.1 = M.1) (ht : There Sh w' M')
    (h3 : i = 3 → ∃ g c', v = .slice (some ⟨g, 0, none⟩) 1 c' ∧ SlC Sh w' M' ⟨g, 0, none⟩ 1 [x])
    (h4 : i = 4 → ∃ g A1 A2 n1 c1 c2, v = .slice (some ⟨g, 0, none⟩) 2 2 ∧ M'.2 g ∧ w'.cell? ⟨g, 0, none⟩ = some (.slice (some A1) n1 c1) ∧ w'.cell? ⟨g, 1, none⟩ = some (.slice (some A2) 1 c2) ∧ SlC Sh w' M' A1 n1 b ∧ SlC Sh w' M' A2 1 [x])
    (h5 : i = 5 → OwC w0.heap.size w' M' v (b ++ [x])) : Pre9 Sh b x w0 M0 ws xs (L.setIfInBounds i true) (a.put (some (27 + i)) v) w' M' := by
  refine ⟨hx.trans h.ix, h.up.trans hu, ht, fun hl => ?_, fun hl => ?_, fun hl => ?_⟩ <;> rw [getD_set (by omega)] at hl <;> rw [put_getD (by omega)]
  · by_cases e : i = 3
    · rw [if_pos (by omega)]; exact h3 e
    · rw [if_neg e] at hl
      rw [if_neg (by omega)]
      obtain ⟨g, c', e1, e2⟩ := h.r3 hl
      exact ⟨g, c', e1, e2.up hu⟩
  · by_cases e : i = 4
    · rw [if_pos (by omega)]; exact h4 e
    · rw [if_neg e] at hl
      rw [if_neg (by omega)]
      obtain ⟨g, A1, A2, n1, c1, c2, e1, e2, e3, e4, e5, e6⟩ := h.r4 hl
      exact ⟨g, A1, A2, n1, c1, c2, e1, hu.up _ e2, (cell_eq (hu.rl.keep g (.inr e2))).trans e3, (cell_eq (hu.rl.keep g (.inr e2))).trans e4, e5.up hu, e6.up hu⟩
  · by_cases e : i = 5
    · rw [if_pos (by omega)]; exact h5 e
    · rw [if_neg e] at hl
      rw [if_neg (by omega)]
      exact (h.r5 hl).up hu

theorem St9.next (h : St9 Sh c u b x L' a0 w0 M0 ws xs L a w M) (hL : L.size = 8) (h7 : L.getD 7 false = false) {i : Nat} (hi : i < 7) {v : Value} {w' : World} {M' : Gh (List (List Int))} (hu : Up Sh w M w' M') (hx : M'.1 = M.1) (ht : There Sh w' M')
    (h0 : i = 0 → v = .chan (some c)) (h1 : i = 1 → v = u) (h2 : i = 2 → v = .int .i64 x) (h6 : i = 6 → v = .agg (cellsOf L'))
    (c3 : i = 3 → L.getD 2 false = true) (c4 : i = 4 → L.getD 1 false = true ∧ L.getD 3 false = true) (c5 : i = 5 → L.getD 4 false = true)
    (h3 : i = 3 → ∃ g c', v = .slice (some ⟨g, 0, none⟩) 1 c' ∧ SlC Sh w' M' ⟨g, 0, none⟩ 1 [x])
    (h4 : i = 4 → ∃ g A1 A2 n1 c1 c2, v = .slice (some ⟨g, 0, none⟩) 2 2 ∧ M'.2 g ∧ w'.cell? ⟨g, 0, none⟩ = some (.slice (some A1) n1 c1) ∧ w'.cell? ⟨g, 1, none⟩ = some (.slice (some A2) 1 c2) ∧ SlC Sh w' M' A1 n1 b ∧ SlC Sh w' M' A2 1 [x])
    (h5 : i = 5 → OwC w0.heap.size w' M' v (b ++ [x])) : St9 Sh c u b x L' a0 w0 M0 ws xs (L.setIfInBounds i true) (a.put (some (27 + i)) v) w' M' := by
  have hsz := h.sz
  have old : ∀ j, j < 8 → i ≠ j → (L.setIfInBounds i true).getD j false = true → L.getD j false = true := fun j _ hj hl => by rwa [getD_set (by omega), if_neg hj] at hl
  have up' : ∀ j, L.getD j false = true → (L.setIfInBounds i true).getD j false = true := fun j hl => by
    rw [getD_set (by omega)]; split
    · rfl
    · exact hl
  refine ⟨by rw [put_size]; exact hsz, by rw [put_defers]; exact h.df, fun s hs => ?_, fun hl => ?_, fun hl => ?_, fun hl => ?_, fun hl => ?_, ⟨fun hl => ?_, fun hl => ?_, fun hl => ?_⟩, fun _ => (h.pre h7).next hL hsz hi hu hx ht h3 h4 h5, fun hl => ?_⟩
  · rw [put_getD (by omega), if_neg (by omega)]; exact h.eq s hs
  · rw [put_getD (by omega)]
    by_cases e : i = 0
    · rw [if_pos (by omega)]; exact h0 e
    · rw [if_neg (by omega)]; exact h.r0 (old 0 (by omega) e hl)
  · rw [put_getD (by omega)]
    by_cases e : i = 1
    · rw [if_pos (by omega)]; exact h1 e
    · rw [if_neg (by omega)]; exact h.r1 (old 1 (by omega) e hl)
  · rw [put_getD (by omega)]
    by_cases e : i = 2
    · rw [if_pos (by omega)]; exact h2 e
    · rw [if_neg (by omega)]; exact h.r2 (old 2 (by omega) e hl)
  · rw [put_getD (by omega)]
    by_cases e : i = 6
    · rw [if_pos (by omega)]; exact h6 e
    · rw [if_neg (by omega)]; exact h.r6 (old 6 (by omega) e hl)
  · by_cases e : i = 5
    · exact up' 4 (c5 e)
    · exact up' 4 (h.cl.1 (old 5 (by omega) e hl))
  · by_cases e : i = 4
    · exact ⟨up' 1 (c4 e).1, up' 3 (c4 e).2⟩
    · have := h.cl.2.1 (old 4 (by omega) e hl)
      exact ⟨up' 1 this.1, up' 3 this.2⟩
  · by_cases e : i = 3
    · exact up' 2 (c3 e)
    · exact up' 2 (h.cl.2.2 (old 3 (by omega) e hl))
  · exact absurd (old 7 (by omega) (by omega) hl) (by rw [h7]; simp)

theorem info4 : (Try.prog.info? 63).map (·.size) = some 4 := by kernel_rfl
theorem wanted_none {o : Oper} (h : o.guard = none) (y : Nat → Option Bool) : Region.wanted o y = true := by simp [Region.wanted, h]
theorem Up.drew {ι : Type} {w w₁ : World} {M : Gh ι} (h : Rl Sh M.2 w w₁) : Up Sh w M w₁ M := ⟨fun _ h => h, h⟩

theorem step9 (hB : B ≤ w0.heap.size) (hth : There Sh w0 ((ws ++ xs, M0) : Gh (List (List Int)))) {ops : Array Oper} (h9 : R9 ops) (hb : b.length ≤ 99) (hLL : L'.length = 4)
    (hIH : ∀ (w : World) (M : Nat → Prop) (u' : Value), B ≤ w.heap.size → There Sh w ((ws ++ xs, M) : Gh (List (List Int))) → OwC B w ((ws ++ xs, M) : Gh (List (List Int))) u' (b ++ [x]) →
      CallsC Try.prog (SndF Try.prog c Sh (PhiW B)) 105 #[.chan (some c), u', .agg (cellsOf L')] w (ws ++ xs, M) (fun _ w' M' => SentC Sh u' xs w M w' M'))
    (f0 : a0.tmps.getD 0 undef = .chan (some c)) (f1 : a0.tmps.getD 1 undef = u) (f6 : a0.tmps.getD 6 undef = .int .i64 x) (f8 : a0.tmps.getD 8 undef = .pointer (some ⟨gr, 0, none⟩))
    (hu : OwC B w0 ((ws ++ xs, M0) : Gh (List (List Int))) u b) (hgr : M0 gr) (hgc : w0.heap[gr]? = some (.cells (cellsOf L') 63 (0, 0))) {fn : FuncId} :
    ∀ L a w M i, L.size = ops.size → St9 Sh c u b x L' a0 w0 M0 ws xs L a w M → i ∈ Region.ready .any ops L → ∀ rest Q, (∀ a' w' M', St9 Sh c u b x L' a0 w0 M0 ws xs (L.setIfInBounds i true) a' w' M' → OpsC (SndF Try.prog c Sh (PhiW B)) fn ops rest Q a' w' M') →
      OpsC (SndF Try.prog c Sh (PhiW B)) fn ops (i :: rest) Q a w M := by
  intro L a w M i hLs hst hi rest Q hK
  have hS : Fam Try.prog false Sh (SndF Try.prog c Sh (PhiW B)) := fam_snd (phiW_keeps B)
  have hL : L.size = 8 := hLs.trans h9.n
  have hi8 : i < 8 := by
    obtain ⟨_, o, ho, _⟩ := mem_ready.1 hi
    have := (Array.getElem?_eq_some_iff.1 ho).1
    have := h9.n
    omega
  have hiF : L.getD i false = false := by
    have := (mem_ready.1 hi).1
    simp only [Array.getD_eq_getD_getElem?] at this ⊢
    have hlt : i < L.size := by omega
    simpa [hlt] using this
  have h7 : L.getD 7 false = false := by
    cases e : L.getD 7 false with
    | false => rfl
    | true => have := (hst.post e).1 i hi8; rw [hiF] at this; exact this.symm
  have hpre := hst.pre h7
  have ev : ∀ s, a.eval (.tmp s) = a.tmps.getD s undef := fun _ => rfl
  have hsz := hst.sz
  have same : ∀ {v : Value}, (i = 0 → v = .chan (some c)) → (i = 1 → v = u) → (i = 2 → v = .int .i64 x) → (i = 6 → v = .agg (cellsOf L')) → i ≠ 3 → i ≠ 4 → i ≠ 5 → i < 7 → St9 Sh c u b x L' a0 w0 M0 ws xs (L.setIfInBounds i true) (a.put (some (27 + i)) v) w M :=
    fun h0 h1 h2 h6 n3 n4 n5 hlt => hst.next hL h7 hlt (Up.refl Sh w M) rfl hpre.there h0 h1 h2 h6 (fun e => absurd e n3) (fun e => absurd e n4) (fun e => absurd e n5) (fun e => absurd e n3) (fun e => absurd e n4) (fun e => absurd e n5)
  rcases (show i = 0 ∨ i = 1 ∨ i = 2 ∨ i = 3 ∨ i = 4 ∨ i = 5 ∨ i = 6 ∨ i = 7 by omega) with rfl | rfl | rfl | rfl | rfl | rfl | rfl | rfl
  · obtain ⟨o, ho, hg, hd, hop⟩ := h9.o0
    refine opsC_move hS ho (wanted_none hg _) (.inl hop) (by rw [hd]) (hK _ _ _ (same (fun _ => ?_) (by omega) (by omega) (by omega) (by omega) (by omega) (by omega) (by omega)))
    rw [ev, hst.eq 0 (by omega)]; exact f0
  · obtain ⟨o, ho, hg, hd, hop⟩ := h9.o1
    refine opsC_move hS ho (wanted_none hg _) (.inl hop) (by rw [hd]) (hK _ _ _ (same (by omega) (fun _ => ?_) (by omega) (by omega) (by omega) (by omega) (by omega) (by omega)))
    rw [ev, hst.eq 1 (by omega)]; exact f1
  · obtain ⟨o, ho, hg, hd, hop⟩ := h9.o2
    refine opsC_move hS ho (wanted_none hg _) (.inl hop) (by rw [hd]) (hK _ _ _ (same (by omega) (by omega) (fun _ => ?_) (by omega) (by omega) (by omega) (by omega) (by omega)))
    rw [ev, hst.eq 6 (by omega)]; exact f6
  · obtain ⟨o, ho, hg, hd, hop, d2⟩ := h9.o3
    have l2 := dep_ready hi ho d2
    obtain ⟨i0, hii, hz0, hz1, hz2⟩ := info_parts infoI
    refine opsC_buildSlice hS ho (wanted_none hg _) (cells := #[.int .i64 x]) hop Try.underlying23 hii hz0 hz1 (by omega) ?_ fun w₁ h₁ => ?_
    · have e29 : a.eval (.tmp 29) = .int .i64 x := (ev 29).trans (hst.r2 l2)
      simp [e29, Instr.fill, Value.cells]
      apply Array.ext'
      simp [List.range, List.range.loop]
    · rw [hd]
      have hgb := World.grownBy_alloc w₁ (.cells #[.int .i64 x] 3) none
      have hsz1 : w₁.heap.size < (w₁.alloc (.cells #[.int .i64 x] 3)).heap.size := by rw [World.size_alloc]; exact Nat.lt_succ_self _
      refine hK _ _ _ (hst.next hL h7 (by omega) ((Fwd.refl Sh w M).grown h₁ hgb (fun k hk => by cases hk) hpre.there).to_up rfl (hpre.there.grown h₁ (Nat.le_of_lt hsz1)) (by omega) (by omega) (by omega) (by omega) (fun _ => l2) (by omega) (by omega) (fun _ => ⟨w₁.heap.size, 1, rfl, rfl, .inr (.inr ⟨Nat.le_refl _, hsz1⟩), fun j y hj => ?_⟩) (by omega) (by omega))
      match j, hj with
      | 0, hj => simp at hj; subst hj; rw [show (⟨w₁.heap.size, 0, none⟩ : Addr).add 0 = ⟨w₁.heap.size, 0, none⟩ from rfl, World.cell?_alloc_at _ _ _ _ rfl]; rfl
  · obtain ⟨o, ho, hg, hd, hop, d1, d3⟩ := h9.o4
    have l1 := dep_ready hi ho d1
    have l3 := dep_ready hi ho d3
    obtain ⟨g3, c3', e30, sl3⟩ := hpre.r3 l3
    obtain ⟨i0, hii, hz0, hz1, hz2⟩ := info_parts infoL
    obtain ⟨gu, cu, eu, slu⟩ := (hu.up hpre.up).sl (Sh := Sh)
    have e28 : a.eval (.tmp 28) = .slice (some ⟨gu, 0, none⟩) b.length cu := ((ev 28).trans (hst.r1 l1)).trans eu
    have e30' : a.eval (.tmp 30) = .slice (some ⟨g3, 0, none⟩) 1 c3' := (ev 30).trans e30
    refine opsC_buildSlice hS ho (wanted_none hg _) (cells := #[.slice (some ⟨gu, 0, none⟩) b.length cu, .slice (some ⟨g3, 0, none⟩) 1 c3']) hop Try.underlying38 hii hz0 hz1 (by omega) ?_ fun w₁ h₁ => ?_
    · simp [e28, e30', Instr.fill, Value.cells]
      apply Array.ext'
      simp [List.range, List.range.loop]
    · rw [hd]
      have hgb := World.grownBy_alloc w₁ (.cells #[.slice (some ⟨gu, 0, none⟩) b.length cu, .slice (some ⟨g3, 0, none⟩) 1 c3'] 23) none
      have hsz1 : w₁.heap.size < (w₁.alloc (.cells #[.slice (some ⟨gu, 0, none⟩) b.length cu, .slice (some ⟨g3, 0, none⟩) 1 c3'] 23)).heap.size := by rw [World.size_alloc]; exact Nat.lt_succ_self _
      have hup := ((Fwd.refl Sh w M).grown h₁ hgb (fun k hk => by cases hk) hpre.there).to_up
      refine hK _ _ _ (hst.next hL h7 (by omega) hup rfl (hpre.there.grown h₁ (Nat.le_of_lt hsz1)) (by omega) (by omega) (by omega) (by omega) (by omega) (fun _ => ⟨l1, l3⟩) (by omega) (by omega) (fun _ => ⟨w₁.heap.size, ⟨gu, 0, none⟩, ⟨g3, 0, none⟩, b.length, cu, c3', rfl, .inr ⟨Nat.le_refl _, hsz1⟩, ?_, ?_, slu.up hup, sl3.up hup⟩) (by omega))
      · rw [World.cell?_alloc_at _ _ _ _ rfl]; rfl
      · rw [World.cell?_alloc_at _ _ _ _ rfl]; rfl
  · obtain ⟨o, ho, hg, hd, hop, d4⟩ := h9.o5
    have l4 := dep_ready hi ho d4
    obtain ⟨g, A1, A2, n1, c1, c2, e31, mg, k1, k2, s1, s2⟩ := hpre.r4 l4
    have hn1 : n1 = b.length := s1.len.symm
    refine opsC_callF hS ho (wanted_none hg _) hop Try.func111 (by kernel_rfl) rfl (vs := #[.slice (some ⟨g, 0, none⟩) 2 2]) ?_ (concatC hS w M hpre.there g mg A1 A2 n1 1 c1 c2 b [x] k1 k2 s1 s2 (by omega) (by omega) (by omega)) ?_
    · have e31' : a.eval (.tmp 31) = .slice (some ⟨g, 0, none⟩) 2 2 := (ev 31).trans e31
      simp only [List.map_toArray, List.map_cons, List.map_nil, e31']
    · intro v w' M' m
      rw [hd]
      have hs0 := hpre.up.rl.size
      refine hK _ _ _ (hst.next hL h7 (by omega) m.fwd.to_up m.fwd.ix ?_ (by omega) (by omega) (by omega) (by omega) (by omega) (by omega) (fun _ => l4) (by omega) (by omega) (fun _ => ⟨m.own.mono hs0, m.mine, fun e => ?_⟩))
      · exact m.there
      · subst e
        have := m.own.1
        rcases m.own.2 with ⟨_, h2⟩ | ⟨_, _, _, h2, _⟩
        · simp at h2
        · cases h2
  · obtain ⟨o, ho, hg, hd, hop⟩ := h9.o6
    have e8 : a.eval (.tmp 8) = .pointer (some ⟨gr, 0, none⟩) := ((ev 8).trans (hst.eq 8 (by omega))).trans f8
    have hm : M.2 gr := hpre.up.up gr hgr
    have hc' : w.heap[gr]? = some (.cells (cellsOf L') 63 (0, 0)) := (hpre.up.rl.keep gr (.inr hgr)).trans hgc
    refine opsC_loadrow hS ho (wanted_none hg _) (cs := cellsOf L') hop (by kernel_rfl) ?_ e8 (.inr hm) hc' ?_
    · have : (cellsOf L').size = 4 := by simp [cellsOf, hLL]
      rw [this]
      exact info4
    · rw [hd]
      exact hK _ _ _ (same (by omega) (by omega) (by omega) (fun _ => rfl) (by omega) (by omega) (by omega) (by omega))
  · obtain ⟨o, ho, hg, ⟨ats, hop⟩, d0, d5, d6, hd⟩ := h9.o7
    have l0 := dep_ready hi ho d0
    have l5 := dep_ready hi ho d5
    have l6 := dep_ready hi ho d6
    have l4 := hst.cl.1 l5
    obtain ⟨l1, l3⟩ := hst.cl.2.1 l4
    have l2 := hst.cl.2.2 l3
    have o5 := hpre.r5 l5
    have hs0 := hpre.up.rl.size
    obtain ⟨Mi, Mm⟩ := M
    have eix : Mi = ws ++ xs := hpre.ix
    subst eix
    refine opsC_callF hS ho (wanted_none hg _) hop Try.func105 (by kernel_rfl) rfl (vs := #[.chan (some c), a.tmps.getD 32 undef, .agg (cellsOf L')]) ?_ (hIH w Mm (a.tmps.getD 32 undef) (by omega) hpre.there ⟨o5.own.mono (by omega), o5.mine, o5.some_⟩) ?_
    · have e27 : a.eval (.tmp 27) = .chan (some c) := (ev 27).trans (hst.r0 l0)
      have e33 : a.eval (.tmp 33) = .agg (cellsOf L') := (ev 33).trans (hst.r6 l6)
      simp only [List.map_toArray, List.map_cons, List.map_nil, e27, e33, ev 32]
    · intro v w' M' m
      have old : ∀ k, M0 k → (a.tmps.getD 32 undef).ownBlock ≠ some k := fun k hk e => by
        have h1 := (World.ownsRow.lt o5.own k e).1
        have h2 := hth k (.inr hk)
        omega
      have hput : ∀ s, s ≠ 34 → (a.put o.dst v).tmps.getD s undef = a.tmps.getD s undef := fun s hs => by
        rcases hd with hd | hd
        · rw [hd]; rfl
        · rw [hd, put_getD (by omega), if_neg (by omega)]
      have all : ∀ j, j < 8 → (L.setIfInBounds 7 true).getD j false = true := fun j hj => by
        rw [getD_set (by omega)]
        split
        · rfl
        · rcases (show j = 0 ∨ j = 1 ∨ j = 2 ∨ j = 3 ∨ j = 4 ∨ j = 5 ∨ j = 6 by omega) with rfl | rfl | rfl | rfl | rfl | rfl | rfl <;> assumption
      refine hK _ _ _ ⟨by rw [put_size]; exact hsz, by rw [put_defers]; exact hst.df, fun s hs => (hput s (by omega)).trans (hst.eq s hs), fun _ => (hput 27 (by omega)).trans (hst.r0 l0), fun _ => (hput 28 (by omega)).trans (hst.r1 l1), fun _ => (hput 29 (by omega)).trans (hst.r2 l2),
        fun _ => (hput 33 (by omega)).trans (hst.r6 l6), ⟨fun _ => all 4 (by omega), fun _ => ⟨all 1 (by omega), all 3 (by omega)⟩, fun _ => all 2 (by omega)⟩, fun hl => ?_, fun _ => ⟨all, m.ix, fun k hk => m.up k (hpre.up.up k hk) (old k hk), ?_, m.there⟩⟩
      · rw [all 7 (by omega)] at hl; cases hl
      · exact hpre.up.rl.trans (m.rl.mono fun k hk => ⟨hpre.up.up k hk, old k hk⟩)


theorem rep_getD (n j : Nat) : (Array.replicate n false).getD j false = false := by
  simp only [Array.getD_eq_getD_getElem?, Array.getElem?_replicate]
  split <;> rfl

theorem reg9 (hB : B ≤ w0.heap.size) (hth : There Sh w0 ((ws ++ xs, M0) : Gh (List (List Int)))) {ops : Array Oper} (h9 : R9 ops) (hb : b.length ≤ 99) (hLL : L'.length = 4)
    (hfin : ∀ L : Array Bool, L.size = 8 → Region.ready .any ops L = [] → L.getD 7 false = true)
    (hIH : ∀ (w : World) (M : Nat → Prop) (u' : Value), B ≤ w.heap.size → There Sh w ((ws ++ xs, M) : Gh (List (List Int))) → OwC B w ((ws ++ xs, M) : Gh (List (List Int))) u' (b ++ [x]) →
      CallsC Try.prog (SndF Try.prog c Sh (PhiW B)) 105 #[.chan (some c), u', .agg (cellsOf L')] w (ws ++ xs, M) (fun _ w' M' => SentC Sh u' xs w M w' M'))
    (hsz : a0.tmps.size = 36) (hdf : a0.defers = []) (f0 : a0.tmps.getD 0 undef = .chan (some c)) (f1 : a0.tmps.getD 1 undef = u) (f6 : a0.tmps.getD 6 undef = .int .i64 x) (f8 : a0.tmps.getD 8 undef = .pointer (some ⟨gr, 0, none⟩))
    (hu : OwC B w0 ((ws ++ xs, M0) : Gh (List (List Int))) u b) (hgr : M0 gr) (hgc : w0.heap[gr]? = some (.cells (cellsOf L') 63 (0, 0))) {fn : FuncId} {id : Nat} {Q : Exit → Act → World → Gh (List (List Int)) → Prop}
    (hQ : ∀ a w M, a.tmps.size = 36 → a.defers = [] → (∀ s, s < 27 → a.tmps.getD s undef = a0.tmps.getD s undef) → M.1 = xs → (∀ k, M0 k → M.2 k) → Rl Sh M0 w0 w → There Sh w M → Q .normal a w M) :
    WpC (SndF Try.prog c Sh (PhiW B)) fn (.region id ops true) Q a0 w0 (ws ++ xs, M0) := by
  have hS : Fam Try.prog false Sh (SndF Try.prog c Sh (PhiW B)) := fam_snd (phiW_keeps B)
  refine wpC_region_draw hS mixed_follows fun w₁ h₁ t => ?_
  have hup : Up Sh w0 ((ws ++ xs, M0) : Gh (List (List Int))) w₁ ((ws ++ xs, M0) : Gh (List (List Int))) := ⟨fun _ h => h, h₁⟩
  refine opsC_lin hS (St9 Sh c u b x L' a0 w₁ M0 ws xs) (step9 _ (Nat.le_trans hB h₁.size) (hth.rely h₁) h9 hb hLL hIH f0 f1 f6 f8 (hu.up hup) hgr ((h₁.keep gr (.inr hgr)).trans hgc)) ?_ ops.size t _ _ _ _ (by simp) (by rw [Array.count_replicate]; simp) ?_
  · intro L a w M hL hst hr
    obtain ⟨_, h2, h3, h4, h5⟩ := hst.post (hfin L (hL.trans h9.n) hr)
    exact hQ a w M hst.sz hst.df hst.eq h2 h3 (h₁.trans h4) h5
  · have ff : ∀ j, (Array.replicate ops.size false).getD j false = true → False := fun j h => by rw [rep_getD] at h; cases h
    exact ⟨hsz, hdf, fun _ _ => rfl, fun h => (ff _ h).elim, fun h => (ff _ h).elim, fun h => (ff _ h).elim, fun h => (ff _ h).elim, ⟨fun h => (ff _ h).elim, fun h => (ff _ h).elim, fun h => (ff _ h).elim⟩,
      fun _ => ⟨rfl, Up.refl _ _ _, hth.rely h₁, fun h => (ff _ h).elim, fun h => (ff _ h).elim, fun h => (ff _ h).elim⟩, fun h => (ff _ h).elim⟩

end

theorem arr8 {T : Type} {l : Array T} (h : l.size = 8) : ∃ x0 x1 x2 x3 x4 x5 x6 x7, l = #[x0, x1, x2, x3, x4, x5, x6, x7] := by
  obtain ⟨l⟩ := l
  replace h : l.length = 8 := h
  obtain ⟨x0, l, rfl⟩ := List.exists_cons_of_length_eq_add_one (n := 7) h
  replace h : l.length = 7 := by simpa using h
  obtain ⟨x1, l, rfl⟩ := List.exists_cons_of_length_eq_add_one (n := 6) h
  replace h : l.length = 6 := by simpa using h
  obtain ⟨x2, l, rfl⟩ := List.exists_cons_of_length_eq_add_one (n := 5) h
  replace h : l.length = 5 := by simpa using h
  obtain ⟨x3, l, rfl⟩ := List.exists_cons_of_length_eq_add_one (n := 4) h
  replace h : l.length = 4 := by simpa using h
  obtain ⟨x4, l, rfl⟩ := List.exists_cons_of_length_eq_add_one (n := 3) h
  replace h : l.length = 3 := by simpa using h
  obtain ⟨x5, l, rfl⟩ := List.exists_cons_of_length_eq_add_one (n := 2) h
  replace h : l.length = 2 := by simpa using h
  obtain ⟨x6, l, rfl⟩ := List.exists_cons_of_length_eq_add_one (n := 1) h
  replace h : l.length = 1 := by simpa using h
  obtain ⟨x7, l, rfl⟩ := List.exists_cons_of_length_eq_add_one (n := 0) h
  replace h : l.length = 0 := by simpa using h
  obtain rfl := List.eq_nil_of_length_eq_zero h
  exact ⟨_, _, _, _, _, _, _, _, rfl⟩
theorem arr36 {T : Type} {l : Array T} (h : l.size = 36) : ∃ x0 x1 x2 x3 x4 x5 x6 x7 x8 x9 x10 x11 x12 x13 x14 x15 x16 x17 x18 x19 x20 x21 x22 x23 x24 x25 x26 x27 x28 x29 x30 x31 x32 x33 x34 x35, l = #[x0, x1, x2, x3, x4, x5, x6, x7, x8, x9, x10, x11, x12, x13, x14, x15, x16, x17, x18, x19, x20, x21, x22, x23, x24, x25, x26, x27, x28, x29, x30, x31, x32, x33, x34, x35] := by
  obtain ⟨l⟩ := l
  replace h : l.length = 36 := h
  obtain ⟨x0, l, rfl⟩ := List.exists_cons_of_length_eq_add_one (n := 35) h
  replace h : l.length = 35 := by simpa using h
  obtain ⟨x1, l, rfl⟩ := List.exists_cons_of_length_eq_add_one (n := 34) h
  replace h : l.length = 34 := by simpa using h
  obtain ⟨x2, l, rfl⟩ := List.exists_cons_of_length_eq_add_one (n := 33) h
  replace h : l.length = 33 := by simpa using h
  obtain ⟨x3, l, rfl⟩ := List.exists_cons_of_length_eq_add_one (n := 32) h
  replace h : l.length = 32 := by simpa using h
  obtain ⟨x4, l, rfl⟩ := List.exists_cons_of_length_eq_add_one (n := 31) h
  replace h : l.length = 31 := by simpa using h
  obtain ⟨x5, l, rfl⟩ := List.exists_cons_of_length_eq_add_one (n := 30) h
  replace h : l.length = 30 := by simpa using h
  obtain ⟨x6, l, rfl⟩ := List.exists_cons_of_length_eq_add_one (n := 29) h
  replace h : l.length = 29 := by simpa using h
  obtain ⟨x7, l, rfl⟩ := List.exists_cons_of_length_eq_add_one (n := 28) h
  replace h : l.length = 28 := by simpa using h
  obtain ⟨x8, l, rfl⟩ := List.exists_cons_of_length_eq_add_one (n := 27) h
  replace h : l.length = 27 := by simpa using h
  obtain ⟨x9, l, rfl⟩ := List.exists_cons_of_length_eq_add_one (n := 26) h
  replace h : l.length = 26 := by simpa using h
  obtain ⟨x10, l, rfl⟩ := List.exists_cons_of_length_eq_add_one (n := 25) h
  replace h : l.length = 25 := by simpa using h
  obtain ⟨x11, l, rfl⟩ := List.exists_cons_of_length_eq_add_one (n := 24) h
  replace h : l.length = 24 := by simpa using h
  obtain ⟨x12, l, rfl⟩ := List.exists_cons_of_length_eq_add_one (n := 23) h
  replace h : l.length = 23 := by simpa using h
  obtain ⟨x13, l, rfl⟩ := List.exists_cons_of_length_eq_add_one (n := 22) h
  replace h : l.length = 22 := by simpa using h
  obtain ⟨x14, l, rfl⟩ := List.exists_cons_of_length_eq_add_one (n := 21) h
  replace h : l.length = 21 := by simpa using h
  obtain ⟨x15, l, rfl⟩ := List.exists_cons_of_length_eq_add_one (n := 20) h
  replace h : l.length = 20 := by simpa using h
  obtain ⟨x16, l, rfl⟩ := List.exists_cons_of_length_eq_add_one (n := 19) h
  replace h : l.length = 19 := by simpa using h
  obtain ⟨x17, l, rfl⟩ := List.exists_cons_of_length_eq_add_one (n := 18) h
  replace h : l.length = 18 := by simpa using h
  obtain ⟨x18, l, rfl⟩ := List.exists_cons_of_length_eq_add_one (n := 17) h
  replace h : l.length = 17 := by simpa using h
  obtain ⟨x19, l, rfl⟩ := List.exists_cons_of_length_eq_add_one (n := 16) h
  replace h : l.length = 16 := by simpa using h
  obtain ⟨x20, l, rfl⟩ := List.exists_cons_of_length_eq_add_one (n := 15) h
  replace h : l.length = 15 := by simpa using h
  obtain ⟨x21, l, rfl⟩ := List.exists_cons_of_length_eq_add_one (n := 14) h
  replace h : l.length = 14 := by simpa using h
  obtain ⟨x22, l, rfl⟩ := List.exists_cons_of_length_eq_add_one (n := 13) h
  replace h : l.length = 13 := by simpa using h
  obtain ⟨x23, l, rfl⟩ := List.exists_cons_of_length_eq_add_one (n := 12) h
  replace h : l.length = 12 := by simpa using h
  obtain ⟨x24, l, rfl⟩ := List.exists_cons_of_length_eq_add_one (n := 11) h
  replace h : l.length = 11 := by simpa using h
  obtain ⟨x25, l, rfl⟩ := List.exists_cons_of_length_eq_add_one (n := 10) h
  replace h : l.length = 10 := by simpa using h
  obtain ⟨x26, l, rfl⟩ := List.exists_cons_of_length_eq_add_one (n := 9) h
  replace h : l.length = 9 := by simpa using h
  obtain ⟨x27, l, rfl⟩ := List.exists_cons_of_length_eq_add_one (n := 8) h
  replace h : l.length = 8 := by simpa using h
  obtain ⟨x28, l, rfl⟩ := List.exists_cons_of_length_eq_add_one (n := 7) h
  replace h : l.length = 7 := by simpa using h
  obtain ⟨x29, l, rfl⟩ := List.exists_cons_of_length_eq_add_one (n := 6) h
  replace h : l.length = 6 := by simpa using h
  obtain ⟨x30, l, rfl⟩ := List.exists_cons_of_length_eq_add_one (n := 5) h
  replace h : l.length = 5 := by simpa using h
  obtain ⟨x31, l, rfl⟩ := List.exists_cons_of_length_eq_add_one (n := 4) h
  replace h : l.length = 4 := by simpa using h
  obtain ⟨x32, l, rfl⟩ := List.exists_cons_of_length_eq_add_one (n := 3) h
  replace h : l.length = 3 := by simpa using h
  obtain ⟨x33, l, rfl⟩ := List.exists_cons_of_length_eq_add_one (n := 2) h
  replace h : l.length = 2 := by simpa using h
  obtain ⟨x34, l, rfl⟩ := List.exists_cons_of_length_eq_add_one (n := 1) h
  replace h : l.length = 1 := by simpa using h
  obtain ⟨x35, l, rfl⟩ := List.exists_cons_of_length_eq_add_one (n := 0) h
  replace h : l.length = 0 := by simpa using h
  obtain rfl := List.eq_nil_of_length_eq_zero h
  exact ⟨_, _, _, _, _, _, _, _, _, _, _, _, _, _, _, _, _, _, _, _, _, _, _, _, _, _, _, _, _, _, _, _, _, _, _, _, rfl⟩

end Go.Proofs.Ytjphaphnmclbcaa

/- An array of four numbers is compared with noughts: what it answers, and that it lists nothing. No condition. -/
namespace Go.Proofs.Ytjphaphnmclbcaa
open Go Go.RowKit

theorem ev_eqInt (w : World) (es : Array Event) (d : Nat) (x y : Int) : (Op.equalIn (d + 1) 3 (.int .i64 x) (.int .i64 y)).events Try.prog w es = es := by
  have hu := Try.underlying3
  unfold Op.equalIn underlying
  simp [hu]
theorem run_eqInt (w : World) (d : Nat) (x y : Int) : (Op.equalIn (d + 1) 3 (.int .i64 x) (.int .i64 y)).run Try.prog w = .ok (x == y) w := by
  have hu := Try.underlying3
  unfold Op.equalIn underlying
  simp [hu]
theorem run_part4 (w : World) (cs : Array Value) (i : Nat) (v : Value) (h : cs[i]? = some v) : (part 3 cs i).run Try.prog w = .ok v w := by
  have hu := Try.underlying3
  simp [part, isAgg, run_underlying hu, h]
theorem ev_part4 (w : World) (es : Array Event) (cs : Array Value) (i : Nat) (v : Value) (h : cs[i]? = some v) : (part 3 cs i).events Try.prog w es = es := by
  have hu := Try.underlying3
  simp [part, isAgg, run_underlying hu, h]

theorem run_eq4 (l0 l1 l2 l3 : Int) (d : Nat) (w : World) (es : Array Event) : (Op.equalIn (d + 2) 63 (.agg #[.int .i64 l0, .int .i64 l1, .int .i64 l2, .int .i64 l3]) (.agg #[.int .i64 0, .int .i64 0, .int .i64 0, .int .i64 0])).run Try.prog w = .ok (l0 == 0 && l1 == 0 && l2 == 0 && l3 == 0) w ∧
    (Op.equalIn (d + 2) 63 (.agg #[.int .i64 l0, .int .i64 l1, .int .i64 l2, .int .i64 l3]) (.agg #[.int .i64 0, .int .i64 0, .int .i64 0, .int .i64 0])).events Try.prog w es = es := by
  have hu := Try.underlying63
  obtain ⟨i0, hii, hz0, hz1, hz2⟩ := info_parts infoI
  unfold Op.equalIn underlying
  simp [hu, Go.sizeOf, typeInfo, hii, hz1, Std.Legacy.Range.forIn_eq_forIn_range', List.range', run_part4, ev_part4, run_eqInt, ev_eqInt]
  by_cases h0 : l0 = 0 <;> by_cases h1 : l1 = 0 <;> by_cases h2 : l2 = 0 <;> by_cases h3 : l3 = 0 <;> simp [h0, h1, h2, h3]

theorem guard4 : Try.prog.eqGuardType Try.prog.depth 63 = false := by kernel_rfl

open Go.Conc in
/-- An array of four numbers compared with noughts. -/
theorem opsC_eq4 {main : Bool} {Sh : Nat → Prop} {ι : Type} {C : Gh ι → Goroutine → World → Prop} {fn : FuncId} {Q : Exit → Act → World → Gh ι → Prop} {a a' : Act} {w : World} {M : Gh ι} {ops : Array Oper} {i : Nat} {rest : List Nat} {o : Oper}
    (hS : Fam Try.prog main Sh C) (ho : ops[i]? = some o) (hw : Region.wanted o (yielded ops a.tmps) = true) {x y : Operand} {ty : TypeId} {l0 l1 l2 l3 : Int} (hop : o.op = .binOp .eql 63 x y ty) (hx : a.eval x = .agg #[.int .i64 l0, .int .i64 l1, .int .i64 l2, .int .i64 l3])
    (hy : a.eval y = .agg #[.int .i64 0, .int .i64 0, .int .i64 0, .int .i64 0]) (ha : a.put o.dst (.bool (l0 == 0 && l1 == 0 && l2 == 0 && l3 == 0)) = a') (h : OpsC C fn ops rest Q a' w M) : OpsC C fn ops (i :: rest) Q a w M := by
  have e1 := fun (w : World) (es : Array Event) => run_eq4 l0 l1 l2 l3 9998 w es
  refine opsC_val hS ho hw (v := .bool (l0 == 0 && l1 == 0 && l2 == 0 && l3 == 0)) (fun w => ?_) (fun w => ?_) ha h
  · unfold execOp
    simp only [hop, hx, hy]
    simp [eqGuard, binOp, Op.equal, Op.maxDepth, (e1 _ #[]).1]
  · unfold execOp
    simp only [hop, hx, hy]
    simp [eqGuard, binOp, Op.equal, Op.maxDepth, (e1 _ _).2]

open Go.Conc in
/-- An array of four numbers, indexed. -/
theorem opsC_index4 {main : Bool} {Sh : Nat → Prop} {ι : Type} {C : Gh ι → Goroutine → World → Prop} {fn : FuncId} {Q : Exit → Act → World → Gh ι → Prop} {a a' : Act} {w : World} {M : Gh ι} {ops : Array Oper} {i : Nat} {rest : List Nat} {o : Oper}
    (hS : Fam Try.prog main Sh C) (ho : ops[i]? = some o) (hw : Region.wanted o (yielded ops a.tmps) = true) {x y : Operand} {cs : Array Value} {j : Int} {v : Value} (hop : o.op = .index 63 x y) (hx : a.eval x = .agg cs) (hy : a.eval y = .int .i64 j)
    (hj : 0 ≤ j ∧ j < 4) (hv : cs[j.toNat]? = some v) (ha : a.put o.dst v = a') (h : OpsC C fn ops rest Q a' w M) : OpsC C fn ops (i :: rest) Q a w M := by
  have hu := Try.underlying63
  obtain ⟨i0, hii, hz0, hz1, hz2⟩ := info_parts infoI
  refine opsC_val hS ho hw (v := v) (fun w => ?_) (fun w => ?_) ha h
  · unfold execOp
    simp only [hop, hx, hy]
    simp [Instr.index, asIntOf, run_underlying hu, hj, Go.sizeOf, typeInfo, hii, hz1, run_part4 _ _ _ _ hv]
  · unfold execOp
    simp only [hop, hx, hy]
    simp [Instr.index, asIntOf, run_underlying hu, hj, Go.sizeOf, typeInfo, hii, hz1, ev_part4 _ _ _ _ _ hv]

open Go.Conc in
/-- A place of an array of four numbers. -/
theorem opsC_indexP4 {main : Bool} {Sh : Nat → Prop} {ι : Type} {C : Gh ι → Goroutine → World → Prop} {fn : FuncId} {Q : Exit → Act → World → Gh ι → Prop} {a a' : Act} {w : World} {M : Gh ι} {ops : Array Oper} {i : Nat} {rest : List Nat} {o : Oper}
    (hS : Fam Try.prog main Sh C) (ho : ops[i]? = some o) (hw : Region.wanted o (yielded ops a.tmps) = true) {x y : Operand} {g j : Nat} {z : Int} (hop : o.op = .indexAddr 63 x y) (hx : a.eval x = .pointer (some ⟨g, 0, none⟩)) (hy : a.eval y = .int .i64 z)
    (hz : z = j) (hj : j < 4) (ha : a.put o.dst (.pointer (some ⟨g, j, none⟩)) = a') (h : OpsC C fn ops rest Q a' w M) : OpsC C fn ops (i :: rest) Q a w M := by
  have hu := Try.underlying63
  obtain ⟨i0, hii, hz0, hz1, hz2⟩ := info_parts infoI
  have hadd : (⟨g, 0, none⟩ : Addr).add j = ⟨g, j, none⟩ := by unfold Addr.add; split <;> simp_all
  subst hz
  refine opsC_val hS ho hw (v := .pointer (some ⟨g, j, none⟩)) (fun w => ?_) (fun w => ?_) ha h
  · unfold execOp
    simp only [hop, hx, hy]
    simp [Instr.indexAt, Instr.sureAddr, asIntOf, run_underlying hu, hj, Go.sizeOf, typeInfo, hii, hz1, hadd]
  · unfold execOp
    simp only [hop, hx, hy]
    simp [Instr.indexAt, Instr.sureAddr, asIntOf, run_underlying hu, hj, Go.sizeOf, typeInfo, hii]

end Go.Proofs.Ytjphaphnmclbcaa

/- sendWords: it sends the words that go on from a beginning, in order. No condition. -/
namespace Go.Proofs.Ytjphaphnmclbcaa
open Go Go.Conc Go.RowKit

def kzS : Nat → Int
  | 0 => 0
  | 1 => 1
  | 2 => 2
  | 3 => 3
  | _ => 4
/-- What goes on with the letters from k on. -/
def wrem (t : Nat) (b : List Int) (c : List Nat) (k : Nat) : List (List Int) := (List.range' k (4 - k)).flatMap fun k => if c.getD k 0 = 0 then [] else wgo t (b ++ [(k : Int)]) (c.set k (c.getD k 0 - 1))
theorem wrem0 (t : Nat) (b : List Int) (c : List Nat) : wgo (t + 1) b c = wrem t b c 0 := by
  simp only [wgo, wrem, List.range_eq_range']

/-- At the head of sendWords' loop. -/
structure InvS (Sh : Nat → Prop) (c : Nat) (u : Value) (b : List Int) (t gb : Nat) (l0 l1 l2 l3 : Nat) (xs : List (List Int)) (w0 : World) (M0 : Gh (List (List Int))) (k : Nat) (a : Act) (w : World) (M : Gh (List (List Int))) : Prop where
  act : ∃ x2 x3 x4 x6 x7 x8 x9 x10 x11 x12 x13 x16 x17 x18 x19 x20 x21 x22 x23 x24 x25 x26 x27 x28 x29 x30 x31 x32 x33 x34 x35 : Value, a = { tmps := #[.chan (some c), u, x2, x3, x4, .pointer (some ⟨gb, 0, none⟩), x6, x7, x8, x9, x10, x11, x12, x13, .agg #[.int .i64 (l0 : Int), .int .i64 (l1 : Int), .int .i64 (l2 : Int), .int .i64 (l3 : Int)], .int .i64 (kzS k), x16, x17, x18, x19, x20, x21, x22, x23, x24, x25, x26, x27, x28, x29, x30, x31, x32, x33, x34, x35], defers := [] }
  ix : M.1 = wrem t b [l0, l1, l2, l3] k ++ xs
  up : Up Sh w0 M0 w M
  there : There Sh w M

theorem wrem_zero (t : Nat) (b : List Int) (c : List Nat) (k : Nat) (hk : k < 4) (h : c.getD k 0 = 0) : wrem t b c k = wrem t b c (k + 1) := by
  unfold wrem
  rw [show 4 - k = (4 - (k + 1)) + 1 by omega, List.range'_succ, List.flatMap_cons, if_pos h, List.nil_append]
theorem wrem_pos (t : Nat) (b : List Int) (c : List Nat) (k : Nat) (hk : k < 4) (h : c.getD k 0 ≠ 0) : wrem t b c k = wgo t (b ++ [(k : Int)]) (c.set k (c.getD k 0 - 1)) ++ wrem t b c (k + 1) := by
  conv => lhs; unfold wrem
  rw [show 4 - k = (4 - (k + 1)) + 1 by omega, List.range'_succ, List.flatMap_cons, if_neg h]
  rfl

theorem infoA : (Try.prog.info? 63).map (fun i => (i.zero, i.size)) = some (some (.agg #[.int .i64 0, .int .i64 0, .int .i64 0, .int .i64 0]), 4) := by kernel_rfl

theorem one4 (a b c d : Int) : (#[Value.int .i64 a, .int .i64 b, .int .i64 c, .int .i64 d] : Array Value).all (·.oneCell') = true := by simp [Value.oneCell']

theorem cellsOf4 (l0 l1 l2 l3 : Nat) : cellsOf [l0, l1, l2, l3] = #[.int .i64 l0, .int .i64 l1, .int .i64 l2, .int .i64 l3] := rfl

set_option linter.unusedSimpArgs false in
set_option maxHeartbeats 4000000 in
theorem send_step {c B : Nat} {Sh : Nat → Prop} (t : Nat) (ih : ∀ t', t = t' + 1 → SendOK c B Sh t') : SendOK c B Sh t := by
  intro b L u w M xs hL hsum hbt hSh hB hth0 hu
  obtain ⟨l0, l1, l2, l3, rfl⟩ : ∃ l0 l1 l2 l3, L = [l0, l1, l2, l3] := by
    match L, hL with
    | [a, b, c, d], _ => exact ⟨a, b, c, d, rfl⟩
  have hS : Fam Try.prog false Sh (SndF Try.prog c Sh (PhiW B)) := fam_snd (phiW_keeps B)
  rw [cellsOf4]
  refine callsC_of_wpC hS Try.func105 rfl ?_
  simp only [Try.ntmps105, List.size_toArray, List.length_cons, List.length_nil, Nat.reduceAdd, Nat.reduceSub, Array.replicate_succ,
     Array.replicate_zero, List.push_toArray, List.append_toArray, List.nil_append, List.cons_append]
  refine wpC_seq hS ?_
  refine wpC_region hS ?_
  simp only [List.size_toArray, List.length_cons, List.length_nil, Nat.reduceAdd, Nat.zero_add, List.range, List.range.loop]
  refine opsC_box (v := .agg #[.int .i64 (l0 : Int), .int .i64 (l1 : Int), .int .i64 (l2 : Int), .int .i64 (l3 : Int)]) hS rfl rfl rfl rfl fun w₁ h₁ => ?_
  obtain ⟨w2, hw2⟩ : ∃ w2, w2 = w₁.alloc (.cells (Value.cells (.agg #[.int .i64 (l0 : Int), .int .i64 (l1 : Int), .int .i64 (l2 : Int), .int .i64 (l3 : Int)])) 63) := ⟨_, rfl⟩
  have hgb : w₁.grownBy w2 none := by rw [hw2]; exact World.grownBy_alloc _ _ _
  have hsz : w₁.heap.size < w2.heap.size := by rw [hw2, World.size_alloc]; exact Nat.lt_succ_self _
  have hcb : w2.heap[w₁.heap.size]? = some (.cells #[.int .i64 (l0 : Int), .int .i64 (l1 : Int), .int .i64 (l2 : Int), .int .i64 (l3 : Int)] 63 (0, 0)) := by rw [hw2]; exact heap_alloc_new _ _
  have up2 := ((Fwd.refl Sh w _).grown h₁ hgb (fun k hk => by cases hk) hth0).to_up
  have th2 := hth0.grown h₁ hgb.size
  have hm2 : grow M w₁ w2 w₁.heap.size := .inr ⟨Nat.le_refl _, hsz⟩
  rw [← hw2]
  simp only [] at up2 th2 ⊢
  obtain ⟨gb, hgbe⟩ : ∃ gb, gb = w₁.heap.size := ⟨_, rfl⟩
  rw [← hgbe] at hcb hm2 ⊢
  obtain ⟨M2, hM2⟩ : ∃ M2, M2 = grow M w₁ w2 := ⟨_, rfl⟩
  rw [← hM2] at hm2 up2 th2 ⊢
  clear hw2 hgb hsz hgbe hM2 h₁
  refine opsC_nil hS ?_
  show WpC _ _ _ _ _ _ _
  refine wpC_seq hS ?_
  refine wpC_seq hS ?_
  refine wpC_region hS ?_
  simp only [List.size_toArray, List.length_cons, List.length_nil, Nat.reduceAdd, Nat.zero_add, List.range, List.range.loop]
  refine opsC_loadrow hS rfl rfl rfl (by kernel_rfl) (cs := #[.int .i64 (l0 : Int), .int .i64 (l1 : Int), .int .i64 (l2 : Int), .int .i64 (l3 : Int)]) info4 rfl (.inr hm2) hcb ?_
  (refine opsC_plain hS rfl rfl fun _ K hK => ?_; go_simp; refine hK _ (by simp [go_sem, events_cap_slice, events_slice_hi, *]) ?_; clear hK K; try walk_nrm)
  refine opsC_eq4 hS rfl rfl rfl rfl rfl (by (with_reducible simp only [Act.put, Act.eval, Array.getD_eq_getD_getElem?, List.getElem?_toArray, List.getElem_toArray, List.getElem_cons_zero, List.getElem_cons_succ, List.getElem?_cons_zero, List.getElem?_cons_succ, Option.getD_some, List.setIfInBounds_toArray, List.set_cons_zero, List.set_cons_succ]); exact rfl) ?_
  refine opsC_nil hS ?_
  show WpC _ _ _ _ _ _ _
  cases t with
  | zero =>
    obtain ⟨rfl, rfl, rfl, rfl⟩ : l0 = 0 ∧ l1 = 0 ∧ l2 = 0 ∧ l3 = 0 := by simp at hsum; omega
    refine wpC_cond (t := true) hS rfl ?_
    simp only [if_true, if_false, Bool.false_eq_true]
    refine wpC_seq hS ?_
    refine wpC_region hS ?_
    simp only [List.size_toArray, List.length_cons, List.length_nil, Nat.reduceAdd, Nat.zero_add, List.range, List.range.loop]
    first
      | refine opsC_moveA hS rfl rfl (.inl rfl) ?_
      | refine opsC_moveA hS rfl rfl (.inr rfl) ?_
      | refine opsC_binA hS rfl rfl rfl rfl rfl rfl ?_
      | refine opsC_lenA hS rfl rfl rfl (by kernel_rfl) rfl ?_
      | (refine opsC_plain hS rfl rfl fun _ K hK => ?_; go_simp; refine hK _ (by simp [go_sem, events_cap_slice, events_slice_hi, *]) ?_; clear hK K; try walk_nrm)
    first
      | refine opsC_moveA hS rfl rfl (.inl rfl) ?_
      | refine opsC_moveA hS rfl rfl (.inr rfl) ?_
      | refine opsC_binA hS rfl rfl rfl rfl rfl rfl ?_
      | refine opsC_lenA hS rfl rfl rfl (by kernel_rfl) rfl ?_
      | (refine opsC_plain hS rfl rfl fun _ K hK => ?_; go_simp; refine hK _ (by simp [go_sem, events_cap_slice, events_slice_hi, *]) ?_; clear hK K; try walk_nrm)
    refine opsC_send (phiW_keeps B) rfl rfl rfl rfl rfl (V := fun k => u.ownBlock = some k) (fun k hk => up2.up k (hu.mine k hk)) ⟨(hu.up up2).own, rfl⟩ ?_
    refine opsC_nil hS ?_
    show WpC _ _ _ _ _ _ _
    refine wpC_ret hS ⟨rfl, _, resultsC_none rfl _, ?_⟩
    refine ⟨rfl, fun k hk hne => ⟨up2.up k hk, hne⟩, up2.rl.mono fun k hk => hk.1, fun k hk => th2 k (hk.imp id fun x => x.1)⟩
  | succ t =>
    have hne : ((l0 : Int) == 0 && (l1 : Int) == 0 && (l2 : Int) == 0 && (l3 : Int) == 0) = false := by
      simp at hsum ⊢
      omega
    refine wpC_cond (t := false) hS (congrArg Value.bool hne) ?_
    simp only [if_true, if_false, Bool.false_eq_true]
    refine wpC_skip hS ?_
    show WpC _ _ _ _ _ _ _
    refine wpC_seq hS ?_
    refine wpC_region hS ?_
    simp only [List.size_toArray, List.length_cons, List.length_nil, Nat.reduceAdd, Nat.zero_add, List.range, List.range.loop]
    refine opsC_loadrow hS rfl rfl rfl (by kernel_rfl) (cs := #[.int .i64 (l0 : Int), .int .i64 (l1 : Int), .int .i64 (l2 : Int), .int .i64 (l3 : Int)]) info4 rfl (.inr hm2) hcb ?_
    repeat first
      | refine opsC_moveA hS rfl rfl (.inl rfl) ?_
      | refine opsC_moveA hS rfl rfl (.inr rfl) ?_
      | refine opsC_binA hS rfl rfl rfl rfl rfl rfl ?_
      | refine opsC_lenA hS rfl rfl rfl (by kernel_rfl) rfl ?_
      | (refine opsC_plain hS rfl rfl fun _ K hK => ?_; go_simp; refine hK _ (by simp [go_sem, events_cap_slice, events_slice_hi, *]) ?_; clear hK K; try walk_nrm)
    refine opsC_nil hS ?_
    show WpC _ _ _ _ _ _ _
    refine wpC_block hS ?_
    refine wpC_loop_of hS ?_
    refine loopC_count (InvS Sh c u b t gb l0 l1 l2 l3 xs w2 (wgo (t + 1) b [l0, l1, l2, l3] ++ xs, M2)) 4 ?_ ?_ 0 (by omega) _ _ _ ⟨⟨_, _, _, _, _, _, _, _, _, _, _, _, _, _, _, _, _, _, _, _, _, _, _, _, _, _, _, _, _, _, _, rfl⟩, by rw [wrem0], Up.refl _ _ _, th2⟩
    · intro k a w M hk hI hN
      obtain ⟨⟨x2, x3, x4, x6, x7, x8, x9, x10, x11, x12, x13, x16, x17, x18, x19, x20, x21, x22, x23, x24, x25, x26, x27, x28, x29, x30, x31, x32, x33, x34, x35, rfl⟩, hix, hup, hth⟩ := hI
      rcases (show k = 0 ∨ k = 1 ∨ k = 2 ∨ k = 3 by omega) with rfl | rfl | rfl | rfl
      · simp only [kzS]
        refine loopC_round hS ?_
        refine wpC_seq hS ?_
        refine wpC_region hS ?_
        simp only [List.size_toArray, List.length_cons, List.length_nil, Nat.reduceAdd, Nat.zero_add, List.range, List.range.loop]
        repeat first
          | refine opsC_moveA hS rfl rfl (.inl rfl) ?_
          | refine opsC_moveA hS rfl rfl (.inr rfl) ?_
          | refine opsC_binA hS rfl rfl rfl rfl rfl rfl ?_
          | refine opsC_lenA hS rfl rfl rfl (by kernel_rfl) rfl ?_
          | (refine opsC_plain hS rfl rfl fun _ K hK => ?_; go_simp; refine hK _ (by simp [go_sem, events_cap_slice, events_slice_hi, *]) ?_; clear hK K; try walk_nrm)
        refine opsC_nil hS ?_
        show WpC _ _ _ _ _ _ _
        refine wpC_seq hS ?_
        refine wpC_cond (t := true) hS rfl ?_
        simp only [if_true, if_false, Bool.false_eq_true]
        refine wpC_skip hS ?_
        show WpC _ _ _ _ _ _ _
        refine wpC_seq hS ?_
        refine wpC_block hS ?_
        refine wpC_seq hS ?_
        refine wpC_region hS ?_
        simp only [List.size_toArray, List.length_cons, List.length_nil, Nat.reduceAdd, Nat.zero_add, List.range, List.range.loop]
        first
          | refine opsC_moveA hS rfl rfl (.inl rfl) ?_
          | refine opsC_moveA hS rfl rfl (.inr rfl) ?_
          | refine opsC_binA hS rfl rfl rfl rfl rfl rfl ?_
          | refine opsC_lenA hS rfl rfl rfl (by kernel_rfl) rfl ?_
          | (refine opsC_plain hS rfl rfl fun _ K hK => ?_; go_simp; refine hK _ (by simp [go_sem, events_cap_slice, events_slice_hi, *]) ?_; clear hK K; try walk_nrm)
        refine opsC_index4 (v := .int .i64 (l0 : Int)) hS rfl rfl rfl rfl rfl (by decide) rfl (by (with_reducible simp only [Act.put, Act.eval, Array.getD_eq_getD_getElem?, List.getElem?_toArray, List.getElem_toArray, List.getElem_cons_zero, List.getElem_cons_succ, List.getElem?_cons_zero, List.getElem?_cons_succ, Option.getD_some, List.setIfInBounds_toArray, List.set_cons_zero, List.set_cons_succ]); exact rfl) ?_
        repeat first
          | refine opsC_moveA hS rfl rfl (.inl rfl) ?_
          | refine opsC_moveA hS rfl rfl (.inr rfl) ?_
          | refine opsC_binA hS rfl rfl rfl rfl rfl rfl ?_
          | refine opsC_lenA hS rfl rfl rfl (by kernel_rfl) rfl ?_
          | (refine opsC_plain hS rfl rfl fun _ K hK => ?_; go_simp; refine hK _ (by simp [go_sem, events_cap_slice, events_slice_hi, *]) ?_; clear hK K; try walk_nrm)
        refine opsC_nil hS ?_
        show WpC _ _ _ _ _ _ _
        refine wpC_seq hS ?_
        refine wpC_seq hS ?_
        refine wpC_region hS ?_
        simp only [List.size_toArray, List.length_cons, List.length_nil, Nat.reduceAdd, Nat.zero_add, List.range, List.range.loop]
        repeat first
          | refine opsC_moveA hS rfl rfl (.inl rfl) ?_
          | refine opsC_moveA hS rfl rfl (.inr rfl) ?_
          | refine opsC_binA hS rfl rfl rfl rfl rfl rfl ?_
          | refine opsC_lenA hS rfl rfl rfl (by kernel_rfl) rfl ?_
          | (refine opsC_plain hS rfl rfl fun _ K hK => ?_; go_simp; refine hK _ (by simp [go_sem, events_cap_slice, events_slice_hi, *]) ?_; clear hK K; try walk_nrm)
        refine opsC_nil hS ?_
        show WpC _ _ _ _ _ _ _
        by_cases hz : l0 = 0
        · subst hz
          refine wpC_cond (t := true) hS rfl ?_
          simp only [if_true, if_false, Bool.false_eq_true]
          refine wpC_exit hS ?_
          show WpC _ _ _ _ _ _ _
          refine wpC_region hS ?_
          simp only [List.size_toArray, List.length_cons, List.length_nil, Nat.reduceAdd, Nat.zero_add, List.range, List.range.loop]
          repeat first
            | refine opsC_moveA hS rfl rfl (.inl rfl) ?_
            | refine opsC_moveA hS rfl rfl (.inr rfl) ?_
            | refine opsC_binA hS rfl rfl rfl rfl rfl rfl ?_
            | refine opsC_lenA hS rfl rfl rfl (by kernel_rfl) rfl ?_
            | (refine opsC_plain hS rfl rfl fun _ K hK => ?_; go_simp; refine hK _ (by simp [go_sem, events_cap_slice, events_slice_hi, *]) ?_; clear hK K; try walk_nrm)
          refine opsC_nil hS ?_
          show LoopC _ _ _ _ _ _ _
          refine hN _ _ _ ⟨⟨_, _, _, _, _, _, _, _, _, _, _, _, _, _, _, _, _, _, _, _, _, _, _, _, _, _, _, _, _, _, _, rfl⟩, hix.trans (congrArg (· ++ xs) (wrem_zero t b [0, l1, l2, l3] 0 (by omega) rfl)), hup, hth⟩
        · have hz' : ((l0 : Int) == 0) = false := by simp; omega
          refine wpC_cond (t := false) hS (congrArg Value.bool hz') ?_
          simp only [if_true, if_false, Bool.false_eq_true]
          refine wpC_skip hS ?_
          show WpC _ _ _ _ _ _ _
          refine wpC_seq hS ?_
          refine wpC_region hS ?_
          simp only [List.size_toArray, List.length_cons, List.length_nil, Nat.reduceAdd, Nat.zero_add, List.range, List.range.loop]
          refine opsC_loadrow hS rfl rfl rfl (by kernel_rfl) (cs := #[.int .i64 (l0 : Int), .int .i64 (l1 : Int), .int .i64 (l2 : Int), .int .i64 (l3 : Int)]) info4 rfl (.inr (hup.up gb hm2)) ((hup.rl.keep gb (.inr hm2)).trans hcb) ?_
          obtain ⟨iA, hiA, hpA⟩ := Option.map_eq_some_iff.1 infoA
          simp only [Prod.mk.injEq] at hpA
          refine opsC_alloc hS rfl rfl rfl hiA hpA.1 fun wa ha => ?_
          refine opsC_storerow (old := #[.int .i64 0, .int .i64 0, .int .i64 0, .int .i64 0]) (cs := #[.int .i64 (l0 : Int), .int .i64 (l1 : Int), .int .i64 (l2 : Int), .int .i64 (l3 : Int)]) (g := wa.heap.size) (t := 63) hS rfl rfl rfl info4 rfl (one4 _ _ _ _) rfl rfl (.inr ⟨Nat.le_refl _, by rw [World.size_alloc]; exact Nat.lt_succ_self _⟩) (heap_alloc_new _ _) fun wb hb => ?_
          obtain ⟨gr, hgr⟩ : ∃ gr, gr = wa.heap.size := ⟨_, rfl⟩
          rw [← hgr]
          obtain ⟨w3, hw3⟩ : ∃ w3, w3 = wb.setRow gr #[.int .i64 (l0 : Int), .int .i64 (l1 : Int), .int .i64 (l2 : Int), .int .i64 (l3 : Int)] := ⟨_, rfl⟩
          rw [← hw3]
          have hgA : wa.grownBy (wa.alloc (.cells (Value.cells (.agg #[.int .i64 0, .int .i64 0, .int .i64 0, .int .i64 0])) 63)) none := World.grownBy_alloc _ _ _
          obtain ⟨wz, hwz⟩ : ∃ wz, wz = wa.alloc (.cells (Value.cells (.agg #[.int .i64 0, .int .i64 0, .int .i64 0, .int .i64 0])) 63) := ⟨_, rfl⟩
          have hcz : wz.heap[gr]? = some (.cells #[.int .i64 0, .int .i64 0, .int .i64 0, .int .i64 0] 63 (0, 0)) := by rw [hwz, hgr]; exact heap_alloc_new _ _
          have hsz : wa.heap.size < wz.heap.size := by rw [hwz, World.size_alloc]; exact Nat.lt_succ_self _
          rw [← hwz] at hb hgA ⊢
          have fw3 := (Fwd.refl Sh w M).grown ha hgA (fun k hk => by cases hk) hth
          have th3 := hth.grown ha hgA.size
          have mgr : grow M.2 wa wz gr := .inr ⟨by omega, by omega⟩
          obtain ⟨M3, hM3⟩ : ∃ M3, M3 = grow M.2 wa wz := ⟨_, rfl⟩
          rw [← hM3] at hb fw3 th3 mgr ⊢
          have hcb3 : wb.heap[gr]? = some (.cells #[.int .i64 0, .int .i64 0, .int .i64 0, .int .i64 0] 63 (0, 0)) := (hb.keep gr (.inr mgr)).trans hcz
          have hc3 : w3.heap[gr]? = some (.cells #[.int .i64 (l0 : Int), .int .i64 (l1 : Int), .int .i64 (l2 : Int), .int .i64 (l3 : Int)] 63 (0, 0)) := by rw [hw3]; exact setRow_heap _ _ _ _ _ _ hcb3
          have gs3 : wb.grownBy w3 (some gr) := by rw [hw3]; exact grownBy_setRow _ _ _
          have es3 : w3.heap.size = wb.heap.size := by rw [hw3]; simp [World.setRow]
          have ha' := ha.size
          have fw3' := fw3.grown hb gs3 (fun k hk => by cases hk; have := ha.size; omega) hth
          have th3' : There Sh w3 ((M.1, M3) : Gh (List (List Int))) := fun k hk => by have := th3 k hk; have := hb.size; omega
          rw [grow_self _ wb w3 es3] at fw3'
          clear hwz hw3 hM3 gs3 es3 hcb3 hsz hgA fw3 hcz hb ha th3
          refine opsC_nil hS ?_
          show WpC _ _ _ _ _ _ _
          refine wpC_seq hS ?_
          refine wpC_region hS ?_
          simp only [List.size_toArray, List.length_cons, List.length_nil, Nat.reduceAdd, Nat.zero_add, List.range, List.range.loop]
          first
            | refine opsC_moveA hS rfl rfl (.inl rfl) ?_
            | refine opsC_moveA hS rfl rfl (.inr rfl) ?_
            | refine opsC_binA hS rfl rfl rfl rfl rfl rfl ?_
            | refine opsC_lenA hS rfl rfl rfl (by kernel_rfl) rfl ?_
            | (refine opsC_plain hS rfl rfl fun _ K hK => ?_; go_simp; refine hK _ (by simp [go_sem, events_cap_slice, events_slice_hi, *]) ?_; clear hK K; try walk_nrm)
          refine opsC_indexP4 (g := gr) (j := 0) hS rfl rfl rfl rfl rfl rfl (by omega) (by (with_reducible simp only [Act.put, Act.eval, Array.getD_eq_getD_getElem?, List.getElem?_toArray, List.getElem_toArray, List.getElem_cons_zero, List.getElem_cons_succ, List.getElem?_cons_zero, List.getElem?_cons_succ, Option.getD_some, List.setIfInBounds_toArray, List.set_cons_zero, List.set_cons_succ]); exact rfl) ?_
          refine opsC_load (ad := ⟨gr, 0, none⟩) (v := .int .i64 (l0 : Int)) hS rfl rfl rfl (by kernel_rfl) rfl (.inr mgr) (by rw [cell_of_row w3 gr 0 _ _ _ hc3]; rfl) ?_
          have ew : IntKind.i64.wrap ((l0 : Int) - 1) = ((l0 - 1 : Nat) : Int) := by
            have : l0 ≤ 100 := by simp at hsum; omega
            rw [IntKind.wrap_i64]; omega
          first
            | refine opsC_moveA hS rfl rfl (.inl rfl) ?_
            | refine opsC_moveA hS rfl rfl (.inr rfl) ?_
            | refine opsC_binA hS rfl rfl rfl rfl rfl rfl ?_
            | refine opsC_lenA hS rfl rfl rfl (by kernel_rfl) rfl ?_
            | (refine opsC_plain hS rfl rfl fun _ K hK => ?_; go_simp; refine hK _ (by simp [go_sem, events_cap_slice, events_slice_hi, *]) ?_; clear hK K; try walk_nrm)
          rw [ew]
          refine opsC_indexP4 (g := gr) (j := 0) hS rfl rfl rfl rfl rfl rfl (by omega) (by (with_reducible simp only [Act.put, Act.eval, Array.getD_eq_getD_getElem?, List.getElem?_toArray, List.getElem_toArray, List.getElem_cons_zero, List.getElem_cons_succ, List.getElem?_cons_zero, List.getElem?_cons_succ, Option.getD_some, List.setIfInBounds_toArray, List.set_cons_zero, List.set_cons_succ]); exact rfl) ?_
          refine opsC_store (ad := ⟨gr, 0, none⟩) (v := .int .i64 ((l0 - 1 : Nat) : Int)) (u := .int .i64 (l0 : Int)) hS rfl rfl rfl (by kernel_rfl) rfl rfl rfl rfl mgr (by rw [cell_of_row w3 gr 0 _ _ _ hc3]; rfl) (by simp [World.frozen?, hc3]) fun wc hc => ?_
          obtain ⟨w4, hw4⟩ : ∃ w4, w4 = wc.setCell ⟨gr, 0, none⟩ (.int .i64 ((l0 - 1 : Nat) : Int)) := ⟨_, rfl⟩
          rw [← hw4]
          have hcc : wc.heap[gr]? = some (.cells #[.int .i64 (l0 : Int), .int .i64 (l1 : Int), .int .i64 (l2 : Int), .int .i64 (l3 : Int)] 63 (0, 0)) := (hc.keep gr (.inr mgr)).trans hc3
          have hc4 : w4.heap[gr]? = some (.cells (cellsOf [l0 - 1, l1, l2, l3]) 63 (0, 0)) := by
            rw [hw4, setCell_eq_setRow wc gr 0 _ _ _ _ hcc]
            exact setRow_heap _ _ _ _ _ _ hcc
          have gs4 : wc.grownBy w4 (some gr) := by rw [hw4]; exact grownBy_setCell _ _ _
          have es4 : w4.heap.size = wc.heap.size := by rw [hw4]; exact setCell_size _ _ _
          have hgw : w.heap.size ≤ gr := by have := ha'; omega
          have fw4 := fw3'.grown hc gs4 (fun k hk => by cases hk; exact hgw) hth
          have th4 : There Sh w4 ((M.1, M3) : Gh (List (List Int))) := fun k hk => by have := th3' k hk; have := hc.size; omega
          rw [grow_self _ wc w4 es4] at fw4
          clear hw4 gs4 es4 hcc hc
          refine opsC_nil hS ?_
          show WpC _ _ _ _ _ _ _
          have ex : M.1 = wgo t (b ++ [(0 : Int)]) [l0 - 1, l1, l2, l3] ++ (wrem t b [l0, l1, l2, l3] (0 + 1) ++ xs) := by
            rw [hix, wrem_pos t b [l0, l1, l2, l3] 0 (by omega) hz, List.append_assoc]
            rfl
          rw [ex] at fw4 th4 ⊢
          have ow4 := (hu.up (up2.trans hup)).up fw4.to_up
          refine reg9 (u := u) (b := b) (x := 0) (gr := gr) (L' := [l0 - 1, l1, l2, l3]) (by have := hup.rl.size; have := up2.rl.size; have := fw4.rl.size; omega) th4 ⟨rfl, ⟨_, rfl, rfl, rfl, rfl⟩, ⟨_, rfl, rfl, rfl, rfl⟩, ⟨_, rfl, rfl, rfl, rfl⟩, ⟨_, rfl, rfl, rfl, rfl, ?_⟩, ⟨_, rfl, rfl, rfl, rfl, ?_, ?_⟩, ⟨_, rfl, rfl, rfl, rfl, ?_⟩, ⟨_, rfl, rfl, rfl, rfl⟩, ⟨_, rfl, rfl, ⟨_, rfl⟩, ?_, ?_, ?_, ?_⟩⟩ (by omega) rfl ?_ (fun wq Mq uq hBq htq huq => ih t rfl (b ++ [(0 : Int)]) [l0 - 1, l1, l2, l3] uq wq Mq _ rfl (by simp at hsum ⊢; omega) (by simp; omega) hSh hBq htq huq) rfl rfl rfl rfl rfl rfl ow4 mgr hc4 ?_
          · first | exact ⟨_, Array.mem_of_getElem? (i := 0) rfl, rfl, rfl⟩ | exact ⟨_, Array.mem_of_getElem? (i := 1) rfl, rfl, rfl⟩ | exact ⟨_, Array.mem_of_getElem? (i := 2) rfl, rfl, rfl⟩ | exact ⟨_, Array.mem_of_getElem? (i := 3) rfl, rfl, rfl⟩
          · first | exact ⟨_, Array.mem_of_getElem? (i := 0) rfl, rfl, rfl⟩ | exact ⟨_, Array.mem_of_getElem? (i := 1) rfl, rfl, rfl⟩ | exact ⟨_, Array.mem_of_getElem? (i := 2) rfl, rfl, rfl⟩ | exact ⟨_, Array.mem_of_getElem? (i := 3) rfl, rfl, rfl⟩
          · first | exact ⟨_, Array.mem_of_getElem? (i := 0) rfl, rfl, rfl⟩ | exact ⟨_, Array.mem_of_getElem? (i := 1) rfl, rfl, rfl⟩ | exact ⟨_, Array.mem_of_getElem? (i := 2) rfl, rfl, rfl⟩ | exact ⟨_, Array.mem_of_getElem? (i := 3) rfl, rfl, rfl⟩
          · first | exact ⟨_, Array.mem_of_getElem? (i := 0) rfl, rfl, rfl⟩ | exact ⟨_, Array.mem_of_getElem? (i := 1) rfl, rfl, rfl⟩ | exact ⟨_, Array.mem_of_getElem? (i := 2) rfl, rfl, rfl⟩ | exact ⟨_, Array.mem_of_getElem? (i := 3) rfl, rfl, rfl⟩
          · first | exact ⟨_, Array.mem_of_getElem? (i := 0) rfl, rfl, rfl⟩ | exact ⟨_, Array.mem_of_getElem? (i := 1) rfl, rfl, rfl⟩ | exact ⟨_, Array.mem_of_getElem? (i := 2) rfl, rfl, rfl⟩ | exact ⟨_, Array.mem_of_getElem? (i := 3) rfl, rfl, rfl⟩
          · first | exact ⟨_, Array.mem_of_getElem? (i := 0) rfl, rfl, rfl⟩ | exact ⟨_, Array.mem_of_getElem? (i := 1) rfl, rfl, rfl⟩ | exact ⟨_, Array.mem_of_getElem? (i := 2) rfl, rfl, rfl⟩ | exact ⟨_, Array.mem_of_getElem? (i := 3) rfl, rfl, rfl⟩
          · first | exact ⟨_, Array.mem_of_getElem? (i := 0) rfl, rfl, rfl⟩ | exact ⟨_, Array.mem_of_getElem? (i := 1) rfl, rfl, rfl⟩ | exact ⟨_, Array.mem_of_getElem? (i := 2) rfl, rfl, rfl⟩ | exact ⟨_, Array.mem_of_getElem? (i := 3) rfl, rfl, rfl⟩
          · first | exact .inl rfl | exact .inr rfl
          · intro L hL
            obtain ⟨b0, b1, b2, b3, b4, b5, b6, b7, rfl⟩ := arr8 hL
            clear hL
            revert b0 b1 b2 b3 b4 b5 b6 b7
            exact of_decide_eq_true (by kernel_rfl)
          · intro a w' M' hsz hdf heq hix' hup' hrl hth'
            obtain ⟨tm, df⟩ := a
            simp only at hsz hdf
            subst hdf
            obtain ⟨y0, y1, y2, y3, y4, y5, y6, y7, y8, y9, y10, y11, y12, y13, y14, y15, y16, y17, y18, y19, y20, y21, y22, y23, y24, y25, y26, y27, y28, y29, y30, y31, y32, y33, y34, y35, rfl⟩ := arr36 hsz
            have q0 : y0 = .chan (some c) := heq 0 (by omega)
            have q1 : y1 = u := heq 1 (by omega)
            have q5 : y5 = .pointer (some ⟨gb, 0, none⟩) := heq 5 (by omega)
            have q14 : y14 = .agg #[.int .i64 (l0 : Int), .int .i64 (l1 : Int), .int .i64 (l2 : Int), .int .i64 (l3 : Int)] := heq 14 (by omega)
            have q15 : y15 = .int .i64 0 := heq 15 (by omega)
            clear heq
            subst q0 q1 q5 q14 q15
            show WpC _ _ _ _ _ _ _
            refine wpC_region hS ?_
            simp only [List.size_toArray, List.length_cons, List.length_nil, Nat.reduceAdd, Nat.zero_add, List.range, List.range.loop]
            repeat first
              | refine opsC_moveA hS rfl rfl (.inl rfl) ?_
              | refine opsC_moveA hS rfl rfl (.inr rfl) ?_
              | refine opsC_binA hS rfl rfl rfl rfl rfl rfl ?_
              | refine opsC_lenA hS rfl rfl rfl (by kernel_rfl) rfl ?_
              | (refine opsC_plain hS rfl rfl fun _ K hK => ?_; go_simp; refine hK _ (by simp [go_sem, events_cap_slice, events_slice_hi, *]) ?_; clear hK K; try walk_nrm)
            refine opsC_nil hS ?_
            show LoopC _ _ _ _ _ _ _
            exact hN _ _ _ ⟨⟨_, _, _, _, _, _, _, _, _, _, _, _, _, _, _, _, _, _, _, _, _, _, _, _, _, _, _, _, _, _, _, rfl⟩, hix', ⟨fun k hk => hup' k (fw4.up k (hup.up k hk)), hup.rl.trans ((fw4.rl.trans (hrl.mono fw4.up)).mono hup.up)⟩, hth'⟩
      · simp only [kzS]
        refine loopC_round hS ?_
        refine wpC_seq hS ?_
        refine wpC_region hS ?_
        simp only [List.size_toArray, List.length_cons, List.length_nil, Nat.reduceAdd, Nat.zero_add, List.range, List.range.loop]
        repeat first
          | refine opsC_moveA hS rfl rfl (.inl rfl) ?_
          | refine opsC_moveA hS rfl rfl (.inr rfl) ?_
          | refine opsC_binA hS rfl rfl rfl rfl rfl rfl ?_
          | refine opsC_lenA hS rfl rfl rfl (by kernel_rfl) rfl ?_
          | (refine opsC_plain hS rfl rfl fun _ K hK => ?_; go_simp; refine hK _ (by simp [go_sem, events_cap_slice, events_slice_hi, *]) ?_; clear hK K; try walk_nrm)
        refine opsC_nil hS ?_
        show WpC _ _ _ _ _ _ _
        refine wpC_seq hS ?_
        refine wpC_cond (t := true) hS rfl ?_
        simp only [if_true, if_false, Bool.false_eq_true]
        refine wpC_skip hS ?_
        show WpC _ _ _ _ _ _ _
        refine wpC_seq hS ?_
        refine wpC_block hS ?_
        refine wpC_seq hS ?_
        refine wpC_region hS ?_
        simp only [List.size_toArray, List.length_cons, List.length_nil, Nat.reduceAdd, Nat.zero_add, List.range, List.range.loop]
        first
          | refine opsC_moveA hS rfl rfl (.inl rfl) ?_
          | refine opsC_moveA hS rfl rfl (.inr rfl) ?_
          | refine opsC_binA hS rfl rfl rfl rfl rfl rfl ?_
          | refine opsC_lenA hS rfl rfl rfl (by kernel_rfl) rfl ?_
          | (refine opsC_plain hS rfl rfl fun _ K hK => ?_; go_simp; refine hK _ (by simp [go_sem, events_cap_slice, events_slice_hi, *]) ?_; clear hK K; try walk_nrm)
        refine opsC_index4 (v := .int .i64 (l1 : Int)) hS rfl rfl rfl rfl rfl (by decide) rfl (by (with_reducible simp only [Act.put, Act.eval, Array.getD_eq_getD_getElem?, List.getElem?_toArray, List.getElem_toArray, List.getElem_cons_zero, List.getElem_cons_succ, List.getElem?_cons_zero, List.getElem?_cons_succ, Option.getD_some, List.setIfInBounds_toArray, List.set_cons_zero, List.set_cons_succ]); exact rfl) ?_
        repeat first
          | refine opsC_moveA hS rfl rfl (.inl rfl) ?_
          | refine opsC_moveA hS rfl rfl (.inr rfl) ?_
          | refine opsC_binA hS rfl rfl rfl rfl rfl rfl ?_
          | refine opsC_lenA hS rfl rfl rfl (by kernel_rfl) rfl ?_
          | (refine opsC_plain hS rfl rfl fun _ K hK => ?_; go_simp; refine hK _ (by simp [go_sem, events_cap_slice, events_slice_hi, *]) ?_; clear hK K; try walk_nrm)
        refine opsC_nil hS ?_
        show WpC _ _ _ _ _ _ _
        refine wpC_seq hS ?_
        refine wpC_seq hS ?_
        refine wpC_region hS ?_
        simp only [List.size_toArray, List.length_cons, List.length_nil, Nat.reduceAdd, Nat.zero_add, List.range, List.range.loop]
        repeat first
          | refine opsC_moveA hS rfl rfl (.inl rfl) ?_
          | refine opsC_moveA hS rfl rfl (.inr rfl) ?_
          | refine opsC_binA hS rfl rfl rfl rfl rfl rfl ?_
          | refine opsC_lenA hS rfl rfl rfl (by kernel_rfl) rfl ?_
          | (refine opsC_plain hS rfl rfl fun _ K hK => ?_; go_simp; refine hK _ (by simp [go_sem, events_cap_slice, events_slice_hi, *]) ?_; clear hK K; try walk_nrm)
        refine opsC_nil hS ?_
        show WpC _ _ _ _ _ _ _
        by_cases hz : l1 = 0
        · subst hz
          refine wpC_cond (t := true) hS rfl ?_
          simp only [if_true, if_false, Bool.false_eq_true]
          refine wpC_exit hS ?_
          show WpC _ _ _ _ _ _ _
          refine wpC_region hS ?_
          simp only [List.size_toArray, List.length_cons, List.length_nil, Nat.reduceAdd, Nat.zero_add, List.range, List.range.loop]
          repeat first
            | refine opsC_moveA hS rfl rfl (.inl rfl) ?_
            | refine opsC_moveA hS rfl rfl (.inr rfl) ?_
            | refine opsC_binA hS rfl rfl rfl rfl rfl rfl ?_
            | refine opsC_lenA hS rfl rfl rfl (by kernel_rfl) rfl ?_
            | (refine opsC_plain hS rfl rfl fun _ K hK => ?_; go_simp; refine hK _ (by simp [go_sem, events_cap_slice, events_slice_hi, *]) ?_; clear hK K; try walk_nrm)
          refine opsC_nil hS ?_
          show LoopC _ _ _ _ _ _ _
          refine hN _ _ _ ⟨⟨_, _, _, _, _, _, _, _, _, _, _, _, _, _, _, _, _, _, _, _, _, _, _, _, _, _, _, _, _, _, _, rfl⟩, hix.trans (congrArg (· ++ xs) (wrem_zero t b [l0, 0, l2, l3] 1 (by omega) rfl)), hup, hth⟩
        · have hz' : ((l1 : Int) == 0) = false := by simp; omega
          refine wpC_cond (t := false) hS (congrArg Value.bool hz') ?_
          simp only [if_true, if_false, Bool.false_eq_true]
          refine wpC_skip hS ?_
          show WpC _ _ _ _ _ _ _
          refine wpC_seq hS ?_
          refine wpC_region hS ?_
          simp only [List.size_toArray, List.length_cons, List.length_nil, Nat.reduceAdd, Nat.zero_add, List.range, List.range.loop]
          refine opsC_loadrow hS rfl rfl rfl (by kernel_rfl) (cs := #[.int .i64 (l0 : Int), .int .i64 (l1 : Int), .int .i64 (l2 : Int), .int .i64 (l3 : Int)]) info4 rfl (.inr (hup.up gb hm2)) ((hup.rl.keep gb (.inr hm2)).trans hcb) ?_
          obtain ⟨iA, hiA, hpA⟩ := Option.map_eq_some_iff.1 infoA
          simp only [Prod.mk.injEq] at hpA
          refine opsC_alloc hS rfl rfl rfl hiA hpA.1 fun wa ha => ?_
          refine opsC_storerow (old := #[.int .i64 0, .int .i64 0, .int .i64 0, .int .i64 0]) (cs := #[.int .i64 (l0 : Int), .int .i64 (l1 : Int), .int .i64 (l2 : Int), .int .i64 (l3 : Int)]) (g := wa.heap.size) (t := 63) hS rfl rfl rfl info4 rfl (one4 _ _ _ _) rfl rfl (.inr ⟨Nat.le_refl _, by rw [World.size_alloc]; exact Nat.lt_succ_self _⟩) (heap_alloc_new _ _) fun wb hb => ?_
          obtain ⟨gr, hgr⟩ : ∃ gr, gr = wa.heap.size := ⟨_, rfl⟩
          rw [← hgr]
          obtain ⟨w3, hw3⟩ : ∃ w3, w3 = wb.setRow gr #[.int .i64 (l0 : Int), .int .i64 (l1 : Int), .int .i64 (l2 : Int), .int .i64 (l3 : Int)] := ⟨_, rfl⟩
          rw [← hw3]
          have hgA : wa.grownBy (wa.alloc (.cells (Value.cells (.agg #[.int .i64 0, .int .i64 0, .int .i64 0, .int .i64 0])) 63)) none := World.grownBy_alloc _ _ _
          obtain ⟨wz, hwz⟩ : ∃ wz, wz = wa.alloc (.cells (Value.cells (.agg #[.int .i64 0, .int .i64 0, .int .i64 0, .int .i64 0])) 63) := ⟨_, rfl⟩
          have hcz : wz.heap[gr]? = some (.cells #[.int .i64 0, .int .i64 0, .int .i64 0, .int .i64 0] 63 (0, 0)) := by rw [hwz, hgr]; exact heap_alloc_new _ _
          have hsz : wa.heap.size < wz.heap.size := by rw [hwz, World.size_alloc]; exact Nat.lt_succ_self _
          rw [← hwz] at hb hgA ⊢
          have fw3 := (Fwd.refl Sh w M).grown ha hgA (fun k hk => by cases hk) hth
          have th3 := hth.grown ha hgA.size
          have mgr : grow M.2 wa wz gr := .inr ⟨by omega, by omega⟩
          obtain ⟨M3, hM3⟩ : ∃ M3, M3 = grow M.2 wa wz := ⟨_, rfl⟩
          rw [← hM3] at hb fw3 th3 mgr ⊢
          have hcb3 : wb.heap[gr]? = some (.cells #[.int .i64 0, .int .i64 0, .int .i64 0, .int .i64 0] 63 (0, 0)) := (hb.keep gr (.inr mgr)).trans hcz
          have hc3 : w3.heap[gr]? = some (.cells #[.int .i64 (l0 : Int), .int .i64 (l1 : Int), .int .i64 (l2 : Int), .int .i64 (l3 : Int)] 63 (0, 0)) := by rw [hw3]; exact setRow_heap _ _ _ _ _ _ hcb3
          have gs3 : wb.grownBy w3 (some gr) := by rw [hw3]; exact grownBy_setRow _ _ _
          have es3 : w3.heap.size = wb.heap.size := by rw [hw3]; simp [World.setRow]
          have ha' := ha.size
          have fw3' := fw3.grown hb gs3 (fun k hk => by cases hk; have := ha.size; omega) hth
          have th3' : There Sh w3 ((M.1, M3) : Gh (List (List Int))) := fun k hk => by have := th3 k hk; have := hb.size; omega
          rw [grow_self _ wb w3 es3] at fw3'
          clear hwz hw3 hM3 gs3 es3 hcb3 hsz hgA fw3 hcz hb ha th3
          refine opsC_nil hS ?_
          show WpC _ _ _ _ _ _ _
          refine wpC_seq hS ?_
          refine wpC_region hS ?_
          simp only [List.size_toArray, List.length_cons, List.length_nil, Nat.reduceAdd, Nat.zero_add, List.range, List.range.loop]
          first
            | refine opsC_moveA hS rfl rfl (.inl rfl) ?_
            | refine opsC_moveA hS rfl rfl (.inr rfl) ?_
            | refine opsC_binA hS rfl rfl rfl rfl rfl rfl ?_
            | refine opsC_lenA hS rfl rfl rfl (by kernel_rfl) rfl ?_
            | (refine opsC_plain hS rfl rfl fun _ K hK => ?_; go_simp; refine hK _ (by simp [go_sem, events_cap_slice, events_slice_hi, *]) ?_; clear hK K; try walk_nrm)
          refine opsC_indexP4 (g := gr) (j := 1) hS rfl rfl rfl rfl rfl rfl (by omega) (by (with_reducible simp only [Act.put, Act.eval, Array.getD_eq_getD_getElem?, List.getElem?_toArray, List.getElem_toArray, List.getElem_cons_zero, List.getElem_cons_succ, List.getElem?_cons_zero, List.getElem?_cons_succ, Option.getD_some, List.setIfInBounds_toArray, List.set_cons_zero, List.set_cons_succ]); exact rfl) ?_
          refine opsC_load (ad := ⟨gr, 1, none⟩) (v := .int .i64 (l1 : Int)) hS rfl rfl rfl (by kernel_rfl) rfl (.inr mgr) (by rw [cell_of_row w3 gr 1 _ _ _ hc3]; rfl) ?_
          have ew : IntKind.i64.wrap ((l1 : Int) - 1) = ((l1 - 1 : Nat) : Int) := by
            have : l1 ≤ 100 := by simp at hsum; omega
            rw [IntKind.wrap_i64]; omega
          first
            | refine opsC_moveA hS rfl rfl (.inl rfl) ?_
            | refine opsC_moveA hS rfl rfl (.inr rfl) ?_
            | refine opsC_binA hS rfl rfl rfl rfl rfl rfl ?_
            | refine opsC_lenA hS rfl rfl rfl (by kernel_rfl) rfl ?_
            | (refine opsC_plain hS rfl rfl fun _ K hK => ?_; go_simp; refine hK _ (by simp [go_sem, events_cap_slice, events_slice_hi, *]) ?_; clear hK K; try walk_nrm)
          rw [ew]
          refine opsC_indexP4 (g := gr) (j := 1) hS rfl rfl rfl rfl rfl rfl (by omega) (by (with_reducible simp only [Act.put, Act.eval, Array.getD_eq_getD_getElem?, List.getElem?_toArray, List.getElem_toArray, List.getElem_cons_zero, List.getElem_cons_succ, List.getElem?_cons_zero, List.getElem?_cons_succ, Option.getD_some, List.setIfInBounds_toArray, List.set_cons_zero, List.set_cons_succ]); exact rfl) ?_
          refine opsC_store (ad := ⟨gr, 1, none⟩) (v := .int .i64 ((l1 - 1 : Nat) : Int)) (u := .int .i64 (l1 : Int)) hS rfl rfl rfl (by kernel_rfl) rfl rfl rfl rfl mgr (by rw [cell_of_row w3 gr 1 _ _ _ hc3]; rfl) (by simp [World.frozen?, hc3]) fun wc hc => ?_
          obtain ⟨w4, hw4⟩ : ∃ w4, w4 = wc.setCell ⟨gr, 1, none⟩ (.int .i64 ((l1 - 1 : Nat) : Int)) := ⟨_, rfl⟩
          rw [← hw4]
          have hcc : wc.heap[gr]? = some (.cells #[.int .i64 (l0 : Int), .int .i64 (l1 : Int), .int .i64 (l2 : Int), .int .i64 (l3 : Int)] 63 (0, 0)) := (hc.keep gr (.inr mgr)).trans hc3
          have hc4 : w4.heap[gr]? = some (.cells (cellsOf [l0, l1 - 1, l2, l3]) 63 (0, 0)) := by
            rw [hw4, setCell_eq_setRow wc gr 1 _ _ _ _ hcc]
            exact setRow_heap _ _ _ _ _ _ hcc
          have gs4 : wc.grownBy w4 (some gr) := by rw [hw4]; exact grownBy_setCell _ _ _
          have es4 : w4.heap.size = wc.heap.size := by rw [hw4]; exact setCell_size _ _ _
          have hgw : w.heap.size ≤ gr := by have := ha'; omega
          have fw4 := fw3'.grown hc gs4 (fun k hk => by cases hk; exact hgw) hth
          have th4 : There Sh w4 ((M.1, M3) : Gh (List (List Int))) := fun k hk => by have := th3' k hk; have := hc.size; omega
          rw [grow_self _ wc w4 es4] at fw4
          clear hw4 gs4 es4 hcc hc
          refine opsC_nil hS ?_
          show WpC _ _ _ _ _ _ _
          have ex : M.1 = wgo t (b ++ [(1 : Int)]) [l0, l1 - 1, l2, l3] ++ (wrem t b [l0, l1, l2, l3] (1 + 1) ++ xs) := by
            rw [hix, wrem_pos t b [l0, l1, l2, l3] 1 (by omega) hz, List.append_assoc]
            rfl
          rw [ex] at fw4 th4 ⊢
          have ow4 := (hu.up (up2.trans hup)).up fw4.to_up
          refine reg9 (u := u) (b := b) (x := 1) (gr := gr) (L' := [l0, l1 - 1, l2, l3]) (by have := hup.rl.size; have := up2.rl.size; have := fw4.rl.size; omega) th4 ⟨rfl, ⟨_, rfl, rfl, rfl, rfl⟩, ⟨_, rfl, rfl, rfl, rfl⟩, ⟨_, rfl, rfl, rfl, rfl⟩, ⟨_, rfl, rfl, rfl, rfl, ?_⟩, ⟨_, rfl, rfl, rfl, rfl, ?_, ?_⟩, ⟨_, rfl, rfl, rfl, rfl, ?_⟩, ⟨_, rfl, rfl, rfl, rfl⟩, ⟨_, rfl, rfl, ⟨_, rfl⟩, ?_, ?_, ?_, ?_⟩⟩ (by omega) rfl ?_ (fun wq Mq uq hBq htq huq => ih t rfl (b ++ [(1 : Int)]) [l0, l1 - 1, l2, l3] uq wq Mq _ rfl (by simp at hsum ⊢; omega) (by simp; omega) hSh hBq htq huq) rfl rfl rfl rfl rfl rfl ow4 mgr hc4 ?_
          · first | exact ⟨_, Array.mem_of_getElem? (i := 0) rfl, rfl, rfl⟩ | exact ⟨_, Array.mem_of_getElem? (i := 1) rfl, rfl, rfl⟩ | exact ⟨_, Array.mem_of_getElem? (i := 2) rfl, rfl, rfl⟩ | exact ⟨_, Array.mem_of_getElem? (i := 3) rfl, rfl, rfl⟩
          · first | exact ⟨_, Array.mem_of_getElem? (i := 0) rfl, rfl, rfl⟩ | exact ⟨_, Array.mem_of_getElem? (i := 1) rfl, rfl, rfl⟩ | exact ⟨_, Array.mem_of_getElem? (i := 2) rfl, rfl, rfl⟩ | exact ⟨_, Array.mem_of_getElem? (i := 3) rfl, rfl, rfl⟩
          · first | exact ⟨_, Array.mem_of_getElem? (i := 0) rfl, rfl, rfl⟩ | exact ⟨_, Array.mem_of_getElem? (i := 1) rfl, rfl, rfl⟩ | exact ⟨_, Array.mem_of_getElem? (i := 2) rfl, rfl, rfl⟩ | exact ⟨_, Array.mem_of_getElem? (i := 3) rfl, rfl, rfl⟩
          · first | exact ⟨_, Array.mem_of_getElem? (i := 0) rfl, rfl, rfl⟩ | exact ⟨_, Array.mem_of_getElem? (i := 1) rfl, rfl, rfl⟩ | exact ⟨_, Array.mem_of_getElem? (i := 2) rfl, rfl, rfl⟩ | exact ⟨_, Array.mem_of_getElem? (i := 3) rfl, rfl, rfl⟩
          · first | exact ⟨_, Array.mem_of_getElem? (i := 0) rfl, rfl, rfl⟩ | exact ⟨_, Array.mem_of_getElem? (i := 1) rfl, rfl, rfl⟩ | exact ⟨_, Array.mem_of_getElem? (i := 2) rfl, rfl, rfl⟩ | exact ⟨_, Array.mem_of_getElem? (i := 3) rfl, rfl, rfl⟩
          · first | exact ⟨_, Array.mem_of_getElem? (i := 0) rfl, rfl, rfl⟩ | exact ⟨_, Array.mem_of_getElem? (i := 1) rfl, rfl, rfl⟩ | exact ⟨_, Array.mem_of_getElem? (i := 2) rfl, rfl, rfl⟩ | exact ⟨_, Array.mem_of_getElem? (i := 3) rfl, rfl, rfl⟩
          · first | exact ⟨_, Array.mem_of_getElem? (i := 0) rfl, rfl, rfl⟩ | exact ⟨_, Array.mem_of_getElem? (i := 1) rfl, rfl, rfl⟩ | exact ⟨_, Array.mem_of_getElem? (i := 2) rfl, rfl, rfl⟩ | exact ⟨_, Array.mem_of_getElem? (i := 3) rfl, rfl, rfl⟩
          · first | exact .inl rfl | exact .inr rfl
          · intro L hL
            obtain ⟨b0, b1, b2, b3, b4, b5, b6, b7, rfl⟩ := arr8 hL
            clear hL
            revert b0 b1 b2 b3 b4 b5 b6 b7
            exact of_decide_eq_true (by kernel_rfl)
          · intro a w' M' hsz hdf heq hix' hup' hrl hth'
            obtain ⟨tm, df⟩ := a
            simp only at hsz hdf
            subst hdf
            obtain ⟨y0, y1, y2, y3, y4, y5, y6, y7, y8, y9, y10, y11, y12, y13, y14, y15, y16, y17, y18, y19, y20, y21, y22, y23, y24, y25, y26, y27, y28, y29, y30, y31, y32, y33, y34, y35, rfl⟩ := arr36 hsz
            have q0 : y0 = .chan (some c) := heq 0 (by omega)
            have q1 : y1 = u := heq 1 (by omega)
            have q5 : y5 = .pointer (some ⟨gb, 0, none⟩) := heq 5 (by omega)
            have q14 : y14 = .agg #[.int .i64 (l0 : Int), .int .i64 (l1 : Int), .int .i64 (l2 : Int), .int .i64 (l3 : Int)] := heq 14 (by omega)
            have q15 : y15 = .int .i64 1 := heq 15 (by omega)
            clear heq
            subst q0 q1 q5 q14 q15
            show WpC _ _ _ _ _ _ _
            refine wpC_region hS ?_
            simp only [List.size_toArray, List.length_cons, List.length_nil, Nat.reduceAdd, Nat.zero_add, List.range, List.range.loop]
            repeat first
              | refine opsC_moveA hS rfl rfl (.inl rfl) ?_
              | refine opsC_moveA hS rfl rfl (.inr rfl) ?_
              | refine opsC_binA hS rfl rfl rfl rfl rfl rfl ?_
              | refine opsC_lenA hS rfl rfl rfl (by kernel_rfl) rfl ?_
              | (refine opsC_plain hS rfl rfl fun _ K hK => ?_; go_simp; refine hK _ (by simp [go_sem, events_cap_slice, events_slice_hi, *]) ?_; clear hK K; try walk_nrm)
            refine opsC_nil hS ?_
            show LoopC _ _ _ _ _ _ _
            exact hN _ _ _ ⟨⟨_, _, _, _, _, _, _, _, _, _, _, _, _, _, _, _, _, _, _, _, _, _, _, _, _, _, _, _, _, _, _, rfl⟩, hix', ⟨fun k hk => hup' k (fw4.up k (hup.up k hk)), hup.rl.trans ((fw4.rl.trans (hrl.mono fw4.up)).mono hup.up)⟩, hth'⟩
      · simp only [kzS]
        refine loopC_round hS ?_
        refine wpC_seq hS ?_
        refine wpC_region hS ?_
        simp only [List.size_toArray, List.length_cons, List.length_nil, Nat.reduceAdd, Nat.zero_add, List.range, List.range.loop]
        repeat first
          | refine opsC_moveA hS rfl rfl (.inl rfl) ?_
          | refine opsC_moveA hS rfl rfl (.inr rfl) ?_
          | refine opsC_binA hS rfl rfl rfl rfl rfl rfl ?_
          | refine opsC_lenA hS rfl rfl rfl (by kernel_rfl) rfl ?_
          | (refine opsC_plain hS rfl rfl fun _ K hK => ?_; go_simp; refine hK _ (by simp [go_sem, events_cap_slice, events_slice_hi, *]) ?_; clear hK K; try walk_nrm)
        refine opsC_nil hS ?_
        show WpC _ _ _ _ _ _ _
        refine wpC_seq hS ?_
        refine wpC_cond (t := true) hS rfl ?_
        simp only [if_true, if_false, Bool.false_eq_true]
        refine wpC_skip hS ?_
        show WpC _ _ _ _ _ _ _
        refine wpC_seq hS ?_
        refine wpC_block hS ?_
        refine wpC_seq hS ?_
        refine wpC_region hS ?_
        simp only [List.size_toArray, List.length_cons, List.length_nil, Nat.reduceAdd, Nat.zero_add, List.range, List.range.loop]
        first
          | refine opsC_moveA hS rfl rfl (.inl rfl) ?_
          | refine opsC_moveA hS rfl rfl (.inr rfl) ?_
          | refine opsC_binA hS rfl rfl rfl rfl rfl rfl ?_
          | refine opsC_lenA hS rfl rfl rfl (by kernel_rfl) rfl ?_
          | (refine opsC_plain hS rfl rfl fun _ K hK => ?_; go_simp; refine hK _ (by simp [go_sem, events_cap_slice, events_slice_hi, *]) ?_; clear hK K; try walk_nrm)
        refine opsC_index4 (v := .int .i64 (l2 : Int)) hS rfl rfl rfl rfl rfl (by decide) rfl (by (with_reducible simp only [Act.put, Act.eval, Array.getD_eq_getD_getElem?, List.getElem?_toArray, List.getElem_toArray, List.getElem_cons_zero, List.getElem_cons_succ, List.getElem?_cons_zero, List.getElem?_cons_succ, Option.getD_some, List.setIfInBounds_toArray, List.set_cons_zero, List.set_cons_succ]); exact rfl) ?_
        repeat first
          | refine opsC_moveA hS rfl rfl (.inl rfl) ?_
          | refine opsC_moveA hS rfl rfl (.inr rfl) ?_
          | refine opsC_binA hS rfl rfl rfl rfl rfl rfl ?_
          | refine opsC_lenA hS rfl rfl rfl (by kernel_rfl) rfl ?_
          | (refine opsC_plain hS rfl rfl fun _ K hK => ?_; go_simp; refine hK _ (by simp [go_sem, events_cap_slice, events_slice_hi, *]) ?_; clear hK K; try walk_nrm)
        refine opsC_nil hS ?_
        show WpC _ _ _ _ _ _ _
        refine wpC_seq hS ?_
        refine wpC_seq hS ?_
        refine wpC_region hS ?_
        simp only [List.size_toArray, List.length_cons, List.length_nil, Nat.reduceAdd, Nat.zero_add, List.range, List.range.loop]
        repeat first
          | refine opsC_moveA hS rfl rfl (.inl rfl) ?_
          | refine opsC_moveA hS rfl rfl (.inr rfl) ?_
          | refine opsC_binA hS rfl rfl rfl rfl rfl rfl ?_
          | refine opsC_lenA hS rfl rfl rfl (by kernel_rfl) rfl ?_
          | (refine opsC_plain hS rfl rfl fun _ K hK => ?_; go_simp; refine hK _ (by simp [go_sem, events_cap_slice, events_slice_hi, *]) ?_; clear hK K; try walk_nrm)
        refine opsC_nil hS ?_
        show WpC _ _ _ _ _ _ _
        by_cases hz : l2 = 0
        · subst hz
          refine wpC_cond (t := true) hS rfl ?_
          simp only [if_true, if_false, Bool.false_eq_true]
          refine wpC_exit hS ?_
          show WpC _ _ _ _ _ _ _
          refine wpC_region hS ?_
          simp only [List.size_toArray, List.length_cons, List.length_nil, Nat.reduceAdd, Nat.zero_add, List.range, List.range.loop]
          repeat first
            | refine opsC_moveA hS rfl rfl (.inl rfl) ?_
            | refine opsC_moveA hS rfl rfl (.inr rfl) ?_
            | refine opsC_binA hS rfl rfl rfl rfl rfl rfl ?_
            | refine opsC_lenA hS rfl rfl rfl (by kernel_rfl) rfl ?_
            | (refine opsC_plain hS rfl rfl fun _ K hK => ?_; go_simp; refine hK _ (by simp [go_sem, events_cap_slice, events_slice_hi, *]) ?_; clear hK K; try walk_nrm)
          refine opsC_nil hS ?_
          show LoopC _ _ _ _ _ _ _
          refine hN _ _ _ ⟨⟨_, _, _, _, _, _, _, _, _, _, _, _, _, _, _, _, _, _, _, _, _, _, _, _, _, _, _, _, _, _, _, rfl⟩, hix.trans (congrArg (· ++ xs) (wrem_zero t b [l0, l1, 0, l3] 2 (by omega) rfl)), hup, hth⟩
        · have hz' : ((l2 : Int) == 0) = false := by simp; omega
          refine wpC_cond (t := false) hS (congrArg Value.bool hz') ?_
          simp only [if_true, if_false, Bool.false_eq_true]
          refine wpC_skip hS ?_
          show WpC _ _ _ _ _ _ _
          refine wpC_seq hS ?_
          refine wpC_region hS ?_
          simp only [List.size_toArray, List.length_cons, List.length_nil, Nat.reduceAdd, Nat.zero_add, List.range, List.range.loop]
          refine opsC_loadrow hS rfl rfl rfl (by kernel_rfl) (cs := #[.int .i64 (l0 : Int), .int .i64 (l1 : Int), .int .i64 (l2 : Int), .int .i64 (l3 : Int)]) info4 rfl (.inr (hup.up gb hm2)) ((hup.rl.keep gb (.inr hm2)).trans hcb) ?_
          obtain ⟨iA, hiA, hpA⟩ := Option.map_eq_some_iff.1 infoA
          simp only [Prod.mk.injEq] at hpA
          refine opsC_alloc hS rfl rfl rfl hiA hpA.1 fun wa ha => ?_
          refine opsC_storerow (old := #[.int .i64 0, .int .i64 0, .int .i64 0, .int .i64 0]) (cs := #[.int .i64 (l0 : Int), .int .i64 (l1 : Int), .int .i64 (l2 : Int), .int .i64 (l3 : Int)]) (g := wa.heap.size) (t := 63) hS rfl rfl rfl info4 rfl (one4 _ _ _ _) rfl rfl (.inr ⟨Nat.le_refl _, by rw [World.size_alloc]; exact Nat.lt_succ_self _⟩) (heap_alloc_new _ _) fun wb hb => ?_
          obtain ⟨gr, hgr⟩ : ∃ gr, gr = wa.heap.size := ⟨_, rfl⟩
          rw [← hgr]
          obtain ⟨w3, hw3⟩ : ∃ w3, w3 = wb.setRow gr #[.int .i64 (l0 : Int), .int .i64 (l1 : Int), .int .i64 (l2 : Int), .int .i64 (l3 : Int)] := ⟨_, rfl⟩
          rw [← hw3]
          have hgA : wa.grownBy (wa.alloc (.cells (Value.cells (.agg #[.int .i64 0, .int .i64 0, .int .i64 0, .int .i64 0])) 63)) none := World.grownBy_alloc _ _ _
          obtain ⟨wz, hwz⟩ : ∃ wz, wz = wa.alloc (.cells (Value.cells (.agg #[.int .i64 0, .int .i64 0, .int .i64 0, .int .i64 0])) 63) := ⟨_, rfl⟩
          have hcz : wz.heap[gr]? = some (.cells #[.int .i64 0, .int .i64 0, .int .i64 0, .int .i64 0] 63 (0, 0)) := by rw [hwz, hgr]; exact heap_alloc_new _ _
          have hsz : wa.heap.size < wz.heap.size := by rw [hwz, World.size_alloc]; exact Nat.lt_succ_self _
          rw [← hwz] at hb hgA ⊢
          have fw3 := (Fwd.refl Sh w M).grown ha hgA (fun k hk => by cases hk) hth
          have th3 := hth.grown ha hgA.size
          have mgr : grow M.2 wa wz gr := .inr ⟨by omega, by omega⟩
          obtain ⟨M3, hM3⟩ : ∃ M3, M3 = grow M.2 wa wz := ⟨_, rfl⟩
          rw [← hM3] at hb fw3 th3 mgr ⊢
          have hcb3 : wb.heap[gr]? = some (.cells #[.int .i64 0, .int .i64 0, .int .i64 0, .int .i64 0] 63 (0, 0)) := (hb.keep gr (.inr mgr)).trans hcz
          have hc3 : w3.heap[gr]? = some (.cells #[.int .i64 (l0 : Int), .int .i64 (l1 : Int), .int .i64 (l2 : Int), .int .i64 (l3 : Int)] 63 (0, 0)) := by rw [hw3]; exact setRow_heap _ _ _ _ _ _ hcb3
          have gs3 : wb.grownBy w3 (some gr) := by rw [hw3]; exact grownBy_setRow _ _ _
          have es3 : w3.heap.size = wb.heap.size := by rw [hw3]; simp [World.setRow]
          have ha' := ha.size
          have fw3' := fw3.grown hb gs3 (fun k hk => by cases hk; have := ha.size; omega) hth
          have th3' : There Sh w3 ((M.1, M3) : Gh (List (List Int))) := fun k hk => by have := th3 k hk; have := hb.size; omega
          rw [grow_self _ wb w3 es3] at fw3'
          clear hwz hw3 hM3 gs3 es3 hcb3 hsz hgA fw3 hcz hb ha th3
          refine opsC_nil hS ?_
          show WpC _ _ _ _ _ _ _
          refine wpC_seq hS ?_
          refine wpC_region hS ?_
          simp only [List.size_toArray, List.length_cons, List.length_nil, Nat.reduceAdd, Nat.zero_add, List.range, List.range.loop]
          first
            | refine opsC_moveA hS rfl rfl (.inl rfl) ?_
            | refine opsC_moveA hS rfl rfl (.inr rfl) ?_
            | refine opsC_binA hS rfl rfl rfl rfl rfl rfl ?_
            | refine opsC_lenA hS rfl rfl rfl (by kernel_rfl) rfl ?_
            | (refine opsC_plain hS rfl rfl fun _ K hK => ?_; go_simp; refine hK _ (by simp [go_sem, events_cap_slice, events_slice_hi, *]) ?_; clear hK K; try walk_nrm)
          refine opsC_indexP4 (g := gr) (j := 2) hS rfl rfl rfl rfl rfl rfl (by omega) (by (with_reducible simp only [Act.put, Act.eval, Array.getD_eq_getD_getElem?, List.getElem?_toArray, List.getElem_toArray, List.getElem_cons_zero, List.getElem_cons_succ, List.getElem?_cons_zero, List.getElem?_cons_succ, Option.getD_some, List.setIfInBounds_toArray, List.set_cons_zero, List.set_cons_succ]); exact rfl) ?_
          refine opsC_load (ad := ⟨gr, 2, none⟩) (v := .int .i64 (l2 : Int)) hS rfl rfl rfl (by kernel_rfl) rfl (.inr mgr) (by rw [cell_of_row w3 gr 2 _ _ _ hc3]; rfl) ?_
          have ew : IntKind.i64.wrap ((l2 : Int) - 1) = ((l2 - 1 : Nat) : Int) := by
            have : l2 ≤ 100 := by simp at hsum; omega
            rw [IntKind.wrap_i64]; omega
          first
            | refine opsC_moveA hS rfl rfl (.inl rfl) ?_
            | refine opsC_moveA hS rfl rfl (.inr rfl) ?_
            | refine opsC_binA hS rfl rfl rfl rfl rfl rfl ?_
            | refine opsC_lenA hS rfl rfl rfl (by kernel_rfl) rfl ?_
            | (refine opsC_plain hS rfl rfl fun _ K hK => ?_; go_simp; refine hK _ (by simp [go_sem, events_cap_slice, events_slice_hi, *]) ?_; clear hK K; try walk_nrm)
          rw [ew]
          refine opsC_indexP4 (g := gr) (j := 2) hS rfl rfl rfl rfl rfl rfl (by omega) (by (with_reducible simp only [Act.put, Act.eval, Array.getD_eq_getD_getElem?, List.getElem?_toArray, List.getElem_toArray, List.getElem_cons_zero, List.getElem_cons_succ, List.getElem?_cons_zero, List.getElem?_cons_succ, Option.getD_some, List.setIfInBounds_toArray, List.set_cons_zero, List.set_cons_succ]); exact rfl) ?_
          refine opsC_store (ad := ⟨gr, 2, none⟩) (v := .int .i64 ((l2 - 1 : Nat) : Int)) (u := .int .i64 (l2 : Int)) hS rfl rfl rfl (by kernel_rfl) rfl rfl rfl rfl mgr (by rw [cell_of_row w3 gr 2 _ _ _ hc3]; rfl) (by simp [World.frozen?, hc3]) fun wc hc => ?_
          obtain ⟨w4, hw4⟩ : ∃ w4, w4 = wc.setCell ⟨gr, 2, none⟩ (.int .i64 ((l2 - 1 : Nat) : Int)) := ⟨_, rfl⟩
          rw [← hw4]
          have hcc : wc.heap[gr]? = some (.cells #[.int .i64 (l0 : Int), .int .i64 (l1 : Int), .int .i64 (l2 : Int), .int .i64 (l3 : Int)] 63 (0, 0)) := (hc.keep gr (.inr mgr)).trans hc3
          have hc4 : w4.heap[gr]? = some (.cells (cellsOf [l0, l1, l2 - 1, l3]) 63 (0, 0)) := by
            rw [hw4, setCell_eq_setRow wc gr 2 _ _ _ _ hcc]
            exact setRow_heap _ _ _ _ _ _ hcc
          have gs4 : wc.grownBy w4 (some gr) := by rw [hw4]; exact grownBy_setCell _ _ _
          have es4 : w4.heap.size = wc.heap.size := by rw [hw4]; exact setCell_size _ _ _
          have hgw : w.heap.size ≤ gr := by have := ha'; omega
          have fw4 := fw3'.grown hc gs4 (fun k hk => by cases hk; exact hgw) hth
          have th4 : There Sh w4 ((M.1, M3) : Gh (List (List Int))) := fun k hk => by have := th3' k hk; have := hc.size; omega
          rw [grow_self _ wc w4 es4] at fw4
          clear hw4 gs4 es4 hcc hc
          refine opsC_nil hS ?_
          show WpC _ _ _ _ _ _ _
          have ex : M.1 = wgo t (b ++ [(2 : Int)]) [l0, l1, l2 - 1, l3] ++ (wrem t b [l0, l1, l2, l3] (2 + 1) ++ xs) := by
            rw [hix, wrem_pos t b [l0, l1, l2, l3] 2 (by omega) hz, List.append_assoc]
            rfl
          rw [ex] at fw4 th4 ⊢
          have ow4 := (hu.up (up2.trans hup)).up fw4.to_up
          refine reg9 (u := u) (b := b) (x := 2) (gr := gr) (L' := [l0, l1, l2 - 1, l3]) (by have := hup.rl.size; have := up2.rl.size; have := fw4.rl.size; omega) th4 ⟨rfl, ⟨_, rfl, rfl, rfl, rfl⟩, ⟨_, rfl, rfl, rfl, rfl⟩, ⟨_, rfl, rfl, rfl, rfl⟩, ⟨_, rfl, rfl, rfl, rfl, ?_⟩, ⟨_, rfl, rfl, rfl, rfl, ?_, ?_⟩, ⟨_, rfl, rfl, rfl, rfl, ?_⟩, ⟨_, rfl, rfl, rfl, rfl⟩, ⟨_, rfl, rfl, ⟨_, rfl⟩, ?_, ?_, ?_, ?_⟩⟩ (by omega) rfl ?_ (fun wq Mq uq hBq htq huq => ih t rfl (b ++ [(2 : Int)]) [l0, l1, l2 - 1, l3] uq wq Mq _ rfl (by simp at hsum ⊢; omega) (by simp; omega) hSh hBq htq huq) rfl rfl rfl rfl rfl rfl ow4 mgr hc4 ?_
          · first | exact ⟨_, Array.mem_of_getElem? (i := 0) rfl, rfl, rfl⟩ | exact ⟨_, Array.mem_of_getElem? (i := 1) rfl, rfl, rfl⟩ | exact ⟨_, Array.mem_of_getElem? (i := 2) rfl, rfl, rfl⟩ | exact ⟨_, Array.mem_of_getElem? (i := 3) rfl, rfl, rfl⟩
          · first | exact ⟨_, Array.mem_of_getElem? (i := 0) rfl, rfl, rfl⟩ | exact ⟨_, Array.mem_of_getElem? (i := 1) rfl, rfl, rfl⟩ | exact ⟨_, Array.mem_of_getElem? (i := 2) rfl, rfl, rfl⟩ | exact ⟨_, Array.mem_of_getElem? (i := 3) rfl, rfl, rfl⟩
          · first | exact ⟨_, Array.mem_of_getElem? (i := 0) rfl, rfl, rfl⟩ | exact ⟨_, Array.mem_of_getElem? (i := 1) rfl, rfl, rfl⟩ | exact ⟨_, Array.mem_of_getElem? (i := 2) rfl, rfl, rfl⟩ | exact ⟨_, Array.mem_of_getElem? (i := 3) rfl, rfl, rfl⟩
          · first | exact ⟨_, Array.mem_of_getElem? (i := 0) rfl, rfl, rfl⟩ | exact ⟨_, Array.mem_of_getElem? (i := 1) rfl, rfl, rfl⟩ | exact ⟨_, Array.mem_of_getElem? (i := 2) rfl, rfl, rfl⟩ | exact ⟨_, Array.mem_of_getElem? (i := 3) rfl, rfl, rfl⟩
          · first | exact ⟨_, Array.mem_of_getElem? (i := 0) rfl, rfl, rfl⟩ | exact ⟨_, Array.mem_of_getElem? (i := 1) rfl, rfl, rfl⟩ | exact ⟨_, Array.mem_of_getElem? (i := 2) rfl, rfl, rfl⟩ | exact ⟨_, Array.mem_of_getElem? (i := 3) rfl, rfl, rfl⟩
          · first | exact ⟨_, Array.mem_of_getElem? (i := 0) rfl, rfl, rfl⟩ | exact ⟨_, Array.mem_of_getElem? (i := 1) rfl, rfl, rfl⟩ | exact ⟨_, Array.mem_of_getElem? (i := 2) rfl, rfl, rfl⟩ | exact ⟨_, Array.mem_of_getElem? (i := 3) rfl, rfl, rfl⟩
          · first | exact ⟨_, Array.mem_of_getElem? (i := 0) rfl, rfl, rfl⟩ | exact ⟨_, Array.mem_of_getElem? (i := 1) rfl, rfl, rfl⟩ | exact ⟨_, Array.mem_of_getElem? (i := 2) rfl, rfl, rfl⟩ | exact ⟨_, Array.mem_of_getElem? (i := 3) rfl, rfl, rfl⟩
          · first | exact .inl rfl | exact .inr rfl
          · intro L hL
            obtain ⟨b0, b1, b2, b3, b4, b5, b6, b7, rfl⟩ := arr8 hL
            clear hL
            revert b0 b1 b2 b3 b4 b5 b6 b7
            exact of_decide_eq_true (by kernel_rfl)
          · intro a w' M' hsz hdf heq hix' hup' hrl hth'
            obtain ⟨tm, df⟩ := a
            simp only at hsz hdf
            subst hdf
            obtain ⟨y0, y1, y2, y3, y4, y5, y6, y7, y8, y9, y10, y11, y12, y13, y14, y15, y16, y17, y18, y19, y20, y21, y22, y23, y24, y25, y26, y27, y28, y29, y30, y31, y32, y33, y34, y35, rfl⟩ := arr36 hsz
            have q0 : y0 = .chan (some c) := heq 0 (by omega)
            have q1 : y1 = u := heq 1 (by omega)
            have q5 : y5 = .pointer (some ⟨gb, 0, none⟩) := heq 5 (by omega)
            have q14 : y14 = .agg #[.int .i64 (l0 : Int), .int .i64 (l1 : Int), .int .i64 (l2 : Int), .int .i64 (l3 : Int)] := heq 14 (by omega)
            have q15 : y15 = .int .i64 2 := heq 15 (by omega)
            clear heq
            subst q0 q1 q5 q14 q15
            show WpC _ _ _ _ _ _ _
            refine wpC_region hS ?_
            simp only [List.size_toArray, List.length_cons, List.length_nil, Nat.reduceAdd, Nat.zero_add, List.range, List.range.loop]
            repeat first
              | refine opsC_moveA hS rfl rfl (.inl rfl) ?_
              | refine opsC_moveA hS rfl rfl (.inr rfl) ?_
              | refine opsC_binA hS rfl rfl rfl rfl rfl rfl ?_
              | refine opsC_lenA hS rfl rfl rfl (by kernel_rfl) rfl ?_
              | (refine opsC_plain hS rfl rfl fun _ K hK => ?_; go_simp; refine hK _ (by simp [go_sem, events_cap_slice, events_slice_hi, *]) ?_; clear hK K; try walk_nrm)
            refine opsC_nil hS ?_
            show LoopC _ _ _ _ _ _ _
            exact hN _ _ _ ⟨⟨_, _, _, _, _, _, _, _, _, _, _, _, _, _, _, _, _, _, _, _, _, _, _, _, _, _, _, _, _, _, _, rfl⟩, hix', ⟨fun k hk => hup' k (fw4.up k (hup.up k hk)), hup.rl.trans ((fw4.rl.trans (hrl.mono fw4.up)).mono hup.up)⟩, hth'⟩
      · simp only [kzS]
        refine loopC_round hS ?_
        refine wpC_seq hS ?_
        refine wpC_region hS ?_
        simp only [List.size_toArray, List.length_cons, List.length_nil, Nat.reduceAdd, Nat.zero_add, List.range, List.range.loop]
        repeat first
          | refine opsC_moveA hS rfl rfl (.inl rfl) ?_
          | refine opsC_moveA hS rfl rfl (.inr rfl) ?_
          | refine opsC_binA hS rfl rfl rfl rfl rfl rfl ?_
          | refine opsC_lenA hS rfl rfl rfl (by kernel_rfl) rfl ?_
          | (refine opsC_plain hS rfl rfl fun _ K hK => ?_; go_simp; refine hK _ (by simp [go_sem, events_cap_slice, events_slice_hi, *]) ?_; clear hK K; try walk_nrm)
        refine opsC_nil hS ?_
        show WpC _ _ _ _ _ _ _
        refine wpC_seq hS ?_
        refine wpC_cond (t := true) hS rfl ?_
        simp only [if_true, if_false, Bool.false_eq_true]
        refine wpC_skip hS ?_
        show WpC _ _ _ _ _ _ _
        refine wpC_seq hS ?_
        refine wpC_block hS ?_
        refine wpC_seq hS ?_
        refine wpC_region hS ?_
        simp only [List.size_toArray, List.length_cons, List.length_nil, Nat.reduceAdd, Nat.zero_add, List.range, List.range.loop]
        first
          | refine opsC_moveA hS rfl rfl (.inl rfl) ?_
          | refine opsC_moveA hS rfl rfl (.inr rfl) ?_
          | refine opsC_binA hS rfl rfl rfl rfl rfl rfl ?_
          | refine opsC_lenA hS rfl rfl rfl (by kernel_rfl) rfl ?_
          | (refine opsC_plain hS rfl rfl fun _ K hK => ?_; go_simp; refine hK _ (by simp [go_sem, events_cap_slice, events_slice_hi, *]) ?_; clear hK K; try walk_nrm)
        refine opsC_index4 (v := .int .i64 (l3 : Int)) hS rfl rfl rfl rfl rfl (by decide) rfl (by (with_reducible simp only [Act.put, Act.eval, Array.getD_eq_getD_getElem?, List.getElem?_toArray, List.getElem_toArray, List.getElem_cons_zero, List.getElem_cons_succ, List.getElem?_cons_zero, List.getElem?_cons_succ, Option.getD_some, List.setIfInBounds_toArray, List.set_cons_zero, List.set_cons_succ]); exact rfl) ?_
        repeat first
          | refine opsC_moveA hS rfl rfl (.inl rfl) ?_
          | refine opsC_moveA hS rfl rfl (.inr rfl) ?_
          | refine opsC_binA hS rfl rfl rfl rfl rfl rfl ?_
          | refine opsC_lenA hS rfl rfl rfl (by kernel_rfl) rfl ?_
          | (refine opsC_plain hS rfl rfl fun _ K hK => ?_; go_simp; refine hK _ (by simp [go_sem, events_cap_slice, events_slice_hi, *]) ?_; clear hK K; try walk_nrm)
        refine opsC_nil hS ?_
        show WpC _ _ _ _ _ _ _
        refine wpC_seq hS ?_
        refine wpC_seq hS ?_
        refine wpC_region hS ?_
        simp only [List.size_toArray, List.length_cons, List.length_nil, Nat.reduceAdd, Nat.zero_add, List.range, List.range.loop]
        repeat first
          | refine opsC_moveA hS rfl rfl (.inl rfl) ?_
          | refine opsC_moveA hS rfl rfl (.inr rfl) ?_
          | refine opsC_binA hS rfl rfl rfl rfl rfl rfl ?_
          | refine opsC_lenA hS rfl rfl rfl (by kernel_rfl) rfl ?_
          | (refine opsC_plain hS rfl rfl fun _ K hK => ?_; go_simp; refine hK _ (by simp [go_sem, events_cap_slice, events_slice_hi, *]) ?_; clear hK K; try walk_nrm)
        refine opsC_nil hS ?_
        show WpC _ _ _ _ _ _ _
        by_cases hz : l3 = 0
        · subst hz
          refine wpC_cond (t := true) hS rfl ?_
          simp only [if_true, if_false, Bool.false_eq_true]
          refine wpC_exit hS ?_
          show WpC _ _ _ _ _ _ _
          refine wpC_region hS ?_
          simp only [List.size_toArray, List.length_cons, List.length_nil, Nat.reduceAdd, Nat.zero_add, List.range, List.range.loop]
          repeat first
            | refine opsC_moveA hS rfl rfl (.inl rfl) ?_
            | refine opsC_moveA hS rfl rfl (.inr rfl) ?_
            | refine opsC_binA hS rfl rfl rfl rfl rfl rfl ?_
            | refine opsC_lenA hS rfl rfl rfl (by kernel_rfl) rfl ?_
            | (refine opsC_plain hS rfl rfl fun _ K hK => ?_; go_simp; refine hK _ (by simp [go_sem, events_cap_slice, events_slice_hi, *]) ?_; clear hK K; try walk_nrm)
          refine opsC_nil hS ?_
          show LoopC _ _ _ _ _ _ _
          refine hN _ _ _ ⟨⟨_, _, _, _, _, _, _, _, _, _, _, _, _, _, _, _, _, _, _, _, _, _, _, _, _, _, _, _, _, _, _, rfl⟩, hix.trans (congrArg (· ++ xs) (wrem_zero t b [l0, l1, l2, 0] 3 (by omega) rfl)), hup, hth⟩
        · have hz' : ((l3 : Int) == 0) = false := by simp; omega
          refine wpC_cond (t := false) hS (congrArg Value.bool hz') ?_
          simp only [if_true, if_false, Bool.false_eq_true]
          refine wpC_skip hS ?_
          show WpC _ _ _ _ _ _ _
          refine wpC_seq hS ?_
          refine wpC_region hS ?_
          simp only [List.size_toArray, List.length_cons, List.length_nil, Nat.reduceAdd, Nat.zero_add, List.range, List.range.loop]
          refine opsC_loadrow hS rfl rfl rfl (by kernel_rfl) (cs := #[.int .i64 (l0 : Int), .int .i64 (l1 : Int), .int .i64 (l2 : Int), .int .i64 (l3 : Int)]) info4 rfl (.inr (hup.up gb hm2)) ((hup.rl.keep gb (.inr hm2)).trans hcb) ?_
          obtain ⟨iA, hiA, hpA⟩ := Option.map_eq_some_iff.1 infoA
          simp only [Prod.mk.injEq] at hpA
          refine opsC_alloc hS rfl rfl rfl hiA hpA.1 fun wa ha => ?_
          refine opsC_storerow (old := #[.int .i64 0, .int .i64 0, .int .i64 0, .int .i64 0]) (cs := #[.int .i64 (l0 : Int), .int .i64 (l1 : Int), .int .i64 (l2 : Int), .int .i64 (l3 : Int)]) (g := wa.heap.size) (t := 63) hS rfl rfl rfl info4 rfl (one4 _ _ _ _) rfl rfl (.inr ⟨Nat.le_refl _, by rw [World.size_alloc]; exact Nat.lt_succ_self _⟩) (heap_alloc_new _ _) fun wb hb => ?_
          obtain ⟨gr, hgr⟩ : ∃ gr, gr = wa.heap.size := ⟨_, rfl⟩
          rw [← hgr]
          obtain ⟨w3, hw3⟩ : ∃ w3, w3 = wb.setRow gr #[.int .i64 (l0 : Int), .int .i64 (l1 : Int), .int .i64 (l2 : Int), .int .i64 (l3 : Int)] := ⟨_, rfl⟩
          rw [← hw3]
          have hgA : wa.grownBy (wa.alloc (.cells (Value.cells (.agg #[.int .i64 0, .int .i64 0, .int .i64 0, .int .i64 0])) 63)) none := World.grownBy_alloc _ _ _
          obtain ⟨wz, hwz⟩ : ∃ wz, wz = wa.alloc (.cells (Value.cells (.agg #[.int .i64 0, .int .i64 0, .int .i64 0, .int .i64 0])) 63) := ⟨_, rfl⟩
          have hcz : wz.heap[gr]? = some (.cells #[.int .i64 0, .int .i64 0, .int .i64 0, .int .i64 0] 63 (0, 0)) := by rw [hwz, hgr]; exact heap_alloc_new _ _
          have hsz : wa.heap.size < wz.heap.size := by rw [hwz, World.size_alloc]; exact Nat.lt_succ_self _
          rw [← hwz] at hb hgA ⊢
          have fw3 := (Fwd.refl Sh w M).grown ha hgA (fun k hk => by cases hk) hth
          have th3 := hth.grown ha hgA.size
          have mgr : grow M.2 wa wz gr := .inr ⟨by omega, by omega⟩
          obtain ⟨M3, hM3⟩ : ∃ M3, M3 = grow M.2 wa wz := ⟨_, rfl⟩
          rw [← hM3] at hb fw3 th3 mgr ⊢
          have hcb3 : wb.heap[gr]? = some (.cells #[.int .i64 0, .int .i64 0, .int .i64 0, .int .i64 0] 63 (0, 0)) := (hb.keep gr (.inr mgr)).trans hcz
          have hc3 : w3.heap[gr]? = some (.cells #[.int .i64 (l0 : Int), .int .i64 (l1 : Int), .int .i64 (l2 : Int), .int .i64 (l3 : Int)] 63 (0, 0)) := by rw [hw3]; exact setRow_heap _ _ _ _ _ _ hcb3
          have gs3 : wb.grownBy w3 (some gr) := by rw [hw3]; exact grownBy_setRow _ _ _
          have es3 : w3.heap.size = wb.heap.size := by rw [hw3]; simp [World.setRow]
          have ha' := ha.size
          have fw3' := fw3.grown hb gs3 (fun k hk => by cases hk; have := ha.size; omega) hth
          have th3' : There Sh w3 ((M.1, M3) : Gh (List (List Int))) := fun k hk => by have := th3 k hk; have := hb.size; omega
          rw [grow_self _ wb w3 es3] at fw3'
          clear hwz hw3 hM3 gs3 es3 hcb3 hsz hgA fw3 hcz hb ha th3
          refine opsC_nil hS ?_
          show WpC _ _ _ _ _ _ _
          refine wpC_seq hS ?_
          refine wpC_region hS ?_
          simp only [List.size_toArray, List.length_cons, List.length_nil, Nat.reduceAdd, Nat.zero_add, List.range, List.range.loop]
          first
            | refine opsC_moveA hS rfl rfl (.inl rfl) ?_
            | refine opsC_moveA hS rfl rfl (.inr rfl) ?_
            | refine opsC_binA hS rfl rfl rfl rfl rfl rfl ?_
            | refine opsC_lenA hS rfl rfl rfl (by kernel_rfl) rfl ?_
            | (refine opsC_plain hS rfl rfl fun _ K hK => ?_; go_simp; refine hK _ (by simp [go_sem, events_cap_slice, events_slice_hi, *]) ?_; clear hK K; try walk_nrm)
          refine opsC_indexP4 (g := gr) (j := 3) hS rfl rfl rfl rfl rfl rfl (by omega) (by (with_reducible simp only [Act.put, Act.eval, Array.getD_eq_getD_getElem?, List.getElem?_toArray, List.getElem_toArray, List.getElem_cons_zero, List.getElem_cons_succ, List.getElem?_cons_zero, List.getElem?_cons_succ, Option.getD_some, List.setIfInBounds_toArray, List.set_cons_zero, List.set_cons_succ]); exact rfl) ?_
          refine opsC_load (ad := ⟨gr, 3, none⟩) (v := .int .i64 (l3 : Int)) hS rfl rfl rfl (by kernel_rfl) rfl (.inr mgr) (by rw [cell_of_row w3 gr 3 _ _ _ hc3]; rfl) ?_
          have ew : IntKind.i64.wrap ((l3 : Int) - 1) = ((l3 - 1 : Nat) : Int) := by
            have : l3 ≤ 100 := by simp at hsum; omega
            rw [IntKind.wrap_i64]; omega
          first
            | refine opsC_moveA hS rfl rfl (.inl rfl) ?_
            | refine opsC_moveA hS rfl rfl (.inr rfl) ?_
            | refine opsC_binA hS rfl rfl rfl rfl rfl rfl ?_
            | refine opsC_lenA hS rfl rfl rfl (by kernel_rfl) rfl ?_
            | (refine opsC_plain hS rfl rfl fun _ K hK => ?_; go_simp; refine hK _ (by simp [go_sem, events_cap_slice, events_slice_hi, *]) ?_; clear hK K; try walk_nrm)
          rw [ew]
          refine opsC_indexP4 (g := gr) (j := 3) hS rfl rfl rfl rfl rfl rfl (by omega) (by (with_reducible simp only [Act.put, Act.eval, Array.getD_eq_getD_getElem?, List.getElem?_toArray, List.getElem_toArray, List.getElem_cons_zero, List.getElem_cons_succ, List.getElem?_cons_zero, List.getElem?_cons_succ, Option.getD_some, List.setIfInBounds_toArray, List.set_cons_zero, List.set_cons_succ]); exact rfl) ?_
          refine opsC_store (ad := ⟨gr, 3, none⟩) (v := .int .i64 ((l3 - 1 : Nat) : Int)) (u := .int .i64 (l3 : Int)) hS rfl rfl rfl (by kernel_rfl) rfl rfl rfl rfl mgr (by rw [cell_of_row w3 gr 3 _ _ _ hc3]; rfl) (by simp [World.frozen?, hc3]) fun wc hc => ?_
          obtain ⟨w4, hw4⟩ : ∃ w4, w4 = wc.setCell ⟨gr, 3, none⟩ (.int .i64 ((l3 - 1 : Nat) : Int)) := ⟨_, rfl⟩
          rw [← hw4]
          have hcc : wc.heap[gr]? = some (.cells #[.int .i64 (l0 : Int), .int .i64 (l1 : Int), .int .i64 (l2 : Int), .int .i64 (l3 : Int)] 63 (0, 0)) := (hc.keep gr (.inr mgr)).trans hc3
          have hc4 : w4.heap[gr]? = some (.cells (cellsOf [l0, l1, l2, l3 - 1]) 63 (0, 0)) := by
            rw [hw4, setCell_eq_setRow wc gr 3 _ _ _ _ hcc]
            exact setRow_heap _ _ _ _ _ _ hcc
          have gs4 : wc.grownBy w4 (some gr) := by rw [hw4]; exact grownBy_setCell _ _ _
          have es4 : w4.heap.size = wc.heap.size := by rw [hw4]; exact setCell_size _ _ _
          have hgw : w.heap.size ≤ gr := by have := ha'; omega
          have fw4 := fw3'.grown hc gs4 (fun k hk => by cases hk; exact hgw) hth
          have th4 : There Sh w4 ((M.1, M3) : Gh (List (List Int))) := fun k hk => by have := th3' k hk; have := hc.size; omega
          rw [grow_self _ wc w4 es4] at fw4
          clear hw4 gs4 es4 hcc hc
          refine opsC_nil hS ?_
          show WpC _ _ _ _ _ _ _
          have ex : M.1 = wgo t (b ++ [(3 : Int)]) [l0, l1, l2, l3 - 1] ++ (wrem t b [l0, l1, l2, l3] (3 + 1) ++ xs) := by
            rw [hix, wrem_pos t b [l0, l1, l2, l3] 3 (by omega) hz, List.append_assoc]
            rfl
          rw [ex] at fw4 th4 ⊢
          have ow4 := (hu.up (up2.trans hup)).up fw4.to_up
          refine reg9 (u := u) (b := b) (x := 3) (gr := gr) (L' := [l0, l1, l2, l3 - 1]) (by have := hup.rl.size; have := up2.rl.size; have := fw4.rl.size; omega) th4 ⟨rfl, ⟨_, rfl, rfl, rfl, rfl⟩, ⟨_, rfl, rfl, rfl, rfl⟩, ⟨_, rfl, rfl, rfl, rfl⟩, ⟨_, rfl, rfl, rfl, rfl, ?_⟩, ⟨_, rfl, rfl, rfl, rfl, ?_, ?_⟩, ⟨_, rfl, rfl, rfl, rfl, ?_⟩, ⟨_, rfl, rfl, rfl, rfl⟩, ⟨_, rfl, rfl, ⟨_, rfl⟩, ?_, ?_, ?_, ?_⟩⟩ (by omega) rfl ?_ (fun wq Mq uq hBq htq huq => ih t rfl (b ++ [(3 : Int)]) [l0, l1, l2, l3 - 1] uq wq Mq _ rfl (by simp at hsum ⊢; omega) (by simp; omega) hSh hBq htq huq) rfl rfl rfl rfl rfl rfl ow4 mgr hc4 ?_
          · first | exact ⟨_, Array.mem_of_getElem? (i := 0) rfl, rfl, rfl⟩ | exact ⟨_, Array.mem_of_getElem? (i := 1) rfl, rfl, rfl⟩ | exact ⟨_, Array.mem_of_getElem? (i := 2) rfl, rfl, rfl⟩ | exact ⟨_, Array.mem_of_getElem? (i := 3) rfl, rfl, rfl⟩
          · first | exact ⟨_, Array.mem_of_getElem? (i := 0) rfl, rfl, rfl⟩ | exact ⟨_, Array.mem_of_getElem? (i := 1) rfl, rfl, rfl⟩ | exact ⟨_, Array.mem_of_getElem? (i := 2) rfl, rfl, rfl⟩ | exact ⟨_, Array.mem_of_getElem? (i := 3) rfl, rfl, rfl⟩
          · first | exact ⟨_, Array.mem_of_getElem? (i := 0) rfl, rfl, rfl⟩ | exact ⟨_, Array.mem_of_getElem? (i := 1) rfl, rfl, rfl⟩ | exact ⟨_, Array.mem_of_getElem? (i := 2) rfl, rfl, rfl⟩ | exact ⟨_, Array.mem_of_getElem? (i := 3) rfl, rfl, rfl⟩
          · first | exact ⟨_, Array.mem_of_getElem? (i := 0) rfl, rfl, rfl⟩ | exact ⟨_, Array.mem_of_getElem? (i := 1) rfl, rfl, rfl⟩ | exact ⟨_, Array.mem_of_getElem? (i := 2) rfl, rfl, rfl⟩ | exact ⟨_, Array.mem_of_getElem? (i := 3) rfl, rfl, rfl⟩
          · first | exact ⟨_, Array.mem_of_getElem? (i := 0) rfl, rfl, rfl⟩ | exact ⟨_, Array.mem_of_getElem? (i := 1) rfl, rfl, rfl⟩ | exact ⟨_, Array.mem_of_getElem? (i := 2) rfl, rfl, rfl⟩ | exact ⟨_, Array.mem_of_getElem? (i := 3) rfl, rfl, rfl⟩
          · first | exact ⟨_, Array.mem_of_getElem? (i := 0) rfl, rfl, rfl⟩ | exact ⟨_, Array.mem_of_getElem? (i := 1) rfl, rfl, rfl⟩ | exact ⟨_, Array.mem_of_getElem? (i := 2) rfl, rfl, rfl⟩ | exact ⟨_, Array.mem_of_getElem? (i := 3) rfl, rfl, rfl⟩
          · first | exact ⟨_, Array.mem_of_getElem? (i := 0) rfl, rfl, rfl⟩ | exact ⟨_, Array.mem_of_getElem? (i := 1) rfl, rfl, rfl⟩ | exact ⟨_, Array.mem_of_getElem? (i := 2) rfl, rfl, rfl⟩ | exact ⟨_, Array.mem_of_getElem? (i := 3) rfl, rfl, rfl⟩
          · first | exact .inl rfl | exact .inr rfl
          · intro L hL
            obtain ⟨b0, b1, b2, b3, b4, b5, b6, b7, rfl⟩ := arr8 hL
            clear hL
            revert b0 b1 b2 b3 b4 b5 b6 b7
            exact of_decide_eq_true (by kernel_rfl)
          · intro a w' M' hsz hdf heq hix' hup' hrl hth'
            obtain ⟨tm, df⟩ := a
            simp only at hsz hdf
            subst hdf
            obtain ⟨y0, y1, y2, y3, y4, y5, y6, y7, y8, y9, y10, y11, y12, y13, y14, y15, y16, y17, y18, y19, y20, y21, y22, y23, y24, y25, y26, y27, y28, y29, y30, y31, y32, y33, y34, y35, rfl⟩ := arr36 hsz
            have q0 : y0 = .chan (some c) := heq 0 (by omega)
            have q1 : y1 = u := heq 1 (by omega)
            have q5 : y5 = .pointer (some ⟨gb, 0, none⟩) := heq 5 (by omega)
            have q14 : y14 = .agg #[.int .i64 (l0 : Int), .int .i64 (l1 : Int), .int .i64 (l2 : Int), .int .i64 (l3 : Int)] := heq 14 (by omega)
            have q15 : y15 = .int .i64 3 := heq 15 (by omega)
            clear heq
            subst q0 q1 q5 q14 q15
            show WpC _ _ _ _ _ _ _
            refine wpC_region hS ?_
            simp only [List.size_toArray, List.length_cons, List.length_nil, Nat.reduceAdd, Nat.zero_add, List.range, List.range.loop]
            repeat first
              | refine opsC_moveA hS rfl rfl (.inl rfl) ?_
              | refine opsC_moveA hS rfl rfl (.inr rfl) ?_
              | refine opsC_binA hS rfl rfl rfl rfl rfl rfl ?_
              | refine opsC_lenA hS rfl rfl rfl (by kernel_rfl) rfl ?_
              | (refine opsC_plain hS rfl rfl fun _ K hK => ?_; go_simp; refine hK _ (by simp [go_sem, events_cap_slice, events_slice_hi, *]) ?_; clear hK K; try walk_nrm)
            refine opsC_nil hS ?_
            show LoopC _ _ _ _ _ _ _
            exact hN _ _ _ ⟨⟨_, _, _, _, _, _, _, _, _, _, _, _, _, _, _, _, _, _, _, _, _, _, _, _, _, _, _, _, _, _, _, rfl⟩, hix', ⟨fun k hk => hup' k (fw4.up k (hup.up k hk)), hup.rl.trans ((fw4.rl.trans (hrl.mono fw4.up)).mono hup.up)⟩, hth'⟩
    · intro a w M hI
      obtain ⟨⟨x2, x3, x4, x6, x7, x8, x9, x10, x11, x12, x13, x16, x17, x18, x19, x20, x21, x22, x23, x24, x25, x26, x27, x28, x29, x30, x31, x32, x33, x34, x35, rfl⟩, hix, hup, hth⟩ := hI
      refine loopC_round hS ?_
      refine wpC_seq hS ?_
      refine wpC_region hS ?_
      simp only [List.size_toArray, List.length_cons, List.length_nil, Nat.reduceAdd, Nat.zero_add, List.range, List.range.loop]
      repeat first
        | refine opsC_moveA hS rfl rfl (.inl rfl) ?_
        | refine opsC_moveA hS rfl rfl (.inr rfl) ?_
        | refine opsC_binA hS rfl rfl rfl rfl rfl rfl ?_
        | refine opsC_lenA hS rfl rfl rfl (by kernel_rfl) rfl ?_
        | (refine opsC_plain hS rfl rfl fun _ K hK => ?_; go_simp; refine hK _ (by simp [go_sem, events_cap_slice, events_slice_hi, *]) ?_; clear hK K; try walk_nrm)
      refine opsC_nil hS ?_
      show WpC _ _ _ _ _ _ _
      refine wpC_seq hS ?_
      refine wpC_cond (t := false) hS rfl ?_
      simp only [if_true, if_false, Bool.false_eq_true]
      refine wpC_exit hS ?_
      show _ ∧ _
      refine ⟨rfl, _, resultsC_none rfl _, hix, fun k hk _ => hup.up k (up2.up k hk), (up2.trans hup).rl.mono fun k hk => hk.1, hth⟩

theorem send_all {c B : Nat} {Sh : Nat → Prop} : ∀ t, SendOK c B Sh t
  | 0 => send_step 0 fun t' e => by omega
  | t + 1 => send_step (t + 1) fun t' e => by
    have h := send_all (c := c) (B := B) (Sh := Sh) t
    have e' : t = t' := by omega
    exact e' ▸ h

end Go.Proofs.Ytjphaphnmclbcaa

/- The goroutine that wordsOf starts: it sends all words and closes the channel. No condition. -/
namespace Go.Proofs.Ytjphaphnmclbcaa
open Go Go.Conc Go.RowKit

theorem fw_body : ∃ r0 ops, Try.f104.body = some (.seq (.region 0 r0 false) (.region 1 ops false)) := ⟨_, _, rfl⟩

set_option linter.unusedSimpArgs false in
set_option maxHeartbeats 4000000 in
theorem child_snd {c B : Nat} {Sh : Nat → Prop} (L : List Nat) (gw gc : Nat) (w : World) (hL : L.length = 4) (hs : L.sum ≤ 100) (hSh : ∀ k, Sh k → k < B) (hB : B ≤ w.heap.size) (hgw : Sh gw) (hgc : Sh gc)
    (hcw : w.cell? ⟨gw, 0, none⟩ = some (.chan (some c))) (hcc : w.heap[gc]? = some (.cells (cellsOf L) 63 (0, 0))) :
    SndF Try.prog c Sh (PhiW B) (wgo L.sum [] L, fun _ => False) (born Try.prog { target := .fn (.func 104) #[.pointer (some ⟨gw, 0, none⟩), .pointer (some ⟨gc, 0, none⟩)], args := #[] }) w := by
  have hS : Fam Try.prog false Sh (SndF Try.prog c Sh (PhiW B)) := fam_snd (phiW_keeps B)
  refine hS.ctl rfl (born_step Try.func104 (by kernel_rfl) rfl) ?_
  simp only [Try.ntmps104, List.size_toArray, List.length_cons, List.length_nil, Nat.reduceAdd, Nat.reduceSub, Array.replicate_succ,
     Array.replicate_zero, List.push_toArray, List.append_toArray, List.nil_append, List.cons_append]
  refine hS.ctl rfl (fun _ => stepG_seq) ?_
  -- the first region, with what follows known
  have h0 : B ≤ w.heap.size := hB
  refine WpC.at (fn := 104) (b := bDef 104) ?_ rfl (by simp [bDef]) (R := fun a w' M' => a.defers = [] ∧ a.tmps.getD 0 undef = .pointer (some ⟨gw, 0, none⟩) ∧ a.tmps.size = 7 ∧ M'.1 = [] ∧ w'.cell? ⟨gw, 0, none⟩ = some (.chan (some c))) ?_
  · refine wpC_region hS ?_
    simp only [List.size_toArray, List.length_cons, List.length_nil, Nat.reduceAdd, Nat.zero_add, List.range, List.range.loop]
    have kgw : gw < w.heap.size := Nat.lt_of_lt_of_le (hSh gw hgw) hB
    refine opsC_load (ad := ⟨gw, 0, none⟩) (v := .chan (some c)) hS rfl rfl rfl (by kernel_rfl) rfl (.inl hgw) hcw ?_
    obtain ⟨i0, hii, hz0, hz1, hz2⟩ := info_parts infoI
    refine opsC_buildSlice (cells := #[]) hS rfl rfl rfl Try.underlying23 hii hz0 hz1 (by omega) (by simp [Instr.fill]) fun w₁ h₁ => ?_
    obtain ⟨w2, hw2⟩ : ∃ w2, w2 = w₁.alloc (.cells #[] 3) := ⟨_, rfl⟩
    rw [← hw2]
    have hgb : w₁.grownBy w2 none := by rw [hw2]; exact World.grownBy_alloc _ _ _
    have hsz : w₁.heap.size < w2.heap.size := by rw [hw2, World.size_alloc]; exact Nat.lt_succ_self _
    have hok : There Sh w ((wgo L.sum [] L, fun _ => False) : Gh (List (List Int))) := fun k hk => by
      rcases hk with hk | hk
      · have := hSh k hk; omega
      · exact hk.elim
    have fw := (Fwd.refl Sh w ((wgo L.sum [] L, fun _ => False) : Gh (List (List Int)))).grown h₁ hgb (fun k hk => by cases hk) hok
    have th := hok.grown h₁ hgb.size
    have hs1 := h₁.size
    have own : Own w2 B (.slice (some ⟨w₁.heap.size, 0, none⟩) 0 0) [] := by rw [hw2]; exact World.ownsRow_lit w₁ #[] 0 (by omega) (Nat.zero_le _) rfl
    have mine : grow (fun _ => False) w₁ w2 w₁.heap.size := .inr ⟨Nat.le_refl _, hsz⟩
    simp only [] at fw th ⊢
    obtain ⟨M2, hM2⟩ : ∃ M2, M2 = grow (fun _ => False) w₁ w2 := ⟨_, rfl⟩
    rw [← hM2] at fw th mine ⊢
    obtain ⟨gu, hgu⟩ : ∃ gu, gu = w₁.heap.size := ⟨_, rfl⟩
    rw [← hgu] at own mine ⊢
    have hcw2 : w2.cell? ⟨gw, 0, none⟩ = some (.chan (some c)) := (fw.cell (ad := ⟨gw, 0, none⟩) (.inl hgw)).trans hcw
    have hcc2 : w2.heap[gc]? = some (.cells (cellsOf L) 63 (0, 0)) := (fw.rl.keep gc (.inl hgc)).trans hcc
    clear hw2 hgb hM2 hgu h₁ hsz
    have hcs : (cellsOf L).size = 4 := by simp [cellsOf, hL]
    refine opsC_loadrow (cs := cellsOf L) hS rfl rfl rfl (by kernel_rfl) (by rw [hcs]; exact info4) rfl (.inl hgc) hcc2 ?_
    have hsend := send_all (c := c) (B := B) (Sh := Sh) L.sum [] L (.slice (some ⟨gu, 0, none⟩) 0 0) w2 M2 [] hL rfl (by simp; omega) hSh (by have := fw.rl.size; omega)
    simp only [List.append_nil] at hsend
    have hsend := hsend th ⟨own, fun k hk => by cases hk; exact mine, by simp⟩
    refine opsC_callF hS rfl rfl rfl Try.func105 (by kernel_rfl) rfl (by simp only [List.map_toArray, List.map_cons, List.map_nil]; rfl) (hsend) ?_
    intro v w' M' m
    refine opsC_nil hS ⟨rfl, rfl, rfl, rfl, m.ix, ?_⟩
    rw [← hcw2]
    exact cell_eq (m.rl.keep gw (.inl hgw))
  · rintro a w' ⟨Mi, M'⟩ ⟨hd, h0', hsz, hix, hcw'⟩
    simp only at hix
    subst hix
    refine hS.ctl rfl (fun _ => stepG_region) ?_
    simp only [List.size_toArray, List.length_cons, List.length_nil, Nat.reduceAdd, Nat.zero_add, List.range, List.range.loop]
    refine raw_load (ad := ⟨gw, 0, none⟩) (v := .chan (some c)) hS (by simp [bDef]) rfl rfl rfl (by kernel_rfl) h0' (.inl hgw) hcw' ?_
    refine shut_at (x := .tmp 6) rfl rfl (by simp [bDef]) rfl ?_ ?_ ?_ (quits_def Try.func104 rfl ?_)
    · show (a.put (some 6) (.chan (some c))).tmps.getD 6 undef = _
      rw [put_getD (by omega)]
      rfl
    · rw [show (bDef 104).fn = 104 from rfl, Try.func104]
      rfl
    · simp [mayWake, G, Frame.at]
    · show (((a.put (some 6) (.chan (some c))).put none (.tuple #[])) : Act).defers = []
      rw [put_defers, put_defers]
      exact hd

end Go.Proofs.Ytjphaphnmclbcaa

/- No operation of the kinds that the programs with channels use lists a mark that makes a goroutine deaf, asks the system, or stops otherwise than by a panic or for good. No condition. -/
namespace Go.Proofs.Ytjphaphnmclbcaa
open Go Go.Conc

/-- It asks the system nothing, says nothing that makes deaf, and stops by a panic or for good alone. -/
def Tame {α : Type} : Sem α → Prop
  | .pure _ => True
  | .load _ _ k => ∀ v, Tame (k v)
  | .store _ _ _ k => Tame k
  | .new _ k => ∀ r, Tame (k r)
  | .shape _ k => ∀ s, Tame (k s)
  | .freeze _ _ k => Tame k
  | .frozen _ k => ∀ b, Tame (k b)
  | .getObj _ k => ∀ o, Tame (k o)
  | .setObj _ _ k => Tame k
  | .choose _ k => ∀ n, Tame (k n)
  | .sys c k => c = .env ∧ ∀ r, Tame (k r)
  | .program k => ∀ p, Tame (k p)
  | .mark m k => m ≠ .disable ∧ m ≠ .enable ∧ Tame k
  | .halt (.panic _) => True
  | .halt (.stuck _) => True
  | .halt (.unsupported _) => True
  | .halt _ => False

theorem tame_bind {α β : Type} {x : Sem α} {f : α → Sem β} (hx : Tame x) (hf : ∀ a, Tame (f a)) : Tame (x >>= f) := by
  show Tame (x.bind f)
  induction x with
  | pure a => exact hf a
  | load m a k ih => exact fun v => ih v (hx v)
  | store m a v k ih => exact ih hx
  | new o k ih => exact fun v => ih v (hx v)
  | shape r k ih => exact fun v => ih v (hx v)
  | freeze a n k ih => exact ih hx
  | frozen a k ih => exact fun v => ih v (hx v)
  | getObj r k ih => exact fun v => ih v (hx v)
  | setObj r o k ih => exact ih hx
  | choose q k ih => exact fun v => ih v (hx v)
  | sys c k ih => exact ⟨hx.1, fun r => ih r (hx.2 r)⟩
  | program k ih => exact fun v => ih v (hx v)
  | mark m k ih => exact ⟨hx.1, hx.2.1, ih hx.2.2⟩
  | halt h => cases h <;> first | exact trivial | exact hx.elim
theorem tame_map {α β : Type} {x : Sem α} {f : α → β} (hx : Tame x) : Tame (f <$> x) := tame_bind hx fun _ => trivial
theorem tame_ite {α : Type} {c : Prop} [Decidable c] {a b : Sem α} (ha : Tame a) (hb : Tame b) : Tame (if c then a else b) := by split <;> assumption
theorem tame_pure {α : Type} (a : α) : Tame (pure a : Sem α) := trivial
theorem tame_stuck {α : Type} (s : String) : Tame (stuck s : Sem α) := trivial
theorem tame_unsupported {α : Type} (u : Unsupported) : Tame (unsupported u : Sem α) := trivial
theorem tame_goPanic {α : Type} (v : Value) : Tame (goPanic v : Sem α) := trivial
theorem tame_program : Tame program := fun _ => trivial
theorem tame_load (a : Addr) (m : Mode) : Tame (load a m) := fun _ => trivial
theorem tame_store (a : Addr) (v : Value) (m : Mode) : Tame (store a v m) := trivial
theorem tame_newObj (o : Obj) : Tame (newObj o) := fun _ => trivial
theorem tame_shape (r : Nat) : Tame (shape r) := fun _ => trivial
theorem tame_frozen (a : Addr) : Tame (frozen a) := fun _ => trivial
theorem tame_freeze (a : Addr) (n : Nat) : Tame (freeze a n) := trivial
theorem tame_getObj (r : Nat) : Tame (getObj r) := fun _ => trivial
theorem tame_choose (q : Question) : Tame (choose q) := fun _ => trivial
theorem tame_env : Tame (sys .env) := ⟨rfl, fun _ => trivial⟩
theorem tame_forInL {α β : Type} (f : α → β → Sem (ForInStep β)) (hf : ∀ a b, Tame (f a b)) : ∀ (l : List α) (b : β), Tame (forIn l b f)
  | [], b => by rw [List.forIn_nil]; trivial
  | a :: l, b => by
    rw [List.forIn_cons]
    refine tame_bind (hf a b) fun r => ?_
    cases r with
    | done b => trivial
    | yield b => exact tame_forInL f hf l b
theorem tame_forInA {α β : Type} {f : α → β → Sem (ForInStep β)} (l : Array α) (b : β) (hf : ∀ a b, Tame (f a b)) : Tame (forIn l b f) := by
  rw [← Array.forIn_toList]; exact tame_forInL f hf _ _
theorem tame_forInR {β : Type} {f : Nat → β → Sem (ForInStep β)} (n : Nat) (b : β) (hf : ∀ a b, Tame (f a b)) : Tame (forIn [0:n] b f) := by
  rw [Std.Legacy.Range.forIn_eq_forIn_range']; exact tame_forInL f hf _ _
theorem tame_mapML {α β : Type} {f : α → Sem β} (hf : ∀ a, Tame (f a)) : ∀ (l : List α), Tame (l.mapM f)
  | [] => by rw [List.mapM_nil]; trivial
  | a :: l => by rw [List.mapM_cons]; exact tame_bind (hf a) fun _ => tame_bind (tame_mapML hf l) fun _ => trivial
theorem tame_mapMA {α β : Type} {f : α → Sem β} (l : Array α) (hf : ∀ a, Tame (f a)) : Tame (l.mapM f) := by
  rw [Array.mapM_eq_mapM_toList]
  exact tame_map (tame_mapML hf _)
theorem tame_noRoom : Tame (mark .noRoom) := ⟨by simp, by simp, trivial⟩
theorem tame_askRoom (b : Nat) : Tame (askRoom b) := by
  unfold askRoom
  repeat' (first
    | with_reducible exact tame_pure _
    | with_reducible refine tame_ite ?_ ?_
    | with_reducible exact tame_noRoom
    | split
    | intro _
    | dsimp only)

theorem tame_viewAt (r : Nat) : Tame (viewAt r) := by
  unfold viewAt
  repeat' (first
    | with_reducible refine tame_bind ?_ (fun _ => ?_)
    | with_reducible exact tame_pure _
    | with_reducible refine tame_ite ?_ ?_
    | with_reducible exact tame_shape _
    | with_reducible exact tame_getObj _
    | split
    | intro _
    | dsimp only)

theorem tame_numberAt (r : Nat) : Tame (numberAt r) := by
  unfold numberAt
  repeat' (first
    | with_reducible refine tame_bind ?_ (fun _ => ?_)
    | with_reducible exact tame_pure _
    | with_reducible refine tame_ite ?_ ?_
    | with_reducible exact tame_shape _
    | with_reducible exact tame_getObj _
    | split
    | intro _
    | dsimp only)

theorem tame_cellsIn (r : Nat) : Tame (cellsIn r) := by
  unfold cellsIn
  repeat' (first
    | with_reducible refine tame_bind ?_ (fun _ => ?_)
    | with_reducible exact tame_pure _
    | with_reducible exact tame_shape _
    | with_reducible exact tame_getObj _
    | split
    | intro _
    | dsimp only)

theorem tame_asNumber (a : Addr) (b : Bool) : Tame (asNumber a b) := by
  unfold asNumber
  repeat' (first
    | with_reducible refine tame_bind ?_ (fun _ => ?_)
    | with_reducible exact tame_pure _
    | with_reducible exact tame_newObj _
    | split
    | intro _
    | dsimp only)

theorem tame_behindNumber (a : Addr) : Tame (behindNumber a) := by
  unfold behindNumber
  repeat' (first
    | with_reducible refine tame_bind ?_ (fun _ => ?_)
    | with_reducible exact tame_pure _
    | with_reducible exact tame_numberAt _
    | split
    | intro _
    | dsimp only)

theorem tame_backFromNumber (a : Addr) : Tame (backFromNumber a) := by
  unfold backFromNumber
  repeat' (first
    | with_reducible exact tame_unsupported _
    | with_reducible refine tame_bind ?_ (fun _ => ?_)
    | with_reducible exact tame_pure _
    | with_reducible refine tame_ite ?_ ?_
    | with_reducible exact tame_behindNumber _
    | split
    | intro _
    | dsimp only)

theorem tame_noView (a : Addr) : Tame (noView a) := by
  unfold noView
  repeat' (first
    | with_reducible exact tame_unsupported _
    | with_reducible refine tame_bind ?_ (fun _ => ?_)
    | with_reducible exact tame_pure _
    | with_reducible refine tame_ite ?_ ?_
    | with_reducible exact tame_viewAt _
    | split
    | intro _
    | dsimp only)

theorem tame_markStringish (a : Addr) : Tame (markStringish a) := by
  unfold markStringish
  repeat' (first
    | with_reducible refine tame_bind ?_ (fun _ => ?_)
    | with_reducible exact tame_pure _
    | with_reducible exact tame_shape _
    | with_reducible exact tame_freeze _ _
    | split
    | intro _
    | dsimp only)

theorem tame_stringish (a : Addr) : Tame (stringish a) := by
  unfold stringish
  repeat' (first
    | with_reducible refine tame_bind ?_ (fun _ => ?_)
    | with_reducible exact tame_pure _
    | with_reducible refine tame_ite ?_ ?_
    | with_reducible exact tame_shape _
    | with_reducible exact tame_frozen _
    | split
    | intro _
    | dsimp only)

theorem tame_mayBeOne (a b : Addr) : Tame (mayBeOne a b) := by
  unfold mayBeOne
  repeat' (first
    | with_reducible refine tame_bind ?_ (fun _ => ?_)
    | with_reducible exact tame_pure _
    | with_reducible exact tame_shape _
    | with_reducible exact tame_stringish _
    | split
    | intro _
    | dsimp only)

theorem tame_sameAddr (a b : Addr) : Tame (sameAddr a b) := by
  unfold sameAddr
  repeat' (first
    | with_reducible exact tame_unsupported _
    | with_reducible refine tame_bind ?_ (fun _ => ?_)
    | with_reducible exact tame_pure _
    | with_reducible refine tame_ite ?_ ?_
    | with_reducible exact tame_frozen _
    | with_reducible exact tame_choose _
    | with_reducible exact tame_noView _
    | with_reducible exact tame_mayBeOne _ _
    | split
    | intro _
    | dsimp only)

theorem tame_samePointer (a b : Option Addr) : Tame (samePointer a b) := by
  unfold samePointer
  repeat' (first
    | with_reducible exact tame_pure _
    | with_reducible exact tame_sameAddr _ _
    | split
    | intro _
    | dsimp only)

theorem tame_typeInfo (t : TypeId) : Tame (typeInfo t) := by
  unfold typeInfo
  repeat' (first
    | with_reducible exact tame_stuck _
    | with_reducible refine tame_bind ?_ (fun _ => ?_)
    | with_reducible exact tame_pure _
    | with_reducible exact tame_program
    | split
    | intro _
    | dsimp only)

theorem tame_underlying (t : TypeId) : Tame (underlying t) := by
  unfold underlying
  repeat' (first
    | with_reducible exact tame_stuck _
    | with_reducible refine tame_bind ?_ (fun _ => ?_)
    | with_reducible exact tame_pure _
    | with_reducible exact tame_program
    | split
    | intro _
    | dsimp only)

theorem tame_typeStr (t : TypeId) : Tame (typeStr t) := by
  unfold typeStr
  repeat' (first
    | with_reducible exact tame_unsupported _
    | with_reducible refine tame_bind ?_ (fun _ => ?_)
    | with_reducible exact tame_pure _
    | with_reducible refine tame_ite ?_ ?_
    | with_reducible exact tame_typeInfo _
    | split
    | intro _
    | dsimp only)

theorem tame_zeroValue (t : TypeId) : Tame (zeroValue t) := by
  unfold zeroValue
  repeat' (first
    | with_reducible exact tame_unsupported _
    | with_reducible refine tame_bind ?_ (fun _ => ?_)
    | with_reducible exact tame_pure _
    | with_reducible exact tame_typeInfo _
    | split
    | intro _
    | dsimp only)

theorem tame_sizeOf (t : TypeId) : Tame (Go.sizeOf t) := by
  unfold Go.sizeOf
  repeat' (first
    | with_reducible refine tame_bind ?_ (fun _ => ?_)
    | with_reducible exact tame_pure _
    | with_reducible exact tame_typeInfo _
    | split
    | intro _
    | dsimp only)

theorem tame_isAgg (t : TypeId) : Tame (isAgg t) := by
  unfold isAgg
  repeat' (first
    | with_reducible refine tame_bind ?_ (fun _ => ?_)
    | with_reducible exact tame_pure _
    | with_reducible exact tame_underlying _
    | split
    | intro _
    | dsimp only)

theorem tame_loadCellsFrom (a : Addr) : ∀ (n i : Nat) (acc : Array Value), Tame (loadCellsFrom a i n acc)
  | 0, _, _ => trivial
  | n + 1, i, acc => by unfold loadCellsFrom; exact tame_bind (tame_load _ _) fun _ => tame_loadCellsFrom a n _ _

theorem tame_loadCells (a : Addr) (n : Nat) : Tame (loadCells a n) := tame_loadCellsFrom a n 0 #[]

theorem tame_storeCells (a : Addr) : ∀ (vs : List Value) (i : Nat), Tame (storeCells a vs i)
  | [], _ => by unfold storeCells; trivial
  | v :: vs, i => by unfold storeCells; exact tame_bind (tame_store _ _ _) fun _ => tame_storeCells a vs _

theorem tame_loadVar (t : TypeId) (a : Addr) : Tame (loadVar t a) := by
  unfold loadVar
  repeat' (first
    | with_reducible refine tame_bind ?_ (fun _ => ?_)
    | with_reducible exact tame_pure _
    | with_reducible refine tame_ite ?_ ?_
    | with_reducible exact tame_load _ _
    | with_reducible exact tame_sizeOf _
    | with_reducible exact tame_isAgg _
    | with_reducible exact tame_loadCells _ _
    | split
    | intro _
    | dsimp only)

theorem tame_storeVar (t : TypeId) (a : Addr) (v : Value) : Tame (storeVar t a v) := by
  unfold storeVar
  repeat' (first
    | with_reducible exact tame_stuck _
    | with_reducible refine tame_bind ?_ (fun _ => ?_)
    | with_reducible refine tame_ite ?_ ?_
    | with_reducible exact tame_sizeOf _
    | with_reducible exact tame_storeCells _ _ _
    | split
    | intro _
    | dsimp only)

theorem tame_newRow (t : TypeId) (c : Array Value) : Tame (newRow t c) := by
  unfold newRow
  repeat' (first
    | with_reducible refine tame_bind ?_ (fun _ => ?_)
    | with_reducible exact tame_pure _
    | with_reducible exact tame_newObj _
    | split
    | intro _
    | dsimp only)

theorem tame_newVar (t : TypeId) (v : Value) : Tame (newVar t v) := by
  unfold newVar
  repeat' (first
    | with_reducible exact tame_newRow _ _
    | split
    | intro _
    | dsimp only)

theorem tame_elemOf (t : TypeId) : Tame (elemOf t) := by
  unfold elemOf
  repeat' (first
    | with_reducible exact tame_stuck _
    | with_reducible refine tame_bind ?_ (fun _ => ?_)
    | with_reducible exact tame_pure _
    | with_reducible exact tame_underlying _
    | split
    | intro _
    | dsimp only)

theorem tame_part (t : TypeId) (c : Array Value) (o : Nat) : Tame (part t c o) := by
  unfold part
  repeat' (first
    | with_reducible exact tame_stuck _
    | with_reducible refine tame_bind ?_ (fun _ => ?_)
    | with_reducible exact tame_pure _
    | with_reducible refine tame_ite ?_ ?_
    | with_reducible exact tame_sizeOf _
    | with_reducible exact tame_isAgg _
    | split
    | intro _
    | dsimp only)

theorem tame_runtimePanic {α : Type} (e : RuntimeError) : Tame (runtimePanic e : Sem α) := by
  unfold runtimePanic
  repeat' (first
    | with_reducible refine tame_bind ?_ (fun _ => ?_)
    | with_reducible exact tame_program
    | with_reducible exact tame_goPanic _
    | with_reducible exact tame_newVar _ _
    | with_reducible exact tame_elemOf _
    | split
    | intro _
    | dsimp only)

theorem tame_boundsPanic {α : Type} (k : IntKind) (x y : Int) (c : BoundsCode) : Tame (boundsPanic k x y c : Sem α) := by
  unfold boundsPanic
  repeat' (first
    | with_reducible refine tame_bind ?_ (fun _ => ?_)
    | with_reducible exact tame_pure _
    | with_reducible refine tame_ite ?_ ?_
    | with_reducible exact tame_map (tame_choose _)
    | with_reducible exact tame_choose _
    | with_reducible exact tame_runtimePanic _
    | split
    | intro _
    | dsimp only)

theorem tame_asIntOf (v : Value) : Tame (asIntOf v) := by
  unfold asIntOf
  repeat' (first
    | with_reducible exact tame_stuck _
    | with_reducible exact tame_unsupported _
    | with_reducible exact tame_pure _
    | split
    | intro _
    | dsimp only)

theorem tame_asInt (v : Value) : Tame (asInt v) := by
  unfold asInt
  repeat' (first
    | with_reducible refine tame_bind ?_ (fun _ => ?_)
    | with_reducible exact tame_pure _
    | with_reducible exact tame_asIntOf _
    | split
    | intro _
    | dsimp only)

theorem tame_asBool (v : Value) : Tame (asBool v) := by
  unfold asBool
  repeat' (first
    | with_reducible exact tame_stuck _
    | with_reducible exact tame_pure _
    | split
    | intro _
    | dsimp only)

theorem tame_asString (v : Value) : Tame (asString v) := by
  unfold asString
  repeat' (first
    | with_reducible exact tame_stuck _
    | with_reducible exact tame_pure _
    | split
    | intro _
    | dsimp only)

theorem tame_asAgg (v : Value) : Tame (asAgg v) := by
  unfold asAgg
  repeat' (first
    | with_reducible exact tame_stuck _
    | with_reducible exact tame_pure _
    | split
    | intro _
    | dsimp only)

theorem tame_asAddr (v : Value) : Tame (asAddr v) := by
  unfold asAddr
  repeat' (first
    | with_reducible exact tame_stuck _
    | with_reducible exact tame_pure _
    | with_reducible exact tame_runtimePanic _
    | split
    | intro _
    | dsimp only)

theorem tame_alloc (t : TypeId) (b : Bool) (v : Value) : Tame (Instr.alloc t b v) := by
  unfold Instr.alloc
  repeat' (first
    | with_reducible refine tame_bind ?_ (fun _ => ?_)
    | with_reducible exact tame_pure _
    | with_reducible exact tame_zeroValue _
    | with_reducible exact tame_storeVar _ _ _
    | with_reducible exact tame_newVar _ _
    | split
    | intro _
    | dsimp only)

theorem tame_sureAddr (v : Value) : Tame (Instr.sureAddr v) := by
  unfold Instr.sureAddr
  repeat' (first
    | with_reducible exact tame_stuck _
    | with_reducible exact tame_pure _
    | split
    | intro _
    | dsimp only)

theorem tame_loadAt (t : TypeId) (v : Value) : Tame (Instr.loadAt t v) := by
  unfold Instr.loadAt
  repeat' (first
    | with_reducible refine tame_bind ?_ (fun _ => ?_)
    | with_reducible exact tame_loadVar _ _
    | with_reducible exact tame_sureAddr _
    | split
    | intro _
    | dsimp only)

theorem tame_storeAt (t : TypeId) (a v : Value) : Tame (Instr.storeAt t a v) := by
  unfold Instr.storeAt
  repeat' (first
    | with_reducible refine tame_bind ?_ (fun _ => ?_)
    | with_reducible exact tame_storeVar _ _ _
    | with_reducible exact tame_sureAddr _
    | split
    | intro _
    | dsimp only)

theorem tame_box (t : TypeId) (v : Value) : Tame (Instr.box t v) := by
  unfold Instr.box
  repeat' (first
    | with_reducible refine tame_bind ?_ (fun _ => ?_)
    | with_reducible exact tame_pure _
    | with_reducible exact tame_newVar _ _
    | split
    | intro _
    | dsimp only)

theorem tame_buildSlice (t : TypeId) (n : Nat) (ps : Array (Nat × Value)) : Tame (Instr.buildSlice t n ps) := by
  unfold Instr.buildSlice
  repeat' (first
    | with_reducible exact tame_stuck _
    | with_reducible exact tame_unsupported _
    | with_reducible refine tame_bind ?_ (fun _ => ?_)
    | with_reducible exact tame_pure _
    | with_reducible refine tame_ite ?_ ?_
    | with_reducible exact tame_underlying _
    | with_reducible exact tame_zeroValue _
    | with_reducible exact tame_sizeOf _
    | with_reducible exact tame_newRow _ _
    | split
    | intro _
    | dsimp only)

theorem tame_makeInterface (t : TypeId) (v : Value) : Tame (Instr.makeInterface t v) := by
  unfold Instr.makeInterface
  repeat' (first
    | with_reducible exact tame_stuck _
    | with_reducible refine tame_bind ?_ (fun _ => ?_)
    | with_reducible exact tame_pure _
    | with_reducible exact tame_underlying _
    | split
    | intro _
    | dsimp only)

theorem tame_makeSlice (t : TypeId) (a b : Value) : Tame (Instr.makeSlice t a b) := by
  unfold Instr.makeSlice
  repeat' (first
    | with_reducible exact tame_stuck _
    | with_reducible refine tame_bind ?_ (fun _ => ?_)
    | with_reducible exact tame_pure _
    | with_reducible refine tame_ite ?_ ?_
    | with_reducible exact tame_choose _
    | with_reducible exact tame_askRoom _
    | with_reducible exact tame_typeInfo _
    | with_reducible exact tame_underlying _
    | with_reducible exact tame_zeroValue _
    | with_reducible exact tame_sizeOf _
    | with_reducible exact tame_newRow _ _
    | with_reducible exact tame_runtimePanic _
    | with_reducible exact tame_asInt _
    | split
    | intro _
    | dsimp only)

theorem tame_sliceBound (x : Value) (y : Nat) (c : BoundsCode) : Tame (Instr.sliceBound x y c) := by
  unfold Instr.sliceBound
  repeat' (first
    | with_reducible refine tame_bind ?_ (fun _ => ?_)
    | with_reducible exact tame_pure _
    | with_reducible refine tame_ite ?_ ?_
    | with_reducible exact tame_boundsPanic _ _ _ _
    | with_reducible exact tame_asIntOf _
    | split
    | intro _
    | dsimp only)

theorem tame_sliceBounds (b : Bool) (x y : Nat) (l h m : Option Value) : Tame (Instr.sliceBounds b x y l h m) := by
  unfold Instr.sliceBounds
  repeat' (first
    | with_reducible exact tame_stuck _
    | with_reducible refine tame_bind ?_ (fun _ => ?_)
    | with_reducible exact tame_pure _
    | with_reducible exact tame_sliceBound _ _ _
    | split
    | intro _
    | dsimp only)

theorem tame_slice (t : TypeId) (x : Value) (l h m : Option Value) : Tame (Instr.slice t x l h m) := by
  unfold Instr.slice
  repeat' (first
    | with_reducible exact tame_stuck _
    | with_reducible refine tame_bind ?_ (fun _ => ?_)
    | with_reducible exact tame_pure _
    | with_reducible refine tame_ite ?_ ?_
    | with_reducible exact tame_underlying _
    | with_reducible exact tame_sizeOf _
    | with_reducible exact tame_asAddr _
    | with_reducible exact tame_sliceBounds _ _ _ _ _ _
    | split
    | intro _
    | dsimp only)

theorem tame_sliceAt (t : TypeId) (x : Value) (l h m : Option Value) : Tame (Instr.sliceAt t x l h m) := by
  unfold Instr.sliceAt
  repeat' (first
    | with_reducible refine tame_bind ?_ (fun _ => ?_)
    | with_reducible exact tame_pure _
    | with_reducible exact tame_underlying _
    | with_reducible exact tame_sizeOf _
    | with_reducible exact tame_sureAddr _
    | with_reducible exact tame_sliceBounds _ _ _ _ _ _
    | with_reducible exact tame_slice _ _ _ _ _
    | split
    | intro _
    | dsimp only)

theorem tame_indexAt (t : TypeId) (x i : Value) : Tame (Instr.indexAt t x i) := by
  unfold Instr.indexAt
  repeat' (first
    | with_reducible exact tame_stuck _
    | with_reducible exact tame_unsupported _
    | with_reducible refine tame_bind ?_ (fun _ => ?_)
    | with_reducible exact tame_pure _
    | with_reducible refine tame_ite ?_ ?_
    | with_reducible exact tame_underlying _
    | with_reducible exact tame_sizeOf _
    | with_reducible exact tame_boundsPanic _ _ _ _
    | with_reducible exact tame_asIntOf _
    | with_reducible exact tame_sureAddr _
    | split
    | intro _
    | dsimp only)

theorem tame_arrayAt (t : TypeId) (x : Value) : Tame (Instr.arrayAt t x) := by
  unfold Instr.arrayAt
  repeat' (first
    | with_reducible exact tame_stuck _
    | with_reducible refine tame_bind ?_ (fun _ => ?_)
    | with_reducible exact tame_pure _
    | with_reducible refine tame_ite ?_ ?_
    | with_reducible exact tame_underlying _
    | with_reducible exact tame_runtimePanic _
    | split
    | intro _
    | dsimp only)

theorem tame_field (t : TypeId) (x : Value) (f : Nat) : Tame (Instr.field t x f) := by
  unfold Instr.field
  repeat' (first
    | with_reducible exact tame_stuck _
    | with_reducible refine tame_bind ?_ (fun _ => ?_)
    | with_reducible exact tame_underlying _
    | with_reducible exact tame_part _ _ _
    | with_reducible exact tame_asAgg _
    | split
    | intro _
    | dsimp only)

theorem tame_index (t : TypeId) (x i : Value) : Tame (Instr.index t x i) := by
  unfold Instr.index
  repeat' (first
    | with_reducible exact tame_stuck _
    | with_reducible refine tame_bind ?_ (fun _ => ?_)
    | with_reducible exact tame_pure _
    | with_reducible refine tame_ite ?_ ?_
    | with_reducible exact tame_underlying _
    | with_reducible exact tame_sizeOf _
    | with_reducible exact tame_part _ _ _
    | with_reducible exact tame_boundsPanic _ _ _ _
    | with_reducible exact tame_asIntOf _
    | split
    | intro _
    | dsimp only)

theorem tame_extract (x : Value) (i : Nat) : Tame (Instr.extract x i) := by
  unfold Instr.extract
  repeat' (first
    | with_reducible exact tame_stuck _
    | with_reducible exact tame_pure _
    | split
    | intro _
    | dsimp only)

theorem tame_holdsCells (a : Addr) (n : Nat) : Tame (Builtin.holdsCells a n) := by
  unfold Builtin.holdsCells
  repeat' (first
    | with_reducible refine tame_bind ?_ (fun _ => ?_)
    | with_reducible exact tame_pure _
    | with_reducible exact tame_shape _
    | split
    | intro _
    | dsimp only)

theorem tame_mayShare (a b c : Nat) (o : Option Addr) (x : Value) : Tame (Builtin.mayShare a b c o x) := by
  unfold Builtin.mayShare
  repeat' (first
    | with_reducible refine tame_bind ?_ (fun _ => ?_)
    | with_reducible exact tame_pure _
    | with_reducible refine tame_ite ?_ ?_
    | with_reducible exact tame_frozen _
    | with_reducible exact tame_holdsCells _ _
    | split
    | intro _
    | dsimp only)

theorem tame_lenOf (v : Value) : Tame (Builtin.lenOf v) := by
  unfold Builtin.lenOf
  repeat' (first
    | with_reducible exact tame_stuck _
    | with_reducible exact tame_pure _
    | split
    | intro _
    | dsimp only)

theorem tame_firstCells (a b : Nat) (v : Value) : Tame (Builtin.firstCells a b v) := by
  unfold Builtin.firstCells
  repeat' (first
    | with_reducible exact tame_stuck _
    | with_reducible exact tame_pure _
    | with_reducible exact tame_loadCells _ _
    | split
    | intro _
    | dsimp only)

theorem tame_append (ts : Array TypeId) (t : TypeId) (avs : Array Value) : Tame (Builtin.append_ ts t avs) := by
  unfold Builtin.append_
  repeat' (first
    | with_reducible exact tame_stuck _
    | with_reducible exact tame_unsupported _
    | with_reducible refine tame_bind ?_ (fun _ => ?_)
    | with_reducible exact tame_pure _
    | with_reducible refine tame_ite ?_ ?_
    | with_reducible exact tame_choose _
    | with_reducible exact tame_noRoom
    | with_reducible exact tame_askRoom _
    | with_reducible exact tame_typeInfo _
    | with_reducible exact tame_underlying _
    | with_reducible exact tame_zeroValue _
    | with_reducible exact tame_sizeOf _
    | with_reducible exact tame_storeCells _ _ _
    | with_reducible exact tame_newRow _ _
    | with_reducible exact tame_runtimePanic _
    | with_reducible exact tame_asInt _
    | with_reducible exact tame_mayShare _ _ _ _ _
    | with_reducible exact tame_lenOf _
    | with_reducible exact tame_firstCells _ _ _
    | split
    | intro _
    | dsimp only)

theorem tame_len (ts : Array TypeId) (t : TypeId) (avs : Array Value) : Tame (Builtin.len_ ts t avs) := by
  unfold Builtin.len_
  repeat' (first
    | with_reducible exact tame_stuck _
    | with_reducible refine tame_bind ?_ (fun _ => ?_)
    | with_reducible exact tame_pure _
    | with_reducible exact tame_getObj _
    | with_reducible exact tame_underlying _
    | split
    | intro _
    | dsimp only)

theorem tame_cap (ts : Array TypeId) (t : TypeId) (avs : Array Value) : Tame (Builtin.cap_ ts t avs) := by
  unfold Builtin.cap_
  repeat' (first
    | with_reducible exact tame_stuck _
    | with_reducible refine tame_bind ?_ (fun _ => ?_)
    | with_reducible exact tame_pure _
    | with_reducible exact tame_getObj _
    | with_reducible exact tame_underlying _
    | split
    | intro _
    | dsimp only)

theorem tame_copy (ts : Array TypeId) (t : TypeId) (avs : Array Value) : Tame (Builtin.copy_ ts t avs) := by
  unfold Builtin.copy_
  repeat' (first
    | with_reducible exact tame_stuck _
    | with_reducible refine tame_bind ?_ (fun _ => ?_)
    | with_reducible exact tame_pure _
    | with_reducible exact tame_underlying _
    | with_reducible exact tame_sizeOf _
    | with_reducible exact tame_storeCells _ _ _
    | with_reducible exact tame_lenOf _
    | with_reducible exact tame_firstCells _ _ _
    | split
    | intro _
    | dsimp only)

theorem tame_unsafeAdd (ts : Array TypeId) (t : TypeId) (x y : Value) : Tame (Builtin.unsafeAdd_ ts t #[x, y]) := by
  cases x
  case pointer ptr =>
    refine tame_bind (tame_asInt y) fun n => ?_
    repeat' (first
      | with_reducible exact tame_unsupported _
      | with_reducible refine tame_bind ?_ (fun _ => ?_)
      | with_reducible exact tame_pure _
      | with_reducible refine tame_ite ?_ ?_
      | with_reducible exact tame_program
      | with_reducible exact tame_shape _
      | with_reducible exact tame_viewAt _
      | with_reducible exact tame_asInt _
      | split
      | intro _
      | dsimp only)
  all_goals exact trivial

theorem tame_byteOf (a : Addr) : Tame (byteOf a) := by
  unfold byteOf
  repeat' (first
    | with_reducible exact tame_stuck _
    | with_reducible refine tame_bind ?_ (fun _ => ?_)
    | with_reducible exact tame_pure _
    | with_reducible refine tame_ite ?_ ?_
    | with_reducible exact tame_program
    | with_reducible exact tame_shape _
    | with_reducible exact tame_noView _
    | split
    | intro _
    | dsimp only)

theorem tame_twoPlaces (a b : Addr) : Tame (Op.twoPlaces a b) := by
  unfold Op.twoPlaces
  repeat' (first
    | with_reducible exact tame_unsupported _
    | with_reducible refine tame_bind ?_ (fun _ => ?_)
    | with_reducible exact tame_pure _
    | with_reducible refine tame_ite ?_ ?_
    | with_reducible exact tame_program
    | with_reducible exact tame_byteOf _
    | split
    | intro _
    | dsimp only)

theorem tame_addrSub (k : IntKind) (a b : Addr) : Tame (Op.addrSub k a b) := by
  unfold Op.addrSub
  repeat' (first
    | with_reducible refine tame_bind ?_ (fun _ => ?_)
    | with_reducible exact tame_pure _
    | with_reducible exact tame_twoPlaces _ _
    | split
    | intro _
    | dsimp only)

theorem tame_addrCmp (o : BinOp) (a b : Addr) : Tame (Op.addrCmp o a b) := by
  unfold Op.addrCmp
  repeat' (first
    | with_reducible exact tame_unsupported _
    | with_reducible refine tame_bind ?_ (fun _ => ?_)
    | with_reducible exact tame_pure _
    | with_reducible exact tame_twoPlaces _ _
    | split
    | intro _
    | dsimp only)

theorem tame_addrMod (k : IntKind) (a : Addr) (n : Int) : Tame (Op.addrMod k a n) := by
  unfold Op.addrMod
  repeat' (first
    | with_reducible exact tame_unsupported _
    | with_reducible refine tame_bind ?_ (fun _ => ?_)
    | with_reducible exact tame_pure _
    | with_reducible refine tame_ite ?_ ?_
    | with_reducible exact tame_shape _
    | with_reducible exact tame_typeInfo _
    | with_reducible exact tame_byteOf _
    | split
    | intro _
    | dsimp only)

theorem tame_intArith (o : BinOp) (k : IntKind) (x y : Int) : Tame (Op.intArith o k x y) := by
  unfold Op.intArith
  repeat' (first
    | with_reducible exact tame_stuck _
    | with_reducible exact tame_pure _
    | split
    | intro _
    | dsimp only)

theorem tame_intDiv (o : BinOp) (k : IntKind) (x y : Int) : Tame (Op.intDiv o k x y) := by
  unfold Op.intDiv
  repeat' (first
    | with_reducible exact tame_stuck _
    | with_reducible exact tame_pure _
    | with_reducible refine tame_ite ?_ ?_
    | with_reducible exact tame_runtimePanic _
    | split
    | intro _
    | dsimp only)

theorem tame_intBits (o : BinOp) (k : IntKind) (x y : Int) : Tame (Op.intBits o k x y) := by
  unfold Op.intBits
  repeat' (first
    | with_reducible exact tame_stuck _
    | with_reducible exact tame_pure _
    | split
    | intro _
    | dsimp only)

theorem tame_shift (o : BinOp) (k : IntKind) (x : Int) (j : IntKind) (y : Int) : Tame (Op.shift o k x j y) := by
  unfold Op.shift
  repeat' (first
    | with_reducible exact tame_stuck _
    | with_reducible exact tame_pure _
    | with_reducible refine tame_ite ?_ ?_
    | with_reducible exact tame_runtimePanic _
    | split
    | intro _
    | dsimp only)

theorem tame_intCmp (o : BinOp) (x y : Int) : Tame (Op.intCmp o x y) := by
  unfold Op.intCmp
  repeat' (first
    | with_reducible exact tame_stuck _
    | with_reducible exact tame_pure _
    | split
    | intro _
    | dsimp only)

theorem tame_floatArith (o : BinOp) (k : FloatKind) (x y : Nat) : Tame (Op.floatArith o k x y) := by
  unfold Op.floatArith
  repeat' (first
    | with_reducible exact tame_stuck _
    | with_reducible refine tame_bind ?_ (fun _ => ?_)
    | with_reducible exact tame_pure _
    | with_reducible exact tame_choose _
    | split
    | intro _
    | dsimp only)

theorem tame_floatCmp (o : BinOp) (k : FloatKind) (x y : Nat) : Tame (Op.floatCmp o k x y) := by
  unfold Op.floatCmp
  repeat' (first
    | with_reducible exact tame_stuck _
    | with_reducible exact tame_pure _
    | split
    | intro _
    | dsimp only)

theorem tame_stringOp (o : BinOp) (x y : ByteArray) : Tame (Op.stringOp o x y) := by
  unfold Op.stringOp
  repeat' (first
    | with_reducible exact tame_stuck _
    | with_reducible exact tame_unsupported _
    | with_reducible exact tame_pure _
    | with_reducible refine tame_ite ?_ ?_
    | split
    | intro _
    | dsimp only)

theorem tame_floatToFloat (s : FloatKind) (b : Nat) (d : FloatKind) : Tame (Conv.floatToFloat s b d) := by
  unfold Conv.floatToFloat
  repeat' (first
    | with_reducible refine tame_bind ?_ (fun _ => ?_)
    | with_reducible exact tame_pure _
    | with_reducible refine tame_ite ?_ ?_
    | with_reducible exact tame_choose _
    | split
    | intro _
    | dsimp only)

theorem tame_carith (o : BinOp) (k : FloatKind) (x y : Nat) : Tame (Op.Complex.arith o k x y) := by
  unfold Op.Complex.arith
  repeat' (first
    | with_reducible exact tame_stuck _
    | with_reducible refine tame_bind ?_ (fun _ => ?_)
    | with_reducible exact tame_pure _
    | with_reducible exact tame_floatArith _ _ _ _
    | split
    | intro _
    | dsimp only)

theorem tame_ccmp (o : BinOp) (k : FloatKind) (x y : Nat) : Tame (Op.Complex.cmp o k x y) := by
  unfold Op.Complex.cmp
  repeat' (first
    | with_reducible refine tame_bind ?_ (fun _ => ?_)
    | with_reducible exact tame_asBool _
    | with_reducible exact tame_floatCmp _ _ _ _
    | split
    | intro _
    | dsimp only)

theorem tame_cconv (s : FloatKind) (b : Nat) (d : FloatKind) : Tame (Op.Complex.conv s b d) := by
  unfold Op.Complex.conv
  repeat' (first
    | with_reducible exact tame_stuck _
    | with_reducible refine tame_bind ?_ (fun _ => ?_)
    | with_reducible exact tame_pure _
    | with_reducible refine tame_ite ?_ ?_
    | with_reducible exact tame_floatToFloat _ _ _
    | split
    | intro _
    | dsimp only)

theorem tame_cadd (x y : Nat) : Tame (Op.Complex.add x y) := tame_carith _ _ _ _

theorem tame_csub (x y : Nat) : Tame (Op.Complex.sub x y) := tame_carith _ _ _ _

theorem tame_cmul (x y : Nat) : Tame (Op.Complex.mul x y) := tame_carith _ _ _ _

theorem tame_cquo (x y : Nat) : Tame (Op.Complex.quo x y) := tame_carith _ _ _ _

theorem tame_cproduct (a b c d : Nat) : Tame (Op.Complex.product a b c d) := by
  unfold Op.Complex.product
  repeat' (first
    | with_reducible refine tame_bind ?_ (fun _ => ?_)
    | with_reducible exact tame_pure _
    | with_reducible exact tame_cadd _ _
    | with_reducible exact tame_csub _ _
    | with_reducible exact tame_cmul _ _
    | split
    | intro _
    | dsimp only)

theorem tame_ccorrected (a b c d e : Nat) : Tame (Op.Complex.corrected a b c d e) := by
  unfold Op.Complex.corrected
  repeat' (first
    | with_reducible refine tame_bind ?_ (fun _ => ?_)
    | with_reducible exact tame_pure _
    | with_reducible exact tame_cadd _ _
    | with_reducible exact tame_csub _ _
    | with_reducible exact tame_cmul _ _
    | split
    | intro _
    | dsimp only)

theorem tame_cquotient (a b c d : Nat) : Tame (Op.Complex.quotient a b c d) := by
  unfold Op.Complex.quotient
  repeat' (first
    | with_reducible refine tame_bind ?_ (fun _ => ?_)
    | with_reducible exact tame_pure _
    | with_reducible refine tame_ite ?_ ?_
    | with_reducible exact tame_ccmp _ _ _ _
    | with_reducible exact tame_cadd _ _
    | with_reducible exact tame_csub _ _
    | with_reducible exact tame_cmul _ _
    | with_reducible exact tame_cquo _ _
    | with_reducible exact tame_ccorrected _ _ _ _ _
    | split
    | intro _
    | dsimp only)

theorem tame_complexOp (o : BinOp) (k : FloatKind) (a b c d : Nat) : Tame (Op.complexOp o k a b c d) := by
  unfold Op.complexOp
  repeat' (first
    | with_reducible exact tame_stuck _
    | with_reducible refine tame_bind ?_ (fun _ => ?_)
    | with_reducible exact tame_pure _
    | with_reducible refine tame_ite ?_ ?_
    | with_reducible exact tame_carith _ _ _ _
    | with_reducible exact tame_ccmp _ _ _ _
    | with_reducible exact tame_cconv _ _ _
    | with_reducible exact tame_cproduct _ _ _ _
    | with_reducible exact tame_cquotient _ _ _ _
    | split
    | intro _
    | dsimp only)

theorem tame_movedNumber (t : TypeId) (x y : Value) : Tame (movedNumber t x y) := by
  unfold movedNumber
  repeat' (first
    | with_reducible exact tame_unsupported _
    | with_reducible refine tame_bind ?_ (fun _ => ?_)
    | with_reducible exact tame_pure _
    | with_reducible refine tame_ite ?_ ?_
    | with_reducible exact tame_asNumber _ _
    | with_reducible exact tame_behindNumber _
    | with_reducible exact tame_underlying _
    | with_reducible exact tame_unsafeAdd _ _ _ _
    | split
    | intro _
    | dsimp only)

theorem tame_movedPointer (t : TypeId) (x y : Value) : Tame (movedPointer t x y) := by
  unfold movedPointer
  repeat' (first
    | with_reducible exact tame_unsupported _
    | with_reducible refine tame_bind ?_ (fun _ => ?_)
    | with_reducible refine tame_ite ?_ ?_
    | with_reducible exact tame_numberAt _
    | with_reducible exact tame_unsafeAdd _ _ _ _
    | split
    | intro _
    | dsimp only)

theorem tame_unary (o : UnOp) (x : Value) : Tame (Op.unary o x) := by
  unfold Op.unary
  repeat' (first
    | with_reducible exact tame_stuck _
    | with_reducible exact tame_unsupported _
    | with_reducible exact tame_pure _
    | with_reducible exact tame_intArith _ _ _ _
    | with_reducible exact tame_intBits _ _ _ _
    | split
    | intro _
    | dsimp only)

theorem tame_partAt (a : Addr) (b c : Nat) : Tame (partAt a b c) := by
  unfold partAt
  repeat' (first
    | with_reducible refine tame_bind ?_ (fun _ => ?_)
    | with_reducible exact tame_pure _
    | with_reducible exact tame_byteOf _
    | split
    | intro _
    | dsimp only)

theorem tame_fieldPlace (a : Addr) (f : Field) : Tame (fieldPlace a f) := by
  unfold fieldPlace
  repeat' (first
    | with_reducible refine tame_bind ?_ (fun _ => ?_)
    | with_reducible exact tame_pure _
    | with_reducible refine tame_ite ?_ ?_
    | with_reducible exact tame_sizeOf _
    | with_reducible exact tame_partAt _ _ _
    | split
    | intro _
    | dsimp only)

theorem tame_fieldAt (t : TypeId) (v : Value) (f : Nat) : Tame (Instr.fieldAt t v f) := by
  unfold Instr.fieldAt
  repeat' (first
    | with_reducible exact tame_stuck _
    | with_reducible refine tame_bind ?_ (fun _ => ?_)
    | with_reducible exact tame_pure _
    | with_reducible exact tame_underlying _
    | with_reducible exact tame_sureAddr _
    | with_reducible exact tame_fieldPlace _ _
    | split
    | intro _
    | dsimp only)

theorem tame_build (t : TypeId) (ps : Array (Nat × Value)) : Tame (Instr.build t ps) := by
  unfold Instr.build
  repeat' (first
    | with_reducible exact tame_stuck _
    | with_reducible refine tame_bind ?_ (fun _ => ?_)
    | with_reducible exact tame_pure _
    | with_reducible refine tame_mapMA _ (fun _ => ?_)
    | with_reducible exact tame_underlying _
    | with_reducible exact tame_zeroValue _
    | with_reducible exact tame_sizeOf _
    | split
    | intro _
    | dsimp only)

theorem tame_seenAt (a : Addr) : Tame (Conv.seenAt a) := by
  unfold Conv.seenAt
  repeat' (first
    | with_reducible exact tame_unsupported _
    | with_reducible refine tame_bind ?_ (fun _ => ?_)
    | with_reducible exact tame_pure _
    | with_reducible refine tame_ite ?_ ?_
    | with_reducible exact tame_program
    | with_reducible exact tame_shape _
    | with_reducible exact tame_viewAt _
    | split
    | intro _
    | dsimp only)

theorem tame_variablesAt (a : Addr) (t : TypeId) (n : Nat) : Tame (variablesAt a t n) := by
  unfold variablesAt
  repeat' (first
    | with_reducible refine tame_bind ?_ (fun _ => ?_)
    | with_reducible exact tame_pure _
    | with_reducible exact tame_program
    | with_reducible exact tame_shape _
    | split
    | intro _
    | dsimp only)

theorem tame_unsafePointer (s d : TypeId) (x : Value) : Tame (Conv.unsafePointer s d x) := by
  unfold Conv.unsafePointer
  repeat' (first
    | with_reducible exact tame_stuck _
    | with_reducible exact tame_unsupported _
    | with_reducible refine tame_bind ?_ (fun _ => ?_)
    | with_reducible exact tame_pure _
    | with_reducible refine tame_ite ?_ ?_
    | with_reducible exact tame_program
    | with_reducible exact tame_shape _
    | with_reducible exact tame_newObj _
    | with_reducible exact tame_cellsIn _
    | with_reducible exact tame_asNumber _ _
    | with_reducible exact tame_underlying _
    | with_reducible exact tame_sizeOf _
    | with_reducible exact tame_seenAt _
    | with_reducible exact tame_variablesAt _ _ _
    | split
    | intro _
    | dsimp only)

theorem tame_intToInt (k : IntKind) (n : Int) : Tame (Conv.intToInt k n) := by
  unfold Conv.intToInt
  repeat' (first
    | with_reducible exact tame_pure _
    | split
    | intro _
    | dsimp only)

theorem tame_intToFloat (k : FloatKind) (n : Int) : Tame (Conv.intToFloat k n) := by
  unfold Conv.intToFloat
  repeat' (first
    | with_reducible exact tame_pure _
    | split
    | intro _
    | dsimp only)

theorem tame_floatToInt (s : FloatKind) (b : Nat) (k : IntKind) : Tame (Conv.floatToInt s b k) := by
  unfold Conv.floatToInt
  repeat' (first
    | with_reducible refine tame_bind ?_ (fun _ => ?_)
    | with_reducible exact tame_pure _
    | with_reducible refine tame_ite ?_ ?_
    | with_reducible exact tame_choose _
    | split
    | intro _
    | dsimp only)

theorem tame_complexToComplex (s : FloatKind) (a b : Nat) (k : FloatKind) : Tame (Conv.complexToComplex s a b k) := by
  unfold Conv.complexToComplex
  repeat' (first
    | with_reducible exact tame_stuck _
    | with_reducible refine tame_bind ?_ (fun _ => ?_)
    | with_reducible exact tame_pure _
    | with_reducible exact tame_floatToFloat _ _ _
    | split
    | intro _
    | dsimp only)

theorem tame_intToString (n : Int) : Tame (Conv.intToString n) := by
  unfold Conv.intToString
  repeat' (first
    | with_reducible exact tame_pure _
    | split
    | intro _
    | dsimp only)

theorem tame_stringToBytes (t : TypeId) (s : ByteArray) : Tame (Conv.stringToBytes t s) := by
  unfold Conv.stringToBytes
  repeat' (first
    | with_reducible refine tame_bind ?_ (fun _ => ?_)
    | with_reducible exact tame_pure _
    | with_reducible exact tame_choose _
    | with_reducible exact tame_markStringish _
    | with_reducible exact tame_newRow _ _
    | split
    | intro _
    | dsimp only)

theorem tame_bytesToString (x : Value) : Tame (Conv.bytesToString x) := by
  unfold Conv.bytesToString
  repeat' (first
    | with_reducible exact tame_stuck _
    | with_reducible refine tame_bind ?_ (fun _ => ?_)
    | with_reducible exact tame_pure _
    | with_reducible refine tame_forInA _ _ (fun _ _ => ?_)
    | with_reducible exact tame_loadCells _ _
    | split
    | intro _
    | dsimp only)

theorem tame_stringToRunes (t : TypeId) (s : ByteArray) : Tame (Conv.stringToRunes t s) := by
  unfold Conv.stringToRunes
  repeat' (first
    | with_reducible refine tame_bind ?_ (fun _ => ?_)
    | with_reducible exact tame_pure _
    | with_reducible exact tame_choose _
    | with_reducible exact tame_newRow _ _
    | split
    | intro _
    | dsimp only)

theorem tame_runesToString (x : Value) : Tame (Conv.runesToString x) := by
  unfold Conv.runesToString
  repeat' (first
    | with_reducible exact tame_stuck _
    | with_reducible refine tame_bind ?_ (fun _ => ?_)
    | with_reducible exact tame_pure _
    | with_reducible refine tame_forInA _ _ (fun _ _ => ?_)
    | with_reducible exact tame_loadCells _ _
    | split
    | intro _
    | dsimp only)

theorem tame_convert (s d : TypeId) (x : Value) : Tame (convert s d x) := by
  unfold convert
  repeat' (first
    | with_reducible exact tame_stuck _
    | with_reducible exact tame_unsupported _
    | with_reducible refine tame_bind ?_ (fun _ => ?_)
    | with_reducible exact tame_pure _
    | with_reducible exact tame_markStringish _
    | with_reducible exact tame_underlying _
    | with_reducible exact tame_floatToFloat _ _ _
    | with_reducible exact tame_unsafePointer _ _ _
    | with_reducible exact tame_intToInt _ _
    | with_reducible exact tame_intToFloat _ _
    | with_reducible exact tame_floatToInt _ _ _
    | with_reducible exact tame_complexToComplex _ _ _ _
    | with_reducible exact tame_intToString _
    | with_reducible exact tame_stringToBytes _ _
    | with_reducible exact tame_bytesToString _
    | with_reducible exact tame_stringToRunes _ _
    | with_reducible exact tame_runesToString _
    | split
    | intro _
    | dsimp only)

theorem tame_equalIn : ∀ (d : Nat) (t : TypeId) (x y : Value), Tame (Op.equalIn d t x y)
  | 0, _, _, _ => by unfold Op.equalIn; trivial
  | d + 1, t, x, y => by
    unfold Op.equalIn
    repeat' (first
      | with_reducible exact tame_stuck _
      | with_reducible exact tame_unsupported _
      | with_reducible refine tame_bind ?_ (fun _ => ?_)
      | with_reducible exact tame_pure _
      | with_reducible refine tame_ite ?_ ?_
      | with_reducible refine tame_forInA _ _ (fun _ _ => ?_)
      | with_reducible refine tame_forInR _ _ (fun _ _ => ?_)
      | exact tame_equalIn _ _ _ _
      | with_reducible exact tame_program
      | with_reducible exact tame_choose _
      | with_reducible exact tame_behindNumber _
      | with_reducible exact tame_sameAddr _ _
      | with_reducible exact tame_samePointer _ _
      | with_reducible exact tame_typeInfo _
      | with_reducible exact tame_underlying _
      | with_reducible exact tame_typeStr _
      | with_reducible exact tame_sizeOf _
      | with_reducible exact tame_part _ _ _
      | with_reducible exact tame_runtimePanic _
      | with_reducible exact tame_byteOf _
      | split
      | intro _
      | dsimp only)

theorem tame_equal (t : TypeId) (x y : Value) : Tame (Op.equal t x y) := by
  unfold Op.equal
  repeat' (first
    | with_reducible exact tame_equalIn _ _ _ _
    | split
    | intro _
    | dsimp only)

theorem tame_eqGuardIn : ∀ (d : Nat) (t : TypeId) (x y : Value), Tame (Op.eqGuardIn d t x y)
  | 0, _, _, _ => by unfold Op.eqGuardIn; trivial
  | d + 1, t, x, y => by
    unfold Op.eqGuardIn
    repeat' (first
      | with_reducible refine tame_bind ?_ (fun _ => ?_)
      | with_reducible exact tame_pure _
      | with_reducible refine tame_ite ?_ ?_
      | with_reducible refine tame_forInA _ _ (fun _ _ => ?_)
      | with_reducible refine tame_forInR _ _ (fun _ _ => ?_)
      | exact tame_eqGuardIn _ _ _ _
      | with_reducible exact tame_underlying _
      | with_reducible exact tame_sizeOf _
      | with_reducible exact tame_part _ _ _
      | split
      | intro _
      | dsimp only)

theorem tame_eqGuard (o : BinOp) (t : TypeId) (x y : Operand) (a b : Value) : Tame (eqGuard o t x y a b) := by
  unfold eqGuard
  repeat' (first
    | with_reducible exact tame_unsupported _
    | with_reducible refine tame_bind ?_ (fun _ => ?_)
    | with_reducible exact tame_pure _
    | with_reducible refine tame_ite ?_ ?_
    | with_reducible exact tame_program
    | with_reducible exact tame_eqGuardIn _ _ _ _
    | split
    | intro _
    | dsimp only)

theorem tame_binOp (o : BinOp) (t : TypeId) (a b : Value) : Tame (binOp o t a b) := by
  unfold binOp
  repeat' (first
    | with_reducible exact tame_stuck _
    | with_reducible exact tame_unsupported _
    | with_reducible refine tame_bind ?_ (fun _ => ?_)
    | with_reducible exact tame_pure _
    | with_reducible refine tame_ite ?_ ?_
    | with_reducible exact tame_behindNumber _
    | with_reducible exact tame_underlying _
    | with_reducible exact tame_addrSub _ _ _
    | with_reducible exact tame_addrCmp _ _ _
    | with_reducible exact tame_addrMod _ _ _
    | with_reducible exact tame_intArith _ _ _ _
    | with_reducible exact tame_intDiv _ _ _ _
    | with_reducible exact tame_intBits _ _ _ _
    | with_reducible exact tame_shift _ _ _ _ _
    | with_reducible exact tame_intCmp _ _ _
    | with_reducible exact tame_floatArith _ _ _ _
    | with_reducible exact tame_floatCmp _ _ _ _
    | with_reducible exact tame_stringOp _ _ _
    | with_reducible exact tame_complexOp _ _ _ _ _ _
    | with_reducible exact tame_movedNumber _ _ _
    | with_reducible exact tame_movedPointer _ _ _
    | with_reducible exact tame_equal _ _ _
    | split
    | intro _
    | dsimp only)

theorem tame_panicnil  : Tame (Instr.panicnil) := by
  unfold Instr.panicnil
  repeat' (first
    | with_reducible exact tame_stuck _
    | with_reducible refine tame_bind ?_ (fun _ => ?_)
    | with_reducible exact tame_pure _
    | with_reducible exact tame_program
    | with_reducible exact tame_env
    | split
    | intro _
    | dsimp only)

theorem tame_panic (x : Value) : Tame (Instr.panic x) := by
  unfold Instr.panic
  repeat' (first
    | with_reducible exact tame_stuck _
    | with_reducible refine tame_bind ?_ (fun _ => ?_)
    | with_reducible refine tame_ite ?_ ?_
    | with_reducible exact tame_goPanic _
    | with_reducible exact tame_runtimePanic _
    | with_reducible exact tame_panicnil
    | split
    | intro _
    | dsimp only)

theorem tame_followBlind : ∀ (l : List FieldStep) (t : TypeId) (x : Option Value), Tame (followBlind l t x)
  | [], _, _ => by unfold followBlind; trivial
  | s :: l, t, x => by
    unfold followBlind
    repeat' (first
      | with_reducible exact tame_stuck _
      | with_reducible refine tame_bind ?_ (fun _ => ?_)
      | with_reducible exact tame_pure _
      | exact tame_followBlind _ _ _
      | with_reducible exact tame_underlying _
      | with_reducible exact tame_part _ _ _
      | split
      | intro _
      | dsimp only)

theorem tame_nilAhead : ∀ (d : Nat) (t : TypeId) (x : Value) (n : String), Tame (nilAhead d t x n)
  | 0, _, _, _ => by unfold nilAhead; trivial
  | d + 1, t, x, n => by
    unfold nilAhead
    repeat' (first
      | with_reducible exact tame_stuck _
      | with_reducible refine tame_bind ?_ (fun _ => ?_)
      | with_reducible exact tame_pure _
      | exact tame_nilAhead _ _ _ _
      | with_reducible exact tame_typeInfo _
      | with_reducible exact tame_underlying _
      | with_reducible exact tame_followBlind _ _ _
      | split
      | intro _
      | dsimp only)

end Go.Proofs.Ytjphaphnmclbcaa

/- An operation that asks the system nothing hangs on the tape through the answers drawn alone, and makes nobody deaf. No condition. -/
namespace Go.Proofs.Ytjphaphnmclbcaa
open Go Go.Conc

/-- The world with this tape and this count of draws. -/
def rt (w : World) (τ : Tape) (d : Nat) : World := { w with tape := τ, drawn := d }

/-- The two tapes give the same n answers, from here and from there. -/
def Ag (τ : Tape) (d : Nat) (σ : Tape) (e n : Nat) : Prop := ∀ j, j < n → τ (d + j) = σ (e + j)

theorem Ag.tail {τ σ : Tape} {d e n : Nat} (h : Ag τ d σ e (1 + n)) : τ d = σ e ∧ Ag τ (d + 1) σ (e + 1) n :=
  ⟨by simpa using h 0 (by omega), fun j hj => by have := h (1 + j) (by omega); simpa only [Nat.add_assoc] using this⟩

/-- w' is behind w by n draws. -/
def DrewN (w w' : World) (n : Nat) : Prop := w'.tape = w.tape ∧ w'.drawn = w.drawn + n

def resW {α : Type} : Result α → World
  | .ok _ w => w
  | .halt _ w => w
def resT {α : Type} (r : Result α) (τ : Tape) (d : Nat) : Result α :=
  match r with
  | .ok a w => .ok a (rt w τ d)
  | .halt h w => .halt h (rt w τ d)

/-- It stops by a panic or for good. -/
def okHalt : Halt → Prop
  | .panic _ | .stuck _ | .unsupported _ => True
  | _ => False
def okRes {α : Type} : Result α → Prop
  | .ok _ _ => True
  | .halt h _ => okHalt h

theorem farLoad_rt (P : Program) (w : World) (τ : Tape) (d : Nat) (a : Addr) (b : Bool) : (rt w τ d).farLoad P a b = w.farLoad P a b := rfl
theorem noCell_rt (w : World) (τ : Tape) (d : Nat) (a : Addr) (s : String) : (rt w τ d).noCell a s = w.noCell a s := rfl
theorem noCell_ok (w : World) (a : Addr) (s : String) : okHalt (w.noCell a s) := by unfold World.noCell; split <;> trivial

theorem seen_rt (P : Program) (w : World) (τ : Tape) (d : Nat) (a : Addr) (t : TypeId) (k : Addr) (b : Bool) : (rt w τ d).seen P a t k b = w.seen P a t k b := rfl

theorem viewStore_rt (P : Program) (w : World) (τ : Tape) (d : Nat) (a : Addr) (t : TypeId) (k : Addr) (v : Value) (b : Bool) :
    (rt w τ d).viewStore P a t k v b = (w.viewStore P a t k v b).map fun x => (rt x.1 τ d, x.2) := by
  unfold World.viewStore
  simp only [seen_rt]
  generalize w.seen P a t k b = r
  simp only [bind, Except.bind, pure, Except.pure]
  split
  · rfl
  · cases r with
    | error e => rfl
    | ok r =>
      obtain ⟨c, e, fz, first, like, cells⟩ := r
      cases v.bytes? with
      | none => rfl
      | some bytes =>
        simp only []
        split
        · rfl
        · generalize List.foldlM (m := Except String) _ c cells = r2
          cases r2 <;> rfl

theorem farStore_rt (P : Program) (w : World) (τ : Tape) (d : Nat) (a : Addr) (v : Value) (b : Bool) : (rt w τ d).farStore P a v b = (w.farStore P a v b).map fun x => (rt x.1 τ d, x.2) := by
  unfold World.farStore
  have e : (rt w τ d).heap[a.block]? = w.heap[a.block]? := rfl
  rw [e]
  cases w.heap[a.block]? with
  | none => rfl
  | some o =>
    cases o <;> first
      | rfl
      | (simp only [viewStore_rt]; generalize World.viewStore P w _ _ a v b = r; cases r <;> rfl)

theorem farStore_drew {P : Program} {w w' : World} {a : Addr} {v : Value} {b : Bool} {ts : List Addr} (h : w.farStore P a v b = .ok (w', ts)) : DrewN w w' 0 := by
  have h1 := farStore_rt P w w.tape w.drawn a v b
  have e : rt w w.tape w.drawn = w := rfl
  rw [e, h] at h1
  simp only [Except.map, Except.ok.injEq, Prod.mk.injEq, and_true] at h1
  have a1 := congrArg World.tape h1
  have a2 := congrArg World.drawn h1
  exact ⟨a1, a2⟩

theorem farLoad_ok {P : Program} {w : World} {a : Addr} {b : Bool} {h : Halt} (e : w.farLoad P a b = .error h) : okHalt h := by
  unfold World.farLoad at e
  split at e
  · split at e
    · cases e
    · cases e; trivial
  · cases e; exact noCell_ok _ _ _
theorem farStore_ok {P : Program} {w : World} {a : Addr} {v : Value} {b : Bool} {h : Halt} (e : w.farStore P a v b = .error h) : okHalt h := by
  unfold World.farStore at e
  split at e
  · split at e
    · cases e
    · cases e; trivial
  · cases e; exact noCell_ok _ _ _

theorem sys_env_rt (w : World) : DrewN w (w.sys .env).2 0 ∧ ∀ τ d, (rt w τ d).sys .env = ((w.sys .env).1, rt (w.sys .env).2 τ d) := by
  have h : ∀ w : World, w.sys .env = (.strings w.os.env, w) := fun w => by
    simp only [World.sys, Kernel.perform]
    rfl
  exact ⟨by rw [h]; exact ⟨rfl, rfl⟩, fun τ d => by rw [h, h]; rfl⟩

/-- What is said of a run: what it lists makes nobody deaf; it stops by a panic or for good; it hangs on the answers drawn alone. -/
def Local {α : Type} (P : Program) (s : Sem α) (w : World) (es : Array Event) : Prop :=
  ∃ (r : Result α) (us : Array Event) (n : Nat), (∀ e ∈ us, Hears e) ∧ okRes r ∧ DrewN w (resW r) n ∧ ∀ τ d, Ag τ d w.tape w.drawn n → s.runT P (rt w τ d) es = (resT r τ (d + n), es ++ us)

theorem hears_cell (a : Addr) (x y : Bool) : Hears ⟨.cell a, x, y⟩ := ⟨by simp, by simp⟩
theorem hears_obj (a : Nat) (x y : Bool) : Hears ⟨.obj a, x, y⟩ := ⟨by simp, by simp⟩
theorem hears_out (x y : Bool) : Hears ⟨.output, x, y⟩ := ⟨by simp, by simp⟩

theorem Local.done {α : Type} {P : Program} {s : Sem α} {w : World} {es : Array Event} (r : World → Result α) (h : ∀ τ d, s.runT P (rt w τ d) es = (r (rt w τ d), es)) (hr : ∀ τ d, r (rt w τ d) = resT (r w) τ d) (ho : okRes (r w)) (hd : DrewN w (resW (r w)) 0) : Local P s w es :=
  ⟨r w, #[], 0, by simp, ho, hd, fun τ d _ => by rw [h, hr]; simp⟩

/-- One step more, that draws nothing. -/
theorem Local.next {α : Type} {P : Program} {s : Sem α} {k : Sem α} {w w₁ : World} {es vs : Array Event} (hv : ∀ e ∈ vs, Hears e) (hd : DrewN w w₁ 0) (h : ∀ τ d, s.runT P (rt w τ d) es = k.runT P (rt w₁ τ d) (es ++ vs))
    (hk : Local P k w₁ (es ++ vs)) : Local P s w es := by
  obtain ⟨r, us, n, h1, h2, h3, h4⟩ := hk
  refine ⟨r, vs ++ us, n, fun e he => (Array.mem_append.1 he).elim (hv e) (h1 e), h2, ⟨h3.1.trans hd.1, by have := h3.2; have := hd.2; omega⟩, fun τ d hA => ?_⟩
  rw [h, h4 τ d (by rw [hd.1, hd.2]; simpa using hA), Array.append_assoc]

theorem tame_local {α : Type} (P : Program) {s : Sem α} (hs : Tame s) : ∀ (w : World) (es : Array Event), Local P s w es := by
  induction s with
  | pure a => exact fun w es => .done (fun w => .ok a w) (fun _ _ => rfl) (fun _ _ => rfl) trivial ⟨rfl, rfl⟩
  | load m a k ih =>
    intro w es
    cases hc : w.cell? a with
    | some v =>
      refine .next (k := k v) (w₁ := w) (vs := #[⟨.cell a, false, m == .atomic⟩]) (by intro e he; simp at he; subst he; exact hears_cell _ _ _) ⟨rfl, rfl⟩ (fun τ d => ?_) (ih v (hs v) w _)
      have : (rt w τ d).cell? a = some v := hc
      simp only [Sem.runT, this, Array.push_eq_append]
    | none =>
      cases hf : w.farLoad P a (m == .atomic) with
      | ok r =>
        obtain ⟨v, ts⟩ := r
        refine .next (k := k v) (w₁ := w) (vs := ts.toArray.map (⟨.cell ·, false, m == .atomic⟩)) (by intro e he; obtain ⟨x, _, rfl⟩ := Array.mem_map.1 he; exact hears_cell _ _ _) ⟨rfl, rfl⟩ (fun τ d => ?_) (ih v (hs v) w _)
        have h1 : (rt w τ d).cell? a = none := hc
        have h2 : (rt w τ d).farLoad P a (m == .atomic) = .ok (v, ts) := hf
        simp only [Sem.runT, h1, h2]
      | error h =>
        refine .done (fun w => .halt h w) (fun τ d => ?_) (fun _ _ => rfl) (farLoad_ok hf) ⟨rfl, rfl⟩
        have h1 : (rt w τ d).cell? a = none := hc
        have h2 : (rt w τ d).farLoad P a (m == .atomic) = .error h := hf
        simp only [Sem.runT, h1, h2]
  | store m a v k ih =>
    intro w es
    by_cases hv : (∃ c, v = .agg c) ∨ ∃ c, v = .tuple c
    · rcases hv with ⟨c, rfl⟩ | ⟨c, rfl⟩
      · exact .done (fun w => .halt (.stuck "store: not the value of one cell") w) (fun _ _ => by simp only [Sem.runT]) (fun _ _ => rfl) trivial ⟨rfl, rfl⟩
      · exact .done (fun w => .halt (.stuck "store: not the value of one cell") w) (fun _ _ => by simp only [Sem.runT]) (fun _ _ => rfl) trivial ⟨rfl, rfl⟩
    · have e : ∀ w es, (Sem.store m a v k).runT P w es = match w.cell? a with
        | some _ =>
          if w.frozen? a then (.halt (.unsupported (.unsafePointer "a write to bytes that a string shares")) w, es)
          else k.runT P (w.setCell a v) (es.push ⟨.cell a, true, m == .atomic⟩)
        | none => match w.farStore P a v (m == .atomic) with
          | .ok (w, touched) => k.runT P w (es ++ touched.toArray.map (⟨.cell ·, true, m == .atomic⟩))
          | .error h => (.halt h w, es) := by
        intro w es
        cases v <;> first | rfl | exact absurd (.inl ⟨_, rfl⟩) hv | exact absurd (.inr ⟨_, rfl⟩) hv
      cases hc : w.cell? a with
      | some u =>
        by_cases hf : w.frozen? a = true
        · refine .done (fun w => .halt (.unsupported (.unsafePointer "a write to bytes that a string shares")) w) (fun τ d => ?_) (fun _ _ => rfl) trivial ⟨rfl, rfl⟩
          have h1 : (rt w τ d).cell? a = some u := hc
          have h2 : (rt w τ d).frozen? a = true := hf
          rw [e]; simp only [h1, h2, if_true]
        · refine .next (k := k) (w₁ := w.setCell a v) (vs := #[⟨.cell a, true, m == .atomic⟩]) (by intro e he; simp at he; subst he; exact hears_cell _ _ _) ⟨rfl, rfl⟩ (fun τ d => ?_) (ih hs _ _)
          have h1 : (rt w τ d).cell? a = some u := hc
          have h2 : (rt w τ d).frozen? a = false := (by simpa using hf : w.frozen? a = false)
          rw [e]; simp only [h1, h2, Array.push_eq_append]; rfl
      | none =>
        cases hf : w.farStore P a v (m == .atomic) with
        | ok r =>
          obtain ⟨w₁, ts⟩ := r
          refine .next (k := k) (w₁ := w₁) (vs := ts.toArray.map (⟨.cell ·, true, m == .atomic⟩)) (by intro e he; obtain ⟨x, _, rfl⟩ := Array.mem_map.1 he; exact hears_cell _ _ _) (farStore_drew hf) (fun τ d => ?_) (ih hs _ _)
          have h1 : (rt w τ d).cell? a = none := hc
          have h2 := farStore_rt P w τ d a v (m == .atomic)
          rw [hf] at h2
          simp only [Except.map] at h2
          rw [e]; simp only [h1, h2]
        | error h =>
          refine .done (fun w => .halt h w) (fun τ d => ?_) (fun _ _ => rfl) (farStore_ok hf) ⟨rfl, rfl⟩
          have h1 : (rt w τ d).cell? a = none := hc
          have h2 := farStore_rt P w τ d a v (m == .atomic)
          rw [hf] at h2
          simp only [Except.map] at h2
          rw [e]; simp only [h1, h2]
  | new o k ih => exact fun w es => .next (k := k w.heap.size) (vs := #[]) (w₁ := { w with heap := w.heap.push o }) (by simp) ⟨rfl, rfl⟩ (fun τ d => by simp only [Sem.runT, Array.append_empty]; rfl) (ih _ (hs _) _ _)
  | shape r k ih => exact fun w es => .next (k := k (w.shape? r)) (vs := #[]) (w₁ := w) (by simp) ⟨rfl, rfl⟩ (fun τ d => by simp only [Sem.runT, Array.append_empty]; rfl) (ih (w.shape? r) (hs _) _ _)
  | freeze a n k ih =>
    intro w es
    have hd : DrewN w (w.freeze a n) 0 := by unfold World.freeze; split <;> exact ⟨rfl, rfl⟩
    refine .next (vs := #[]) (w₁ := w.freeze a n) (by simp) hd (fun τ d => ?_) (ih hs _ _)
    have : (rt w τ d).freeze a n = rt (w.freeze a n) τ d := by unfold World.freeze; split <;> rfl
    simp only [Sem.runT, Array.append_empty, this]
  | frozen a k ih => exact fun w es => .next (k := k (w.frozen? a)) (vs := #[]) (w₁ := w) (by simp) ⟨rfl, rfl⟩ (fun τ d => by simp only [Sem.runT, Array.append_empty]; rfl) (ih (w.frozen? a) (hs _) _ _)
  | getObj r k ih =>
    intro w es
    cases hc : w.heap[r]? with
    | none =>
      refine .done (fun w => .halt (.stuck "getObj: no such block") w) (fun τ d => ?_) (fun _ _ => rfl) trivial ⟨rfl, rfl⟩
      have h1 : (rt w τ d).heap[r]? = none := hc
      simp only [Sem.runT, h1]
    | some o =>
      have h1 : ∀ τ d, (rt w τ d).heap[r]? = some o := fun _ _ => hc
      by_cases ho : ∃ a b c, o = .cells a b c
      · obtain ⟨a, b, c, rfl⟩ := ho
        refine .done (fun w => .halt (.stuck "getObj: a row of cells") w) (fun τ d => ?_) (fun _ _ => rfl) trivial ⟨rfl, rfl⟩
        simp only [Sem.runT, h1]
      · refine .next (k := k o) (w₁ := w) (vs := #[⟨.obj r, false, o.isChan⟩]) (by intro e he; simp at he; subst he; exact hears_obj _ _ _) ⟨rfl, rfl⟩ (fun τ d => ?_) (ih o (hs o) w _)
        cases o <;> first | exact absurd ⟨_, _, _, rfl⟩ ho | simp only [Sem.runT, h1, Array.push_eq_append]
  | setObj r o k ih =>
    intro w es
    cases hc : w.heap[r]? with
    | none =>
      refine .done (fun w => .halt (.stuck "setObj: no such block") w) (fun τ d => ?_) (fun _ _ => rfl) trivial ⟨rfl, rfl⟩
      have h1 : (rt w τ d).heap[r]? = none := hc
      simp only [Sem.runT, h1]
    | some o' =>
      have h1 : ∀ τ d, (rt w τ d).heap[r]? = some o' := fun _ _ => hc
      by_cases ho : ∃ a b c, o' = .cells a b c
      · obtain ⟨a, b, c, rfl⟩ := ho
        refine .done (fun w => .halt (.stuck "setObj: a row of cells") w) (fun τ d => ?_) (fun _ _ => rfl) trivial ⟨rfl, rfl⟩
        simp only [Sem.runT, h1]
      · refine .next (k := k) (w₁ := { w with heap := w.heap.setIfInBounds r o }) (vs := #[⟨.obj r, true, o.isChan⟩]) (by intro e he; simp at he; subst he; exact hears_obj _ _ _) ⟨rfl, rfl⟩ (fun τ d => ?_) (ih hs _ _)
        cases o' <;> first | exact absurd ⟨_, _, _, rfl⟩ ho | (simp only [Sem.runT, h1, Array.push_eq_append]; rfl)
  | choose q k ih =>
    intro w es
    by_cases hq : q.forced = true
    · exact .next (k := k 0) (vs := #[]) (w₁ := w) (by simp) ⟨rfl, rfl⟩ (fun τ d => by simp only [Sem.runT, hq, if_true, Array.append_empty]) (ih _ (hs _) _ _)
    · obtain ⟨r, us, n, h1, h2, h3, h4⟩ := ih (q.cut (w.tape w.drawn q)) (hs _) { w with drawn := w.drawn + 1 } es
      refine ⟨r, us, 1 + n, h1, h2, ⟨h3.1, by have := h3.2; simp only at this; omega⟩, fun τ d hA => ?_⟩
      obtain ⟨e0, hA'⟩ := hA.tail
      have := h4 τ (d + 1) hA'
      have e1 : (rt w τ d).tape (rt w τ d).drawn = w.tape w.drawn := e0
      have e2 : ({ rt w τ d with drawn := (rt w τ d).drawn + 1 } : World) = rt { w with drawn := w.drawn + 1 } τ (d + 1) := rfl
      simp only [Sem.runT, hq, Bool.false_eq_true, if_false, e1, e2, this, Nat.add_assoc]
  | sys c k ih =>
    obtain ⟨rfl, hk⟩ := hs
    intro w es
    obtain ⟨hd, hw⟩ := sys_env_rt w
    refine .next (k := k (w.sys .env).1) (w₁ := (w.sys .env).2) (vs := #[⟨.output, true, false⟩]) (by intro e he; simp at he; subst he; exact hears_out _ _) hd (fun τ d => ?_) (ih _ (hk _) _ _)
    simp only [Sem.runT, hw, Array.push_eq_append]
  | program k ih => exact fun w es => .next (k := k P) (vs := #[]) (w₁ := w) (by simp) ⟨rfl, rfl⟩ (fun τ d => by simp only [Sem.runT, Array.append_empty]) (ih _ (hs _) _ _)
  | mark m k ih =>
    intro w es
    refine .next (k := k) (w₁ := w) (vs := #[⟨.mark m, false, true⟩]) (by intro e he; simp at he; subst he; exact ⟨fun x => hs.1 (Loc.mark.inj x), fun x => hs.2.1 (Loc.mark.inj x)⟩) ⟨rfl, rfl⟩ (fun τ d => ?_) (ih hs.2.2 _ _)
    simp only [Sem.runT, Array.push_eq_append]
  | halt h =>
    intro w es
    refine .done (fun w => .halt h w) (fun _ _ => rfl) (fun _ _ => rfl) ?_ ⟨rfl, rfl⟩
    cases h <;> first | trivial | exact hs.elim

end Go.Proofs.Ytjphaphnmclbcaa

/- Which operations, pieces of code and stacks of frames are plain: their steps are the goroutine's own, hang on the answers drawn alone, and make nobody deaf. No condition. -/
namespace Go.Proofs.Ytjphaphnmclbcaa
open Go Go.Conc

/-- What it ends in satisfies Q. -/
def Leaf {α : Type} (Q : α → Prop) : Sem α → Prop
  | .pure a => Q a
  | .load _ _ k => ∀ v, Leaf Q (k v)
  | .store _ _ _ k => Leaf Q k
  | .new _ k => ∀ r, Leaf Q (k r)
  | .shape _ k => ∀ s, Leaf Q (k s)
  | .freeze _ _ k => Leaf Q k
  | .frozen _ k => ∀ b, Leaf Q (k b)
  | .getObj _ k => ∀ o, Leaf Q (k o)
  | .setObj _ _ k => Leaf Q k
  | .choose _ k => ∀ n, Leaf Q (k n)
  | .sys _ k => ∀ r, Leaf Q (k r)
  | .program k => ∀ p, Leaf Q (k p)
  | .mark _ k => Leaf Q k
  | .halt _ => True

theorem leaf_bind {α β : Type} {Q : β → Prop} (x : Sem α) {f : α → Sem β} (hf : ∀ a, Leaf Q (f a)) : Leaf Q (x >>= f) := by
  show Leaf Q (x.bind f)
  induction x with
  | pure a => exact hf a
  | load m a k ih => exact fun v => ih v
  | store m a v k ih => exact ih
  | new o k ih => exact fun v => ih v
  | shape r k ih => exact fun v => ih v
  | freeze a n k ih => exact ih
  | frozen a k ih => exact fun v => ih v
  | getObj r k ih => exact fun v => ih v
  | setObj r o k ih => exact ih
  | choose q k ih => exact fun v => ih v
  | sys c k ih => exact fun v => ih v
  | program k ih => exact fun v => ih v
  | mark m k ih => exact ih
  | halt h => trivial

theorem store_runT {α : Type} {P : Program} {m : Mode} {a : Addr} {v : Value} {k : Sem α} (hv : ¬((∃ c, v = .agg c) ∨ ∃ c, v = .tuple c)) (w : World) (es : Array Event) : (Sem.store m a v k).runT P w es = match w.cell? a with
    | some _ =>
      if w.frozen? a then (.halt (.unsupported (.unsafePointer "a write to bytes that a string shares")) w, es)
      else k.runT P (w.setCell a v) (es.push ⟨.cell a, true, m == .atomic⟩)
    | none => match w.farStore P a v (m == .atomic) with
      | .ok (w, touched) => k.runT P w (es ++ touched.toArray.map (⟨.cell ·, true, m == .atomic⟩))
      | .error h => (.halt h w, es) := by
  cases v <;> first | rfl | exact absurd (.inl ⟨_, rfl⟩) hv | exact absurd (.inr ⟨_, rfl⟩) hv

theorem leaf_ok {α : Type} {Q : α → Prop} (P : Program) {s : Sem α} (hs : Leaf Q s) : ∀ (w : World) (es : Array Event) (a : α) (w' : World), (s.runT P w es).1 = .ok a w' → Q a := by
  induction s with
  | pure a => intro w es b w' h; simp only [Sem.runT, Result.ok.injEq] at h; exact h.1 ▸ hs
  | load m a k ih =>
    intro w es b w' h
    simp only [Sem.runT] at h
    split at h
    · exact ih _ (hs _) _ _ _ _ h
    · split at h
      · exact ih _ (hs _) _ _ _ _ h
      · cases h
  | store m a v k ih =>
    intro w es b w' h
    by_cases hv : (∃ c, v = .agg c) ∨ ∃ c, v = .tuple c
    · rcases hv with ⟨c, rfl⟩ | ⟨c, rfl⟩ <;> simp only [Sem.runT] at h <;> cases h
    · rw [store_runT hv] at h
      split at h
      · split at h
        · cases h
        · exact ih hs _ _ _ _ h
      · split at h
        · exact ih hs _ _ _ _ h
        · cases h
  | new o k ih => exact fun w es b w' h => ih _ (hs _) _ _ _ _ h
  | shape r k ih => exact fun w es b w' h => ih _ (hs _) _ _ _ _ h
  | freeze a n k ih => exact fun w es b w' h => ih hs _ _ _ _ h
  | frozen a k ih => exact fun w es b w' h => ih _ (hs _) _ _ _ _ h
  | getObj r k ih =>
    intro w es b w' h
    simp only [Sem.runT] at h
    split at h
    · cases h
    · exact ih _ (hs _) _ _ _ _ h
    · cases h
  | setObj r o k ih =>
    intro w es b w' h
    simp only [Sem.runT] at h
    split at h
    · cases h
    · exact ih hs _ _ _ _ h
    · cases h
  | choose q k ih =>
    intro w es b w' h
    simp only [Sem.runT] at h
    split at h
    · exact ih _ (hs _) _ _ _ _ h
    · exact ih _ (hs _) _ _ _ _ h
  | sys c k ih => exact fun w es b w' h => ih _ (hs _) _ _ _ _ h
  | program k ih => exact fun w es b w' h => ih _ (hs _) _ _ _ _ h
  | mark m k ih => exact fun w es b w' h => ih hs _ _ _ _ h
  | halt x => intro w es b w' h; cases h

/-- A value, or nothing. -/
def isVS : Next → Prop
  | .value _ | .skip => True
  | _ => False

def okBk : Builtin → Bool
  | .append | .len | .cap | .copy => true
  | _ => false

/-- The plain operations; calls of functions in F alone. -/
def okOp (F : Nat → Bool) (o : Oper) : Bool :=
  match o.op with
  | .move _ | .assign _ | .pick .. | .alloc _ | .box .. | .build .. | .buildSlice .. | .load .. | .store .. | .nilCheck _ | .binOp .. | .unOp .. | .convert .. | .sliceToArrayPointer ..
  | .makeInterface .. | .makeSlice .. | .slice .. | .fieldAddr .. | .field .. | .indexAddr .. | .index .. | .extract .. | .panic _ => true
  | .call { callee := .builtin b, .. } => okBk b
  | .call { callee := .value (.func f), .. } => F f
  | _ => false

/-- The functions in F have bodies. -/
def okFn (P : Program) (f : Nat) : Bool :=
  match P.funcs[f]? with
  | some fn => fn.name != "runtime.NumGoroutine" && fn.body.isSome
  | none => false

theorem tame_v {s : Sem Value} (h : Tame s) : Tame (do pure (.value (← s)) : Sem Next) := tame_bind h fun _ => trivial
theorem leaf_v {s : Sem Value} : Leaf isVS (do pure (.value (← s)) : Sem Next) := leaf_bind s fun _ => trivial
theorem tame_u {s : Sem Unit} (h : Tame s) : Tame (do s; pure .skip : Sem Next) := tame_bind h fun _ => trivial
theorem leaf_u {s : Sem Unit} : Leaf isVS (do s; pure .skip : Sem Next) := leaf_bind s fun _ => trivial

theorem execOp_ok {P : Program} {F : Nat → Bool} (hF : ∀ f, F f = true → okFn P f = true) {o : Oper} (h : okOp F o = true) (ρ : Operand → Value) (hρ : ∀ f, ρ (.func f) = .func (.func f) #[] #[]) :
    (∃ f args, F f = true ∧ ∀ w es, (execOp ρ o).runT P w es = (.ok (.enter f args) w, es)) ∨ (Tame (execOp ρ o) ∧ Leaf isVS (execOp ρ o)) := by
  obtain ⟨dst, op, type, pos, after, guard⟩ := o
  cases op <;> simp only [okOp, Bool.false_eq_true] at h
  case call c =>
    obtain ⟨callee, args, ats⟩ := c
    cases callee with
    | invoke r m => simp at h
    | builtin b =>
      right
      cases b <;> simp [okBk] at h
      · exact ⟨tame_v (tame_append _ _ _), leaf_v (s := Builtin.append_ _ _ _)⟩
      · exact ⟨tame_v (tame_cap _ _ _), leaf_v (s := Builtin.cap_ _ _ _)⟩
      · exact ⟨tame_v (tame_copy _ _ _), leaf_v (s := Builtin.copy_ _ _ _)⟩
      · exact ⟨tame_v (tame_len _ _ _), leaf_v (s := Builtin.len_ _ _ _)⟩
    | value x =>
      cases x <;> simp at h
      rename_i f
      left
      have hf := hF f h
      unfold okFn at hf
      split at hf
      · rename_i fn hfn
        simp only [Bool.and_eq_true, bne_iff_ne, ne_eq] at hf
        refine ⟨f, (#[] ++ args.map ρ) ++ #[], h, fun w es => ?_⟩
        have hb : fn.body.isNone = false := by
          have := hf.2
          cases hx : fn.body <;> simp_all
        have e1 : execOp ρ { dst := dst, op := .call { callee := .value (.func f), args := args, argTypes := ats }, type := type, pos := pos, after := after, guard := guard } = callFunc f ((#[] ++ args.map ρ) ++ #[]) := by
          show ((Deferred.ofValue (ρ (.func f)) (args.map ρ)) >>= fun d => invoke d.target d.args) = _
          rw [hρ]
          rfl
        have hn : (fn.name == "runtime.NumGoroutine") = false := by simpa using hf.1
        rw [e1]
        unfold callFunc
        simp only [bind, Sem.bind, program, Sem.runT, hfn, hn, hb, Bool.false_eq_true, if_false]
        rfl
      · cases hf
  all_goals right
  case move x => exact ⟨trivial, trivial⟩
  case assign x => exact ⟨trivial, trivial⟩
  case pick c a b => exact ⟨tame_bind (tame_asBool _) fun _ => trivial, leaf_bind _ fun _ => trivial⟩
  case alloc e => exact ⟨tame_v (tame_alloc _ _ _), leaf_v⟩
  case box e x => exact ⟨tame_v (tame_box _ _), leaf_v⟩
  case build t p => exact ⟨tame_v (tame_build _ _), leaf_v⟩
  case buildSlice t n p => exact ⟨tame_v (tame_buildSlice _ _ _), leaf_v⟩
  case load t a => exact ⟨tame_v (tame_loadAt _ _), leaf_v⟩
  case store t a x => exact ⟨tame_u (tame_storeAt _ _ _), leaf_u⟩
  case nilCheck x =>
    unfold execOp
    dsimp only
    generalize ρ x = v
    cases v with
    | pointer p => cases p <;> first | exact ⟨tame_runtimePanic _, leaf_bind _ fun _ => trivial⟩ | exact ⟨trivial, trivial⟩
    | func fn a b =>
      cases fn with
      | method name =>
        refine ⟨?_, ?_⟩
        · dsimp only
          repeat' (first
            | with_reducible exact tame_runtimePanic _
            | with_reducible exact tame_unsupported _
            | with_reducible exact tame_program
            | with_reducible exact tame_nilAhead _ _ _ _
            | with_reducible exact tame_pure _
            | with_reducible refine tame_bind ?_ (fun _ => ?_)
            | with_reducible refine tame_ite ?_ ?_
            | split
            | dsimp only)
        · dsimp only
          repeat' (first
            | exact trivial
            | exact leaf_bind program fun _ => trivial
            | with_reducible refine leaf_bind _ (fun _ => ?_)
            | split
            | dsimp only)
      | _ => exact ⟨trivial, trivial⟩
    | nilIface => exact ⟨tame_runtimePanic _, leaf_bind _ fun _ => trivial⟩
    | nilFunc => exact ⟨tame_runtimePanic _, leaf_bind _ fun _ => trivial⟩
    | _ => exact ⟨trivial, trivial⟩
  case binOp op t x y g => exact ⟨tame_v (tame_bind (tame_eqGuard _ _ _ _ _ _) fun _ => tame_binOp _ _ _ _), leaf_v⟩
  case unOp op t x => exact ⟨tame_v (tame_unary _ _), leaf_v⟩
  case convert a b x => exact ⟨tame_v (tame_convert _ _ _), leaf_v⟩
  case sliceToArrayPointer a x => exact ⟨tame_v (tame_arrayAt _ _), leaf_v⟩
  case makeInterface t x => exact ⟨tame_v (tame_makeInterface _ _), leaf_v⟩
  case makeSlice t a b => exact ⟨tame_v (tame_makeSlice _ _ _), leaf_v⟩
  case slice t x l h m => exact ⟨tame_v (tame_sliceAt _ _ _ _ _), leaf_v⟩
  case fieldAddr t x f => exact ⟨tame_v (tame_fieldAt _ _ _), leaf_v⟩
  case field t x f => exact ⟨tame_v (tame_field _ _ _), leaf_v⟩
  case indexAddr t x i => exact ⟨tame_v (tame_indexAt _ _ _), leaf_v⟩
  case index t x i => exact ⟨tame_v (tame_index _ _ _), leaf_v⟩
  case extract t i => exact ⟨tame_v (tame_extract _ _), leaf_v⟩
  case panic x => exact ⟨tame_v (tame_panic _), leaf_v⟩

/-! ### pieces of code, frames, stacks -/

def okCode (F : Nat → Bool) : Code → Bool
  | .skip | .label _ | .ret | .exit _ => true
  | .seq a b => okCode F a && okCode F b
  | .cond _ a b => okCode F a && okCode F b
  | .block _ c => okCode F c
  | .loop c => okCode F c
  | .region _ ops _ => ops.all (okOp F)
  | _ => false

def okItem (F : Nat → Bool) : Item → Bool
  | .code c => okCode F c
  | .inLoop c => okCode F c
  | .inBlock _ => true
  | .inRegion ops _ => ops.all (okOp F)
  | _ => false

/-- The functions in F are plain throughout. -/
def plainFn (P : Program) (F : Nat → Bool) (f : Nat) : Bool :=
  match P.funcs[f]? with
  | some fn => fn.name != "runtime.NumGoroutine" && (match fn.body with | some c => okCode F c | none => false)
  | none => false

theorem okFn_of_plain {P : Program} {F : Nat → Bool} {f : Nat} (h : plainFn P F f = true) : okFn P f = true := by
  unfold plainFn at h
  unfold okFn
  split at h
  · simp only [Bool.and_eq_true] at h ⊢
    refine ⟨h.1, ?_⟩
    have := h.2
    split at this
    · simp_all
    · cases this
  · cases h

/-- Its results stand in temporaries. -/
def tmpRes (P : Program) (f : Nat) : Bool :=
  match P.funcs[f]? with
  | some fn => fn.results.all fun | .tmp _ => true | _ => false
  | none => false

structure OkF (P : Program) (F : Nat → Bool) (f : Frame) : Prop where
  defers : f.defers = []
  round : f.roundOf = none
  kind : f.kind = .normal
  todo : ∀ x ∈ f.todo, okItem F x = true
  res : tmpRes P f.fn = true

/-- A frame that waits for a call. -/
def Waits (f : Frame) : Prop := f.mode = .run ∧ ∃ ops i rest T, f.todo = .inRegion ops (i :: rest) :: T

/-- The frames above a base, the top first. -/
def StackOk (P : Program) (F : Nat → Bool) : List Frame → Prop
  | [] => False
  | f :: inner => OkF P F f ∧ ∀ g ∈ inner, OkF P F g ∧ Waits g

/-- The frames with something more to do for the lowest. -/
def ext (k : List Item) : List Frame → List Frame
  | [] => []
  | [b] => [{ b with todo := b.todo ++ k }]
  | f :: g :: r => f :: ext k (g :: r)

def tp (k : List Item) (f : Frame) (inner : List Frame) : Frame := { f with todo := f.todo ++ (if inner.isEmpty then k else []) }
theorem ext_cons (k : List Item) (f : Frame) (inner : List Frame) : ext k (f :: inner) = tp k f inner :: ext k inner := by
  cases inner with
  | nil => rfl
  | cons g r => simp [ext, tp]

/-- The goroutine with these frames above cs. -/
def gx : List Frame → List Frame → Goroutine
  | f :: inner, cs => G f (inner ++ cs)
  | [], _ => default

theorem gx_ext (k : List Item) (f : Frame) (inner cs : List Frame) : gx (ext k (f :: inner)) cs = G (tp k f inner) (ext k inner ++ cs) := by rw [ext_cons]; rfl

end Go.Proofs.Ytjphaphnmclbcaa

/- A step of a plain stack of frames: it is the goroutine's own and plain again, or the run is at its end. No condition. -/
namespace Go.Proofs.Ytjphaphnmclbcaa
open Go Go.Conc

theorem mem_seen {P : Program} {fn : FuncId} {es : Array Event} {e : Event} (h : e ∈ seen P fn es) : e ∈ es := by
  unfold seen at h
  have key : ∀ (l : List Event) (q : Bool) (kept : Array Event), e ∈ (l.foldl (fun (x : Bool × Array Event) e =>
      match e.loc with
      | .mark (.extern f) => ((P.funcs[f]?).any (·.norace), x.2)
      | _ => (x.1, if x.1 && !e.sync then x.2 else x.2.push e)) (q, kept)).2 → e ∈ kept ∨ e ∈ l := by
    intro l
    induction l with
    | nil => intro q kept h; exact .inl h
    | cons y l ih =>
      intro q kept h
      rw [List.foldl_cons] at h
      rcases ih _ _ h with h' | h'
      · dsimp only at h'
        split at h'
        · exact .inl h'
        · dsimp only at h'
          split at h'
          · exact .inl h'
          · rcases Array.mem_push.1 h' with h'' | rfl
            · exact .inl h''
            · exact .inr (by simp)
      · exact .inr (by simp [h'])
  dsimp only at h
  rw [← Array.foldl_toList] at h
  rcases key es.toList _ #[] h with h' | h'
  · simp at h'
  · exact Array.mem_toList_iff.1 h'

/-- The sentinels: what ends a run at once. -/
def ks : List Item := [.code (.refuse "")]
def c0 : Frame := { fn := 0, tmps := #[], todo := ks, defers := [{ target := .nil, args := #[] }], mode := .run, kind := .normal }

/-- What stands below the lowest frame's own work: the sentinel, or nothing. -/
def kz (z : Bool) : List Item := if z then ks else []

/-- No state behind this one, run alone, stands above the sentinel. -/
def DeadIn (P : Program) (g : Goroutine) (w : World) : Prop := ∀ m g' w', runN P (m + 1) (solo g w) = .next (solo g' w') → g'.callers ≠ [c0]

theorem step_solo {P : Program} {g : Goroutine} {w : World} (hs : g.status = .running) : step P (solo g w) = (runT P (solo g w) 0).1 := by rw [step, stepT_solo hs]
theorem step_solo_go {P : Program} {g g' : Goroutine} {w w' : World} {es : Array Event} (hs : g.status = .running) (h : stepG P true g w = .go g' w' es) : step P (solo g w) = .next (solo g' w') := by
  rw [step_solo hs, runT_solo_go h]
theorem step_solo_ended {P : Program} {g : Goroutine} {w w' : World} {o : Outcome} {es : Array Event} (hs : g.status = .running) (h : stepG P true g w = .ended o w' es) : step P (solo g w) = .ended o w' := by
  rw [step_solo hs]
  have := runT_many_ended (P := P) (gs := #[g]) (w := w) (sl := none) (i := 0) (g := g) rfl (show stepG P (0 == 0) g w = _ from h)
  rw [solo_eq_crowd, this]

theorem deadIn_ended {P : Program} {g : Goroutine} {w w' : World} {o : Outcome} {es : Array Event} (hs : g.status = .running) (h : stepG P true g w = .ended o w' es) : DeadIn P g w := by
  intro m g' w₁ hr
  simp only [runN, step_solo_ended hs h] at hr
  cases hr

theorem deadIn_two {P : Program} {g g₁ : Goroutine} {w w₁ w₂ : World} {o : Outcome} {es es' : Array Event} (hs : g.status = .running) (h : stepG P true g w = .go g₁ w₁ es) (hs₁ : g₁.status = .running) (hc : g₁.callers = [])
    (h₁ : stepG P true g₁ w₁ = .ended o w₂ es') : DeadIn P g w := by
  intro m g' w' hr
  simp only [runN, step_solo_go hs h] at hr
  cases m with
  | zero =>
    simp only [runN, Stepped.next.injEq] at hr
    have : g₁ = g' := by
      have := congrArg (fun m => m.gs[0]?) hr
      simpa [solo] using this
    rw [← this, hc]
    simp
  | succ m =>
    simp only [runN, step_solo_ended hs₁ h₁] at hr
    cases hr

/-- The step is the goroutine's own, whatever stands below, and plain again. -/
def StepA (z : Bool) (P : Program) (F : Nat → Bool) (σ : List Frame) (w : World) : Prop :=
  ∃ (σ' : List Frame) (w' : World) (es : Array Event) (n : Nat), StackOk P F σ' ∧ (∀ e ∈ es, Hears e) ∧ DrewN w w' n ∧
    ∀ τ d, Ag τ d w.tape w.drawn n → ∀ k cs, (z = false → k = []) → stepG P true (gx (ext k σ) cs) (rt w τ d) = .go (gx (ext k σ') cs) (rt w' τ (d + n)) es

def kk (k : List Item) (inner : List Frame) : List Item := if inner.isEmpty then k else []

section
variable {z : Bool} {P : Program} {F : Nat → Bool} {f : Frame} {inner : List Frame}

theorem tp_run (hO : OkF P F f) (hm : f.mode = .run) (k : List Item) : tp k f inner = f.at ⟨f.tmps, []⟩ (f.todo ++ kk k inner) := by
  obtain ⟨fn, tmps, todo, defers, mode, kind, round⟩ := f
  obtain ⟨h1, h2, h3, _, _⟩ := hO
  simp only at h1 h2 hm
  subst h1 h2 hm
  rfl

theorem tp_at (a : Act) (T : List Item) (k : List Item) : tp k (f.at a T) inner = f.at a (T ++ kk k inner) := rfl

theorem okF_at (hO : OkF P F f) (a : Act) (T : List Item) (ha : a.defers = []) (hT : ∀ x ∈ T, okItem F x = true) : OkF P F (f.at a T) := ⟨ha, rfl, hO.kind, hT, hO.res⟩

/-- A move of control. -/
theorem stepA_ctl (h : StackOk P F (f :: inner)) (hm : f.mode = .run) {T' : List Item} (hT : ∀ x ∈ T', okItem F x = true)
    (hstep : ∀ (r : List Item) (cs : List Frame) (w : World), stepG P true (G (f.at ⟨f.tmps, []⟩ (f.todo ++ r)) cs) w = .go (G (f.at ⟨f.tmps, []⟩ (T' ++ r)) cs) w) (w : World) : StepA z P F (f :: inner) w := by
  refine ⟨f.at ⟨f.tmps, []⟩ T' :: inner, w, #[], 0, ⟨okF_at h.1 _ _ rfl hT, h.2⟩, by simp, ⟨rfl, rfl⟩, fun τ d _ k cs _ => ?_⟩
  rw [gx_ext, gx_ext, tp_run h.1 hm, tp_at]
  exact hstep _ _ _

/-- The static facts of a program. -/
structure Plain (P : Program) (F : Nat → Bool) : Prop where
  fns : ∀ f, F f = true → plainFn P F f = true ∧ tmpRes P f = true
  ahead : P.follows .staticDataAhead = true
  steps : ∀ g, P.stepOf g = none

theorem early_ended (H : Plain P F) (fr : Frame) (cs : List Frame) (g : Nat) (w : World) : early P fr cs none g w = .ended (.unsupported (.initOrder g) (fr.pos P)) w := by
  unfold early
  simp only [H.ahead, H.steps g, Bool.not_true, Bool.false_eq_true, if_false]

theorem dead_ctl {w : World} {g : Goroutine} (hs : g.status = .running) (h : ∀ w, ∃ o es, stepG P true g w = .ended o w es) : ∃ n, ∀ τ d, Ag τ d w.tape w.drawn n → DeadIn P g (rt w τ d) :=
  ⟨0, fun τ d _ => let ⟨_, _, h'⟩ := h (rt w τ d); deadIn_ended hs h'⟩

theorem oper_step (H : Plain P F) (h : StackOk P F (f :: inner)) {ops : Array Oper} {i : Nat} {rest : List Nat} {T : List Item} (hT : f.todo = .inRegion ops (i :: rest) :: T) (hm : f.mode = .run) {o : Oper} (ho : ops[i]? = some o)
    (hw : Region.wanted o (yielded ops f.tmps) = true) (w : World) : StepA z P F (f :: inner) w ∨ ∃ n, ∀ τ d, Ag τ d w.tape w.drawn n → DeadIn P (gx (ext (kz z) (f :: inner)) [c0]) (rt w τ d) := by
  have hall : ops.all (okOp F) = true := by have := h.1.todo (.inRegion ops (i :: rest)) (by rw [hT]; simp); simpa [okItem] using this
  have hok : okOp F o = true := by
    rw [Array.all_eq_true_iff_forall_mem] at hall
    exact hall o (Array.mem_of_getElem? ho)
  have hTo : ∀ x ∈ T, okItem F x = true := fun x hx => h.1.todo x (by rw [hT]; simp [hx])
  have hreg : ∀ rest', okItem F (.inRegion ops rest') = true := fun _ => by simpa [okItem] using hall
  have hstep : ∀ (r : List Item) (cs : List Frame) (w : World), stepG P true (G (f.at ⟨f.tmps, []⟩ (f.todo ++ r)) cs) w = stepG.apply P true (f.at ⟨f.tmps, []⟩ (f.todo ++ r)) cs none (execOp (Act.eval ⟨f.tmps, []⟩) o) w := by
    intro r cs w
    rw [hT]
    exact stepG_oper ho hw
  have hk : (f.kind == CallKind.early) = false := by rw [h.1.kind]; rfl
  have hfin : ∀ (r : List Item) (v : Value), (f.at ⟨f.tmps, []⟩ (f.todo ++ r)).finish v = f.at (Act.put ⟨f.tmps, []⟩ o.dst v) ((.inRegion ops rest :: T) ++ r) := by
    intro r v
    rw [hT]
    have := Frame.finish_at f ⟨f.tmps, []⟩ ops i rest (T ++ r) v
    rw [ho] at this
    exact this
  have hTR : ∀ x ∈ (.inRegion ops rest :: T), okItem F x = true := fun x hx => by
    rcases List.mem_cons.1 hx with rfl | hx
    · exact hreg _
    · exact hTo x hx
  rcases execOp_ok (P := P) (fun g hg => okFn_of_plain (H.fns g hg).1) hok (Act.eval ⟨f.tmps, []⟩) (fun _ => rfl) with ⟨g, args, hg, hrun⟩ | ⟨ht, hl⟩
  · -- a call
    left
    obtain ⟨hp, hres⟩ := H.fns g hg
    refine ⟨Frame.enter P g args .normal :: f :: inner, w, #[], 0, ⟨⟨rfl, rfl, rfl, ?_, hres⟩, ?_⟩, by simp, ⟨rfl, rfl⟩, fun τ d _ k cs _ => ?_⟩
    · intro x hx
      simp only [Frame.enter, List.mem_cons, List.not_mem_nil, or_false] at hx
      subst hx
      unfold plainFn at hp
      cases hfn : P.funcs[g]? with
      | none => rw [hfn] at hp; cases hp
      | some fn =>
        rw [hfn] at hp
        simp only [Bool.and_eq_true] at hp
        have := hp.2
        cases hb : fn.body with
        | none => rw [hb] at this; cases this
        | some c => rw [hb] at this; simpa [okItem, hb] using this
    · intro y hy
      rcases List.mem_cons.1 hy with rfl | hy
      · exact ⟨h.1, hm, ops, i, rest, T, hT⟩
      · exact h.2 y hy
    · rw [gx_ext, gx_ext, tp_run h.1 hm, hstep]
      unfold stepG.apply
      simp only [if_true, hrun]
      have e1 : (Frame.at f ⟨f.tmps, []⟩ (f.todo ++ kk k inner)).kind = f.kind := rfl
      have e2 : (Frame.at f ⟨f.tmps, []⟩ (f.todo ++ kk k inner)).todo = .inRegion ops (i :: rest) :: (T ++ kk k inner) := by show f.todo ++ _ = _; rw [hT]; rfl
      simp only [e1, e2, hk, Bool.false_eq_true, if_false]
      have e3 : ext k (f :: inner) = f.at ⟨f.tmps, []⟩ (f.todo ++ kk k inner) :: ext k inner := by rw [ext_cons, tp_run h.1 hm]
      have e4 : tp k (Frame.enter P g args .normal) (f :: inner) = Frame.enter P g args .normal := by simp [tp, Frame.enter]
      rw [e3, e4]
      simp [GStep.after, seen, G]
  · -- an operation that is carried out
    obtain ⟨r, us, n, hu, hr, hd, hloc⟩ := tame_local P ht w #[]
    have hself := hloc w.tape w.drawn (fun _ _ => rfl)
    have e0 : rt w w.tape w.drawn = w := rfl
    have hes : ∀ e ∈ seen P f.fn (#[] ++ us), Hears e := fun e he => hu e (by simpa using mem_seen he)
    cases r with
    | ok a w' =>
      have hv : isVS a := leaf_ok P hl w #[] a (rt w' w.tape (w.drawn + n)) (by rw [e0] at hself; rw [hself]; rfl)
      left
      have key : ∀ v, (a = .value v ∨ (a = .skip ∧ v = undef)) → StepA z P F (f :: inner) w := by
        intro v hav
        refine ⟨f.at (Act.put ⟨f.tmps, []⟩ o.dst v) (.inRegion ops rest :: T) :: inner, w', seen P f.fn (#[] ++ us), n, ⟨okF_at h.1 _ _ (by cases o.dst <;> rfl) hTR, h.2⟩, hes, hd, fun τ d hA k cs _ => ?_⟩
        rw [gx_ext, gx_ext, tp_run h.1 hm, tp_at, hstep]
        unfold stepG.apply
        simp only [if_true, hloc τ d hA]
        have e1 : (Frame.at f ⟨f.tmps, []⟩ (f.todo ++ kk k inner)).kind = f.kind := rfl
        have e2 : (Frame.at f ⟨f.tmps, []⟩ (f.todo ++ kk k inner)).fn = f.fn := rfl
        rcases hav with rfl | ⟨rfl, rfl⟩ <;>
        · simp only [resT, e1, e2, hk, Bool.false_eq_true, if_false, hfin]
          simp [GStep.after, G]
      cases a <;> first | exact hv.elim | skip
      · exact key _ (.inl rfl)
      · exact key _ (.inr ⟨rfl, rfl⟩)
    | halt x w' =>
      cases x <;> first | exact hr.elim | skip
      case panic v =>
        left
        have er : f.raise [{ v, recovered := false }] = { f with mode := .panicking [{ v, recovered := false }] } := by unfold Frame.raise; rw [hm]
        refine ⟨(f.raise [{ v, recovered := false }]) :: inner, w', seen P f.fn (#[] ++ us), n, ⟨by rw [er]; exact ⟨h.1.defers, h.1.round, h.1.kind, h.1.todo, h.1.res⟩, h.2⟩, hes, hd, fun τ d hA k cs _ => ?_⟩
        rw [gx_ext, gx_ext, tp_run h.1 hm, hstep, er]
        unfold stepG.apply
        simp only [if_true, hloc τ d hA]
        have e1 : (Frame.at f ⟨f.tmps, []⟩ (f.todo ++ kk k inner)).kind = f.kind := rfl
        have e2 : (Frame.at f ⟨f.tmps, []⟩ (f.todo ++ kk k inner)).fn = f.fn := rfl
        simp only [resT, e1, e2, hk, Bool.false_eq_true, if_false]
        have e5 : tp k { f with mode := .panicking [{ v, recovered := false }] } inner = { f.at ⟨f.tmps, []⟩ (f.todo ++ kk k inner) with mode := .panicking [{ v, recovered := false }] } := by
          rw [← tp_run h.1 hm]; rfl
        rw [e5]
        simp [GStep.after, G, Frame.raise, Frame.at]
      case stuck s =>
        right
        refine ⟨n, fun τ d hA => ?_⟩
        rw [gx_ext]
        have e1 : (Frame.at f ⟨f.tmps, []⟩ (f.todo ++ kk (kz z) inner)).kind = f.kind := rfl
        have e2 : (Frame.at f ⟨f.tmps, []⟩ (f.todo ++ kk (kz z) inner)).fn = f.fn := rfl
        have hs : stepG P true (G (tp (kz z) f inner) (ext (kz z) inner ++ [c0])) (rt w τ d) = stepG.apply P true (f.at ⟨f.tmps, []⟩ (f.todo ++ kk (kz z) inner)) (ext (kz z) inner ++ [c0]) none (execOp (Act.eval ⟨f.tmps, []⟩) o) (rt w τ d) := by
          rw [tp_run h.1 hm, hstep]
        unfold stepG.apply at hs
        simp only [if_true, hloc τ d hA, resT, e1, e2, hk, Bool.false_eq_true, if_false] at hs
        exact deadIn_ended rfl hs
      case unsupported u =>
        right
        refine ⟨n, fun τ d hA => ?_⟩
        rw [gx_ext]
        have e1 : (Frame.at f ⟨f.tmps, []⟩ (f.todo ++ kk (kz z) inner)).kind = f.kind := rfl
        have e2 : (Frame.at f ⟨f.tmps, []⟩ (f.todo ++ kk (kz z) inner)).fn = f.fn := rfl
        have hs : stepG P true (G (tp (kz z) f inner) (ext (kz z) inner ++ [c0])) (rt w τ d) = stepG.apply P true (f.at ⟨f.tmps, []⟩ (f.todo ++ kk (kz z) inner)) (ext (kz z) inner ++ [c0]) none (execOp (Act.eval ⟨f.tmps, []⟩) o) (rt w τ d) := by
          rw [tp_run h.1 hm, hstep]
        unfold stepG.apply at hs
        simp only [if_true, hloc τ d hA, resT, e1, e2, hk, Bool.false_eq_true, if_false] at hs
        cases u <;> first
          | exact deadIn_ended rfl hs
          | (dsimp only at hs; rw [early_ended H] at hs; exact deadIn_ended rfl hs)

theorem mapM_pureL {α β : Type} {g : α → Sem β} : ∀ (l : List α), (∀ x ∈ l, ∃ y, g x = pure y) → ∃ ys, l.mapM g = pure ys
  | [], _ => ⟨[], List.mapM_nil⟩
  | a :: l, h => by
    obtain ⟨y, hy⟩ := h a (by simp)
    obtain ⟨ys, hys⟩ := mapM_pureL l fun x hx => h x (by simp [hx])
    exact ⟨y :: ys, by rw [List.mapM_cons, hy, hys]; rfl⟩

theorem results_tmps {fn : Func} (h : (fn.results.all fun | .tmp _ => true | _ => false) = true) (tmps : Array Value) : ∃ v, ∀ P w es, (results fn tmps).runT P w es = (.ok v w, es) := by
  rw [Array.all_eq_true_iff_forall_mem] at h
  unfold results
  rw [Array.mapM_eq_mapM_toList]
  have key : ∀ g : ResultVar → Sem Value, (∀ x ∈ fn.results.toList, ∃ y, g x = pure y) →
      ∃ v, ∀ P w es, Sem.runT P (do let vs ← List.toArray <$> List.mapM g fn.results.toList; pure (if h : vs.size = 1 then vs[0] else .tuple vs)) w es = (.ok v w, es) := by
    intro g hg
    obtain ⟨ys, hys⟩ := mapM_pureL fn.results.toList hg
    exact ⟨_, fun P w es => by rw [hys]; rfl⟩
  refine key _ fun x hx => ?_
  have := h x (Array.mem_toList_iff.1 hx)
  cases x with
  | tmp t => exact ⟨_, rfl⟩
  | cell a t => cases this

theorem exitTo_app {id : Nat} {r : List Item} : ∀ {T k' : List Item}, exitTo id T = some k' → exitTo id (T ++ r) = some (k' ++ r) ∧ ∀ x ∈ k', x ∈ T
  | [], _, h => by simp [exitTo] at h
  | x :: T, k', h => by
    cases x with
    | inBlock id' =>
      simp only [exitTo, List.cons_append] at h ⊢
      split at h
      · cases h
        rename_i he
        simp only [he, if_true, true_and]
        intro x hx; simp [hx]
      · rename_i he
        simp only [he]
        obtain ⟨h1, h2⟩ := exitTo_app (r := r) h
        exact ⟨h1, fun x hx => by simp [h2 x hx]⟩
    | _ =>
      simp only [exitTo, List.cons_append] at h ⊢
      obtain ⟨h1, h2⟩ := exitTo_app (r := r) h
      exact ⟨h1, fun x hx => by simp [h2 x hx]⟩

theorem exitTo_none {id : Nat} {r : List Item} (hr : exitTo id r = none) : ∀ {T : List Item}, exitTo id T = none → exitTo id (T ++ r) = none
  | [], _ => hr
  | x :: T, h => by
    cases x with
    | inBlock id' =>
      simp only [exitTo, List.cons_append] at h ⊢
      split at h
      · cases h
      · rename_i he
        simp only [he]
        exact exitTo_none hr h
    | _ =>
      simp only [exitTo, List.cons_append] at h ⊢
      exact exitTo_none hr h

theorem kk_exit (z : Bool) (id : Nat) (inner : List Frame) : exitTo id (kk (kz z) inner) = none := by unfold kk; split <;> cases z <;> rfl

theorem dich (H : Plain P F) {σ : List Frame} (h : StackOk P F σ) (w : World) : StepA z P F σ w ∨ ∃ n, ∀ τ d, Ag τ d w.tape w.drawn n → DeadIn P (gx (ext (kz z) σ) [c0]) (rt w τ d) := by
  cases σ with
  | nil => exact h.elim
  | cons f inner =>
  cases hm : f.mode with
  | returning =>
    have hres := h.1.res
    unfold tmpRes at hres
    cases hfn : P.funcs[f.fn]? with
    | none => rw [hfn] at hres; cases hres
    | some fn =>
      rw [hfn] at hres
      obtain ⟨v, hv⟩ := results_tmps hres f.tmps
      have hstep : ∀ (k : List Item) (c : Frame) (cs : List Frame) (w : World), stepG P true (G (tp k f inner) (c :: cs)) w = .go (G (c.finish v) cs) w := by
        intro k c cs w
        have h1 : (results fn f.tmps).run P w = .ok v w := by rw [← Sem.runT_fst P _ w #[], hv]
        have h2 : (results fn f.tmps).events P w #[] = #[] := by unfold Sem.events; rw [hv]
        simp [G, stepG, unwind, doReturn, tp, hm, h.1.defers, hfn, h1, h2, h.1.kind, seen, GStep.after]
      cases inner with
      | nil =>
        refine .inr ⟨0, fun τ d _ => ?_⟩
        rw [gx_ext]
        obtain ⟨o, ho⟩ : ∃ o, stepG P true (G (c0.finish v) []) (rt w τ d) = .ended o (rt w τ d) #[] := ⟨_, by simp [G, stepG, stepG.exec, c0, ks, Frame.finish]; rfl⟩
        exact deadIn_two (g₁ := G (c0.finish v) []) (w₂ := rt w τ d) rfl (hstep (kz z) c0 [] _) rfl rfl ho
      | cons g r =>
        left
        obtain ⟨hg, hgm, ops, i, rest, T, hgT⟩ := h.2 g (by simp)
        have hall : ∀ rest', okItem F (.inRegion ops rest') = true := fun _ => by have := hg.todo (.inRegion ops (i :: rest)) (by rw [hgT]; simp); simpa [okItem] using this
        have hfin : ∀ x, x ∈ (g.finish v).todo → okItem F x = true := by
          intro x hx
          simp only [Frame.finish, hgT, List.mem_cons] at hx
          rcases hx with rfl | hx
          · exact hall _
          · exact hg.todo x (by rw [hgT]; simp [hx])
        refine ⟨g.finish v :: r, w, #[], 0, ⟨⟨by simp [Frame.finish, hgT, hg.defers], by simp [Frame.finish, hgT, hg.round], by simp [Frame.finish, hgT, hg.kind], hfin, by simp [Frame.finish, hgT, hg.res]⟩, fun y hy => h.2 y (by simp [hy])⟩, by simp, ⟨rfl, rfl⟩, fun τ d _ k cs _ => ?_⟩
        rw [gx_ext, ext_cons k g r, List.cons_append, hstep, gx_ext]
        have : (tp k g r).finish v = tp k (g.finish v) r := by simp [tp, Frame.finish, hgT]
        rw [this]
        rfl
  | panicking chain =>
    have hstep : ∀ (k : List Item) (c : Frame) (cs : List Frame) (w : World), stepG P true (G (tp k f inner) (c :: cs)) w = .go (G (c.raise chain) cs) w := by
      intro k c cs w
      have hres := h.1.res
      unfold tmpRes at hres
      cases hfn : P.funcs[f.fn]? with
      | none => rw [hfn] at hres; cases hres
      | some fn => simp [G, stepG, unwind, tp, hm, h.1.defers, Frame.catches, hfn]
    cases inner with
    | nil =>
      refine .inr ⟨0, fun τ d _ => ?_⟩
      rw [gx_ext]
      exact deadIn_two (g₁ := G (c0.raise chain) []) (w₂ := rt w τ d) rfl (hstep (kz z) c0 [] _) rfl rfl (o := .unsupported (.noEntry "machine/Return: a deferred call of a nil function value, made while the frame is unwinding") (({ c0 with mode := .panicking chain, defers := [] } : Frame).pos P)) (es' := #[])
        (by simp [G, stepG, unwind, callDeferred, c0, Frame.raise])
    | cons g r =>
      left
      obtain ⟨hg, hgm, ops, i, rest, T, hgT⟩ := h.2 g (by simp)
      have er : g.raise chain = { g with mode := .panicking chain } := by unfold Frame.raise; rw [hgm]
      refine ⟨g.raise chain :: r, w, #[], 0, ⟨by rw [er]; exact ⟨hg.defers, hg.round, hg.kind, hg.todo, hg.res⟩, fun y hy => h.2 y (by simp [hy])⟩, by simp, ⟨rfl, rfl⟩, fun τ d _ k cs _ => ?_⟩
      rw [gx_ext, ext_cons k g r, List.cons_append, hstep, gx_ext]
      have : (tp k g r).raise chain = tp k (g.raise chain) r := by rw [er]; simp [tp, Frame.raise, hgm]
      rw [this]
      rfl
  | run =>
    cases hT : f.todo with
    | nil =>
      cases inner with
      | nil =>
        cases z with
        | true =>
          right
          rw [gx_ext, tp_run h.1 hm, hT]
          exact dead_ctl rfl fun w => ⟨_, _, by simp [G, stepG, stepG.exec, Frame.at, kk, kz, ks]; exact ⟨rfl, rfl⟩⟩
        | false =>
          left
          refine ⟨[{ f with mode := .returning }], w, #[], 0, ⟨⟨h.1.defers, h.1.round, h.1.kind, h.1.todo, h.1.res⟩, by simp⟩, by simp, ⟨rfl, rfl⟩, fun τ d _ k cs hk => ?_⟩
          obtain rfl := hk rfl
          rw [gx_ext, gx_ext]
          have e1 : tp [] { f with mode := .returning } [] = { f.at ⟨f.tmps, []⟩ [] with mode := .returning } := by
            have := tp_run (inner := []) h.1 hm []
            rw [hT] at this
            have e2 : tp [] { f with mode := .returning } [] = { tp [] f [] with mode := .returning } := rfl
            rw [e2, this]; rfl
          rw [e1, tp_run h.1 hm, hT]
          exact stepG_end
      | cons g r =>
        left
        refine ⟨{ f with mode := .returning } :: g :: r, w, #[], 0, ⟨⟨h.1.defers, h.1.round, h.1.kind, h.1.todo, h.1.res⟩, h.2⟩, by simp, ⟨rfl, rfl⟩, fun τ d _ k cs _ => ?_⟩
        rw [gx_ext, gx_ext]
        have e1 : tp k { f with mode := .returning } (g :: r) = { f.at ⟨f.tmps, []⟩ [] with mode := .returning } := by
          have := tp_run (inner := g :: r) h.1 hm k
          rw [hT] at this
          have e2 : tp k { f with mode := .returning } (g :: r) = { tp k f (g :: r) with mode := .returning } := rfl
          rw [e2, this]; rfl
        rw [e1, tp_run h.1 hm, hT]
        exact stepG_end
    | cons x T =>
      have hTo : ∀ y ∈ T, okItem F y = true := fun y hy => h.1.todo y (by rw [hT]; simp [hy])
      have hx := h.1.todo x (by rw [hT]; simp)
      have cons2 : ∀ {y : Item}, okItem F y = true → ∀ z ∈ y :: T, okItem F z = true := fun hy z hz => (List.mem_cons.1 hz).elim (fun e => e ▸ hy) fun hz => hTo z hz
      cases x with
      | inBlock id => exact .inl (stepA_ctl h hm hTo (fun r cs w => by rw [hT]; exact stepG_inBlock) w)
      | inLoop c => exact .inl (stepA_ctl h hm (T' := .code c :: .inLoop c :: T) (fun z hz => (List.mem_cons.1 hz).elim (fun e => e ▸ (hx)) fun hz => cons2 (y := .inLoop c) hx z hz) (fun r cs w => by rw [hT]; exact stepG_inLoop) w)
      | inRegion ops todo =>
        cases todo with
        | nil => exact .inl (stepA_ctl h hm hTo (fun r cs w => by rw [hT]; exact stepG_region_end) w)
        | cons i rest =>
          have hreg : okItem F (.inRegion ops rest) = true := by simpa [okItem] using hx
          cases ho : ops[i]? with
          | none =>
            refine .inl (stepA_ctl h hm (T' := .inRegion ops rest :: T) (cons2 hreg) (fun r cs w => ?_) w)
            rw [hT]
            simp [G, stepG, stepG.exec, Frame.at, ho, Frame.finish]
          | some o =>
            cases hw : Region.wanted o (yielded ops f.tmps) with
            | true => exact oper_step H h hT hm ho hw w
            | false =>
              refine .inl ⟨f.at (Act.put ⟨f.tmps, []⟩ o.dst undef) (.inRegion ops rest :: T) :: inner, w, #[], 0, ⟨okF_at h.1 _ _ (by cases o.dst <;> rfl) (cons2 hreg), h.2⟩, by simp, ⟨rfl, rfl⟩, fun τ d _ k cs _ => ?_⟩
              rw [gx_ext, gx_ext, tp_run h.1 hm, tp_at, hT]
              exact stepG_unwanted ho hw
      | code c =>
        cases c with
        | skip => exact .inl (stepA_ctl h hm hTo (fun r cs w => by rw [hT]; exact stepG_skip) w)
        | label l => exact .inl (stepA_ctl h hm hTo (fun r cs w => by rw [hT]; exact stepG_label) w)
        | seq a b =>
          have hab : okCode F a = true ∧ okCode F b = true := by simpa [okItem, okCode] using hx
          exact .inl (stepA_ctl h hm (T' := .code a :: .code b :: T) (fun z hz => (List.mem_cons.1 hz).elim (fun e => e ▸ (hab.1)) fun hz => cons2 (y := .code b) hab.2 z hz) (fun r cs w => by rw [hT]; exact stepG_seq) w)
        | cond c a b =>
          have hab : okCode F a = true ∧ okCode F b = true := by simpa [okItem, okCode] using hx
          by_cases hb : ∃ t, Act.eval ⟨f.tmps, []⟩ c = .bool t
          · obtain ⟨t, ht⟩ := hb
            exact .inl (stepA_ctl h hm (T' := .code (if t then a else b) :: T) (cons2 (by cases t; exact hab.2; exact hab.1)) (fun r cs w => by rw [hT]; exact stepG_cond ht) w)
          · right
            rw [gx_ext, tp_run h.1 hm, hT]
            refine dead_ctl rfl fun w => ?_
            have e : ∀ r : List Item, (f.at ⟨f.tmps, []⟩ r).eval c = Act.eval ⟨f.tmps, []⟩ c := fun r => Frame.eval_at f ⟨f.tmps, []⟩ r c
            generalize hev : Act.eval ⟨f.tmps, []⟩ c = v at hb
            have e' := e (.code (.cond c a b) :: T ++ kk (kz z) inner)
            rw [hev] at e'
            simp only [Frame.at] at e'
            cases v <;> first
              | exact absurd ⟨_, rfl⟩ hb
              | (simp only [G, stepG, stepG.exec, Frame.at, List.cons_append] at e' ⊢
                 rw [e']
                 exact ⟨_, _, rfl⟩)
        | block id c => exact .inl (stepA_ctl h hm (T' := .code c :: .inBlock id :: T) (fun z hz => (List.mem_cons.1 hz).elim (fun e => e ▸ (hx)) fun hz => cons2 (y := .inBlock id) rfl z hz) (fun r cs w => by rw [hT]; exact stepG_block) w)
        | loop c => exact .inl (stepA_ctl h hm (T' := .code c :: .inLoop c :: T) (fun z hz => (List.mem_cons.1 hz).elim (fun e => e ▸ (hx)) fun hz => cons2 (y := .inLoop c) hx z hz) (fun r cs w => by rw [hT]; exact stepG_loop) w)
        | exit id =>
          cases he : exitTo id T with
          | some k' => exact .inl (stepA_ctl h hm (T' := k') (fun z hz => hTo z ((exitTo_app (r := []) he).2 z hz)) (fun r cs w => by rw [hT]; exact stepG_exit (exitTo_app he).1) w)
          | none =>
            right
            rw [gx_ext, tp_run h.1 hm, hT]
            refine dead_ctl rfl fun w => ?_
            have := exitTo_none (kk_exit z id inner) he
            exact ⟨_, _, by simp [G, stepG, stepG.exec, Frame.at, this]; exact ⟨rfl, rfl⟩⟩
        | ret =>
          left
          refine ⟨{ f with mode := .returning } :: inner, w, #[], 0, ⟨⟨h.1.defers, h.1.round, h.1.kind, h.1.todo, h.1.res⟩, h.2⟩, by simp, ⟨rfl, rfl⟩, fun τ d _ k cs _ => ?_⟩
          rw [gx_ext, gx_ext]
          have e1 : tp k { f with mode := .returning } inner = { f.at ⟨f.tmps, []⟩ (.code .ret :: (T ++ kk k inner)) with mode := .returning } := by
            have := tp_run (inner := inner) h.1 hm k
            rw [hT] at this
            have e2 : tp k { f with mode := .returning } inner = { tp k f inner with mode := .returning } := rfl
            rw [e2, this]; rfl
          rw [e1, tp_run h.1 hm, hT]
          exact stepG_ret'
        | region id ops draw =>
          have hops : ops.all (okOp F) = true := by simpa [okItem, okCode] using hx
          cases draw with
          | false => exact .inl (stepA_ctl h hm (T' := .inRegion ops (List.range ops.size) :: T) (cons2 (by simpa [okItem] using hops)) (fun r cs w => by rw [hT]; exact stepG_region) w)
          | true =>
            left
            refine ⟨f.at ⟨f.tmps, []⟩ (.inRegion ops (Region.schedule (P.follows .mixedOrders) ops (w.tape w.drawn (.order f.fn id))) :: T) :: inner, { w with drawn := w.drawn + 1 }, #[], 1, ⟨okF_at h.1 _ _ rfl (cons2 (by simpa [okItem] using hops)), h.2⟩, by simp, ⟨rfl, rfl⟩, fun τ d hA k cs _ => ?_⟩
            rw [gx_ext, gx_ext, tp_run h.1 hm, tp_at, hT]
            have e0 : τ d = w.tape w.drawn := by simpa using hA 0 (by omega)
            simp [G, stepG, stepG.exec, Frame.at, choose, Sem.run, Question.forced, Question.cut, rt, e0]
        | rangeFunc a b c d => cases hx
        | scope c => cases hx
        | goto l => cases hx
        | refuse s => cases hx
      | _ => cases hx

end

end Go.Proofs.Ytjphaphnmclbcaa

