/- What was proved alone, as contracts of the walk beside leavers. No condition. -/
import Derived.Test.YtjphaphnmclbcaaChY
import Derived.Test.YtjphaphnmclbcaaPln
import Derived.Test.YtjphaphnmclbcaaBnd
namespace Go.Proofs.Ytjphaphnmclbcaa
open Go Go.Conc Go.RowKit

theorem Only.below {w w' : World} (h : Only w w') : Below w.heap.size w { w' with tape := w.tape } := ⟨h.os, rfl, h.output, h.size, h.keep⟩
theorem Only.refl (w : World) : Only w w := ⟨rfl, rfl, Nat.le_refl _, fun _ _ => rfl⟩
theorem Only.trans {a b c : World} (h : Only a b) (k : Only b c) : Only a c := ⟨k.os.trans h.os, k.output.trans h.output, Nat.le_trans h.size k.size, fun i hi => (k.keep i (Nat.lt_of_lt_of_le hi h.size)).trans (h.keep i hi)⟩
theorem Only.of_re {w w₁ w' : World} (hr : Re w w₁) (h : Below w₁.heap.size w₁ w') : Only w w' := by
  obtain ⟨τ, d, rfl⟩ := hr
  exact ⟨h.os, h.output, h.size, h.block⟩
theorem Only.re {w w₁ : World} (hr : Re w w₁) : Only w w₁ := by
  obtain ⟨τ, d, rfl⟩ := hr
  exact ⟨rfl, rfl, Nat.le_refl _, fun _ _ => rfl⟩

theorem Only.frame {W w' : World} (h : Only W w') (may : MemPlace → Prop) : W.keptBut w' may := by
  refine ⟨h.os, h.output, fun i hi => ?_⟩
  rw [h.keep i hi]
  split <;> simp_all

theorem Sl.tape {w : World} {τ : Tape} {ao : Option Addr} {n cap : Nat} {xs : List Int} (h : Sl { w with tape := τ } ao n cap xs) : Sl w ao n cap xs := ⟨h.len, h.le, h.max, h.row⟩
theorem Sl.only {w w' : World} {ao : Option Addr} {n cap : Nat} {xs : List Int} (h : Sl w ao n cap xs) (o : Only w w') : Sl w' ao n cap xs := Sl.tape (τ := w.tape) (h.later o.below)
theorem SlL.only {w w' : World} {ao : Option Addr} {n cap : Nat} {xs : List (List Int)} (h : SlL w ao n cap xs) (o : Only w w') : SlL w' ao n cap xs := by
  have h' := h.later o.below
  refine ⟨h'.len, h'.le, h'.max, fun hn => ?_⟩
  obtain ⟨b, off, e1, e2, e3⟩ := h'.row hn
  exact ⟨b, off, e1, e2, fun j hj => by obtain ⟨ai, ci, k1, k2⟩ := e3 j hj; exact ⟨ai, ci, k1, Sl.tape k2⟩⟩
theorem Own.only {w w' : World} {B : Nat} {u : Value} {ys : List Int} (h : Own w B u ys) (o : Only w w') : Own w' B u ys := own_chg h fun k hk _ => o.keep k (h.blocks k hk).2
theorem OwnL.only {w w' : World} {B C : Nat} {u : Value} {yss : List (List Int)} (h : OwnL w B C u yss) (o : Only w w') : OwnL w' B C u yss := by
  have h' := OwnL.later h o.below
  exact ⟨h'.ge, h'.le, h'.ex⟩

section
variable {Stop : Goroutine → World → Prop} {f : FuncId} {args : Array Value} {w : World}

theorem saysC {v : Value} (hf : Fp f = true) (h : ∀ w₁, Only w w₁ → Calls Try.prog f args w₁ (Says w₁ v)) : CallsC Try.prog (TF Try.prog Stop) f args w M00 (fun r w' M' => M' = M00 ∧ r = v ∧ Only w w') :=
  callsC_lone (R := fun r w' => r = v ∧ Only w w') plain_prog hf fun w₁ hr => (h w₁ (Only.re hr)).mono (by rintro e w' ⟨rfl, hb⟩; exact ⟨v, rfl, rfl, Only.of_re hr hb⟩)
theorem madeC {ys : List Int} (hf : Fp f = true) (h : ∀ w₁, Only w w₁ → Calls Try.prog f args w₁ (Made w₁ ys)) : CallsC Try.prog (TF Try.prog Stop) f args w M00 (fun r w' M' => M' = M00 ∧ Own w' w.heap.size r ys ∧ Only w w') :=
  callsC_lone (R := fun r w' => Own w' w.heap.size r ys ∧ Only w w') plain_prog hf fun w₁ hr => (h w₁ (Only.re hr)).mono (by rintro e w' ⟨u, rfl, ho, hb⟩; exact ⟨u, rfl, by rw [re_heap hr] at ho; exact ho, Only.of_re hr hb⟩)
theorem made2C {ys : List Int} {b : Bool} (hf : Fp f = true) (h : ∀ w₁, Only w w₁ → Calls Try.prog f args w₁ (Made2 w₁ ys b)) : CallsC Try.prog (TF Try.prog Stop) f args w M00 (fun r w' M' => M' = M00 ∧ ∃ u, r = .tuple #[u, .bool b] ∧ Own w' w.heap.size u ys ∧ Only w w') :=
  callsC_lone (R := fun r w' => ∃ u, r = .tuple #[u, .bool b] ∧ Own w' w.heap.size u ys ∧ Only w w') plain_prog hf fun w₁ hr => (h w₁ (Only.re hr)).mono (by rintro e w' ⟨u, rfl, ho, hb⟩; exact ⟨_, rfl, u, rfl, by rw [re_heap hr] at ho; exact ho, Only.of_re hr hb⟩)
theorem madeLC {yss : List (List Int)} (hf : Fp f = true) (h : ∀ w₁, Only w w₁ → Calls Try.prog f args w₁ (MadeL w₁ yss)) : CallsC Try.prog (TF Try.prog Stop) f args w M00 (fun r w' M' => M' = M00 ∧ OwnL w' w.heap.size w'.heap.size r yss ∧ Only w w') :=
  callsC_lone (R := fun r w' => OwnL w' w.heap.size w'.heap.size r yss ∧ Only w w') plain_prog hf fun w₁ hr => (h w₁ (Only.re hr)).mono (by rintro e w' ⟨u, rfl, ho, hb⟩; exact ⟨u, rfl, by rw [re_heap hr] at ho; exact ho, Only.of_re hr hb⟩)
end

end Go.Proofs.Ytjphaphnmclbcaa
