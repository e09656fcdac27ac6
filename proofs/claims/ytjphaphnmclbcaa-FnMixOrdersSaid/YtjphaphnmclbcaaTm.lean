/- Marks put into a list of one's own, beside leavers. No condition. -/
import Derived.Test.YtjphaphnmclbcaaTk
import Derived.Test.YtjphaphnmclbcaaChZ
import Derived.Test.YtjphaphnmclbcaaCopy
namespace Go.Proofs.Ytjphaphnmclbcaa
open Go Go.Conc Go.RowKit

/-- Nothing has changed but one block. -/
structure OnlyR (row : Option Nat) (w w' : World) : Prop where
  os : w'.os = w.os
  output : w'.output = w.output
  size : w.heap.size ≤ w'.heap.size
  keep : ∀ k, k < w.heap.size → some k ≠ row → w'.heap[k]? = w.heap[k]?
theorem OnlyR.of_re {w w₁ w' : World} {row : Option Nat} (hr : Re w w₁) (h : w₁.grownBy w' row) : OnlyR row w w' := by
  obtain ⟨τ, d, rfl⟩ := hr
  exact ⟨h.os, h.output, h.size, h.block⟩
theorem Only.andR {W w w' : World} {row : Option Nat} (o : Only W w) (h : OnlyR row w w') (hr : ∀ k, row = some k → W.heap.size ≤ k) : Only W w' :=
  ⟨h.os.trans o.os, h.output.trans o.output, Nat.le_trans o.size h.size, fun k hk => (h.keep k (Nat.lt_of_lt_of_le hk o.size) fun e => by have := hr k e.symm; omega).trans (o.keep k hk)⟩
theorem Own.onlyR {w w' : World} {row : Option Nat} {B : Nat} {u : Value} {ys : List Int} (h : Own w B u ys) (o : OnlyR row w w') (ne : ∀ k, u.ownBlock = some k → some k ≠ row) : Own w' B u ys :=
  own_chg h fun k hk _ => o.keep k (h.blocks k hk).2 (ne k hk)

theorem markC {Stop : Goroutine → World → Prop} (u : Value) (B : Nat) (ys : List Int) (k : Int) (w : World) (h : Own w B u ys) (hk0 : 0 ≤ k) (hk : k ≤ 4000000) (hn : ys.length ≤ 2000000) :
    CallsC Try.prog (TF Try.prog Stop) 26 #[u, .int .i64 k] w M00 (fun r w' M' => M' = M00 ∧ r = .int .i64 (k + (ys.length : Nat)) ∧ Own w' B u (marks k ys.length) ∧ OnlyR u.ownBlock w w') :=
  callsC_lone (R := fun r w' => r = .int .i64 (k + (ys.length : Nat)) ∧ Own w' B u (marks k ys.length) ∧ OnlyR u.ownBlock w w') plain_prog (by kernel_rfl) fun w₁ hr => (markIntS_any u B ys k w₁ (h.only (Only.re hr)) hk0 hk hn).mono (by
    rintro e w' ⟨rfl, ho, hg⟩
    exact ⟨_, rfl, rfl, ho, OnlyR.of_re hr hg⟩)

end Go.Proofs.Ytjphaphnmclbcaa
