/- Marks put into a list of lists of one's own, beside leavers. No condition. -/
import Derived.Test.YtjphaphnmclbcaaTm
import Derived.Test.YtjphaphnmclbcaaCopyL
namespace Go.Proofs.Ytjphaphnmclbcaa
open Go Go.Conc Go.RowKit

/-- Nothing has changed but the blocks from lo on and below hi. -/
structure OnlyW (lo hi : Nat) (w w' : World) : Prop where
  os : w'.os = w.os
  output : w'.output = w.output
  size : w.heap.size ≤ w'.heap.size
  keep : ∀ k, k < w.heap.size → k < lo ∨ hi ≤ k → w'.heap[k]? = w.heap[k]?
theorem OnlyW.of_re {w w₁ w' : World} {lo hi : Nat} (hr : Re w w₁) (h : Chg lo hi w₁ w') : OnlyW lo hi w w' := by
  obtain ⟨τ, d, rfl⟩ := hr
  exact ⟨h.os, h.output, h.size, h.block⟩
theorem Only.andW {W w w' : World} {lo hi : Nat} (o : Only W w) (h : OnlyW lo hi w w') (hr : W.heap.size ≤ lo) : Only W w' :=
  ⟨h.os.trans o.os, h.output.trans o.output, Nat.le_trans o.size h.size, fun k hk => (h.keep k (Nat.lt_of_lt_of_le hk o.size) (by omega)).trans (o.keep k hk)⟩
theorem OwnL.onlyW {w w' : World} {lo hi B C : Nat} {u : Value} {yss : List (List Int)} (h : OwnL w B C u yss) (o : OnlyW lo hi w w') (hd : C ≤ lo ∨ hi ≤ B) : OwnL w' B C u yss :=
  OwnLx.kept h o.size fun j h1 h2 _ => o.keep j (Nat.lt_of_lt_of_le h2 h.le) (by omega)
theorem OwnL.onlyR {w w' : World} {row : Option Nat} {B C : Nat} {u : Value} {yss : List (List Int)} (h : OwnL w B C u yss) (o : OnlyR row w w') (ne : ∀ k, row = some k → k < B ∨ C ≤ k) : OwnL w' B C u yss :=
  OwnLx.kept h o.size fun j h1 h2 _ => o.keep j (Nat.lt_of_lt_of_le h2 h.le) (fun e => by have := ne j e.symm; omega)
theorem markLC {Stop : Goroutine → World → Prop} (B C : Nat) (ao : Option Addr) (n cap : Nat) (yss : List (List Int)) (k : Int) (w : World) (h : OwnL w B C (.slice ao n cap) yss) (hn : n = yss.length) (hk0 : 0 ≤ k) (hk : k ≤ 2000000) (ht : tot yss ≤ 1000000) (hn2 : n ≤ 1000000) :
    CallsC Try.prog (TF Try.prog Stop) 40 #[.slice ao n cap, .int .i64 k] w M00 (fun r w' M' => M' = M00 ∧ r = .int .i64 (k + (tot yss : Nat)) ∧ OwnL w' B C (.slice ao n cap) (mkL k yss) ∧ OnlyW B C w w') :=
  callsC_lone (R := fun r w' => r = .int .i64 (k + (tot yss : Nat)) ∧ OwnL w' B C (.slice ao n cap) (mkL k yss) ∧ OnlyW B C w w') plain_prog (by kernel_rfl) fun w₁ hr => (markIntSS_any B C ao n cap yss k w₁ (h.only (Only.re hr)) hn hk0 hk ht hn2).mono (by
    rintro e w' ⟨rfl, ho, hg⟩
    exact ⟨_, rfl, rfl, ho, OnlyW.of_re hr hg⟩)

end Go.Proofs.Ytjphaphnmclbcaa
