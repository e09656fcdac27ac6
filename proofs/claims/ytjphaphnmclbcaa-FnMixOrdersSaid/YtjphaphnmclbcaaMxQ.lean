/- What the kernel reckons of mixed orders: all pairs of orders of at most five values together. No condition. -/
import Derived.Test.YtjphaphnmclbcaaBne
import Derived.Test.YtjphaphnmclbcaaTalG
import Derived.Test.YtjphaphnmclbcaaBnF
namespace Go.Proofs.Ytjphaphnmclbcaa
open Go Go.RowKit

def vnI (xs : List Int) : Int := onVi xs (sumL (table xs)) (-1)
def vnM (xs : List Int) : Int := onVi xs (major xs) (-1)
/-- The lesser values, and the greater ones moved down. -/
def lowV (a : Nat) : List Int → List Int
  | [] => []
  | y :: x => if y < (a : Int) then y :: lowV a x else lowV a x
def higV (a : Nat) : List Int → List Int
  | [] => []
  | y :: x => if y < (a : Int) then higV a x else (y - (a : Int)) :: higV a x
def chkX (p q : List Int) : Bool :=
  let n := p.length + q.length
  let L := (mxW p.length q.length).map (mxF p q)
  decide (mgo n [] p (up q p.length) = L)
    && L.all (fun x => decide (Valid x) && decide (lowV p.length x = p) && decide (higV p.length x = q))
    && decide ((L.length : Int) = chP n p.length)
    && decide (0 < L.length) && decide (L.length ≤ 10) && decide (0 ≤ vnI p + vnI q) && decide (vnI p + vnI q ≤ 30) && decide (0 ≤ vnM p + vnM q) && decide (vnM p + vnM q ≤ 30)
    && L.all (fun x => decide (0 ≤ vnI x) && decide (vnI x ≤ 100) && decide (0 ≤ vnM x) && decide (vnM x ≤ 100) && decide (x.length = n))
    && decide (tal (L.map vnI) = List.replicate (vnI p + vnI q).toNat 0 ++ toI (bt n p.length))
    && decide (tal (L.map vnM) = List.replicate (vnM p + vnM q).toNat 0 ++ toI (bt n p.length))
theorem two_all {P : List Int → List Int → Bool} (h : (allUpTo 5).all (fun p => (allUpTo (5 - p.length)).all fun q => P p q) = true) {p q : List Int} (hp : Valid p) (hq : Valid q) (hl : p.length + q.length ≤ 5) : P p q = true := by
  have h1 := hp.all' (m := 5) (by omega) h
  exact hq.all' (m := 5 - p.length) (by omega) h1
theorem chkX_all : (allUpTo 5).all (fun p => (allUpTo (5 - p.length)).all fun q => chkX p q) = true := by decide +kernel
structure MxOk (p q : List Int) (L : List (List Int)) : Prop where
  mg : mgo (p.length + q.length) [] p (up q p.length) = L
  ok : ∀ x ∈ L, Valid x
  low : ∀ x ∈ L, lowV p.length x = p
  hig : ∀ x ∈ L, higV p.length x = q
  num : (L.length : Int) = chP ((p.length + q.length : Nat) : Int) p.length
  rowI : tal (L.map vnI) = List.replicate (vnI p + vnI q).toNat 0 ++ bR (p.length + q.length) p.length
  rowM : tal (L.map vnM) = List.replicate (vnM p + vnM q).toNat 0 ++ bR (p.length + q.length) p.length
  pos : 0 < L.length
  len : L.length ≤ 10
  sI : 0 ≤ vnI p + vnI q ∧ vnI p + vnI q ≤ 30
  sM : 0 ≤ vnM p + vnM q ∧ vnM p + vnM q ≤ 30
  bI : ∀ x ∈ L, 0 ≤ vnI x ∧ vnI x ≤ 100
  bM : ∀ x ∈ L, 0 ≤ vnM x ∧ vnM x ≤ 100
  lens : ∀ x ∈ L, x.length = p.length + q.length
theorem mxF_ok {p q : List Int} (hp : Valid p) (hq : Valid q) (hl : p.length + q.length ≤ 5)   : MxOk p q (mxL p q) := by
  have h := two_all chkX_all hp hq hl
  simp only [chkX, Bool.and_eq_true, decide_eq_true_eq, List.all_eq_true] at h
  obtain ⟨⟨⟨⟨⟨⟨⟨⟨⟨⟨⟨h1, h2⟩, h3⟩, h4⟩, h5⟩, h6⟩, h7⟩, h8⟩, h9⟩, h10⟩, h11⟩, h12⟩ := h
  have e : mxL p q = (mxW p.length q.length).map (mxF p q) := if_pos ⟨⟨hp, hq, by omega⟩, hl⟩
  have eb := (bt_at (n := p.length + q.length) (k := p.length) (by omega) (by omega)).1
  rw [e]
  exact ⟨h1, fun x hx => (h2 x hx).1.1, fun x hx => (h2 x hx).1.2, fun x hx => (h2 x hx).2, h3, by rw [eb]; exact h11, by rw [eb]; exact h12, h4, h5, ⟨h6, h7⟩, ⟨h8, h9⟩, fun x hx => ⟨(h10 x hx).1.1.1.1, (h10 x hx).1.1.1.2⟩, fun x hx => ⟨(h10 x hx).1.1.2, (h10 x hx).1.2⟩, fun x hx => (h10 x hx).2⟩

end Go.Proofs.Ytjphaphnmclbcaa
