/- Denert's number is at most all pairs: reckoned for all orders of at most seven values. No condition. -/
import Derived.Test.YtepikmkkbecdaacMirD
import Derived.Test.YtepikmkkbecdaacFinAll
namespace Go.Proofs.Ytepikmkkbecdaac

def denOk (xs : List Int) : Bool := decide (2 * den xs ≤ (xs.length : Int) * ((xs.length : Int) - 1))
set_option maxRecDepth 100000 in
theorem denOk6 : (allUpTo 6).all denOk = true := by decide +kernel
set_option maxRecDepth 100000 in
theorem denOk70 : (begun 0).all denOk = true := by decide +kernel
set_option maxRecDepth 100000 in
theorem denOk71 : (begun 1).all denOk = true := by decide +kernel
set_option maxRecDepth 100000 in
theorem denOk72 : (begun 2).all denOk = true := by decide +kernel
set_option maxRecDepth 100000 in
theorem denOk73 : (begun 3).all denOk = true := by decide +kernel
set_option maxRecDepth 100000 in
theorem denOk74 : (begun 4).all denOk = true := by decide +kernel
set_option maxRecDepth 100000 in
theorem denOk75 : (begun 5).all denOk = true := by decide +kernel
set_option maxRecDepth 100000 in
theorem denOk76 : (begun 6).all denOk = true := by decide +kernel
theorem den_most {xs : List Int} (h : Valid xs) : 2 * den xs ≤ (xs.length : Int) * ((xs.length : Int) - 1) := by
  have := h.parts (p := denOk) denOk6 (seven (P := fun x => (begun x).all denOk = true) denOk70 denOk71 denOk72 denOk73 denOk74 denOk75 denOk76)
  simpa [denOk] using this

end Go.Proofs.Ytepikmkkbecdaac
