/- Orders out of texts, in the program and in its model. Condition: at most 2^20 bytes. -/
import Derived.Test.YtjgaglfinpeeoacBnd
namespace Go.Proofs.Ytjgaglfinpeeoac
open Go.RowKit

def prs (s : ByteArray) : List Int := s.data.toList.map fun c => (c.toNat : Int) - 48
theorem prs_len (s : ByteArray) : (prs s).length = s.size := by unfold prs; rw [List.length_map, Array.length_toList]; rfl
theorem el_prs {s : ByteArray} {k : Nat} (h : k < s.size) : el (prs s) k = (s[k].toNat : Int) - 48 := by
  rw [el_lt (by rw [prs_len]; exact h)]
  unfold prs
  rw [List.getElem_map, Array.getElem_toList]
  rfl

end Go.Proofs.Ytjgaglfinpeeoac
