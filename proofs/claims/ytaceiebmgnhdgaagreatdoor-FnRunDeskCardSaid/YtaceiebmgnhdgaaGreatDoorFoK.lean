/- The way back of Foata's map, in the program. Condition: the slice is an array of the call's own. -/
import Derived.Test.YtaceiebmgnhdgaaGreatDoorFoJ
namespace Go.Proofs.YtaceiebmgnhdgaaGreatDoor
open Go.RowKit

/-- The values while those of v are turned back, from place T on. -/
def sbk (T : Nat) (v R r : List Int) : List Int := v.take T ++ R ++ r
theorem sbk_len (T : Nat) (v R r : List Int) (h : T ≤ v.length) : (sbk T v R r).length = T + R.length + r.length := by simp [sbk]; omega
theorem sbk_el (T : Nat) (v R r : List Int) {j : Nat} (h1 : j < T) (h2 : T ≤ v.length) : el (sbk T v R r) j = el v j := by
  rw [sbk, List.append_assoc, el, el, List.getD_eq_getElem?_getD, List.getD_eq_getElem?_getD, List.getElem?_append_left (by rw [List.length_take]; omega), List.getElem?_take, if_pos h1]
theorem sbk_rot (v R r : List Int) {f d : Nat} (h : f + d + 1 ≤ v.length) : rotL (sbk (f + d + 1) v R r) f d = sbk f v ((v.drop (f + 1)).take d ++ [el v f] ++ R) r := by
  have hl : (v.take (f + d + 1)).length = f + d + 1 := by rw [List.length_take]; omega
  have e1 : (sbk (f + d + 1) v R r).take f = v.take f := by
    rw [sbk, List.append_assoc, List.take_append_of_le_length (by omega), List.take_take]
    congr 1; omega
  have e2 : ((sbk (f + d + 1) v R r).drop (f + 1)).take d = (v.drop (f + 1)).take d := by
    rw [sbk, List.append_assoc, List.drop_append_of_le_length (by omega), List.take_append_of_le_length (by rw [List.length_drop]; omega), List.drop_take, List.take_take]
    congr 1; omega
  have e3 : (sbk (f + d + 1) v R r).drop (f + d + 1) = R ++ r := by
    rw [sbk, List.append_assoc, List.drop_append_of_le_length (by omega), List.drop_eq_nil_of_le (by omega), List.nil_append]
  rw [rotL, e1, e2, e3, sbk_el _ _ _ _ (by omega) h, sbk]
  simp only [List.append_assoc]

end Go.Proofs.YtaceiebmgnhdgaaGreatDoor
