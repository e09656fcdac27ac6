/- More of the readers: one of a list, a value put in, orders and bent orders. Condition: the bytes can be read. -/
import Derived.Test.YtlhphgldmefefacDraw
import Derived.Test.YtlhphgldmefefacReg
namespace Go.Proofs.Ytlhphgldmefefac
open Go.RowKit

theorem grown_far {w w' : World} {R b o : Nat} {v : Value} (hg : w.grownBy w' (some R)) (hb : b ≠ R) (h : w.cell? ⟨b, o, none⟩ = some v) : w'.cell? ⟨b, o, none⟩ = some v :=
  hg.cell h (fun e => hb (by simpa using e))

set_option maxHeartbeats 1000000 in
theorem insertAt_any (ao : Option Addr) (n cap : Nat) (xs : List Int) (x : Int) (k : Nat) (w : World) (h : Sl w ao n cap xs) (hnil : ao = none → cap = 0) (hk : k ≤ n) (hn : n ≤ 1000) :
    Calls Try.prog 26 #[.slice ao n cap, .int .i64 x, .int .i64 k] w (Made w (xs.take k ++ [x] ++ xs.drop k)) := by
  have hle := h.le
  have hmax : cap ≤ 9223372036854775807 := by have := h.max; unfold maxLen at this; omega
  have hlen := hid h.len
  have hkc : k ≤ cap := by omega
  go_enter Try.func26, Try.ntmps26
  go_wp2_with fail
  have hlit2 : Own (((w.alloc (.cells #[.int .i64 x] 3)).alloc (.cells #[] 3)).drew) w.heap.size (.slice (some ⟨w.heap.size + 1, 0, none⟩) 0 0) [] := by
    have := own_lit_at (w := w.alloc (.cells #[.int .i64 x] 3)) (B := w.heap.size) (by simp)
    rw [World.size_alloc] at this
    exact this.drew
  go_region_law (first
    | (refine step_app rfl (.tmp 7) (.tmp 10) rfl w (.slice (some ⟨w.heap.size, 0, none⟩) 0 0) [] rfl (by first | exact own_lit_at (Nat.le_refl _) | exact (own_lit_at (Nat.le_refl _)).alloc _) ao k cap (xs.take k) rfl (by first | exact ((h.take hk).drew).alloc _ | exact (((h.take hk).drew).alloc _).alloc _) hnil (by simp; omega) (by go_grown) ?_
       intro u1 w1 ho1 hg1 hb1
       first
         | (have hx1 := ((Sl.new (w.alloc (.cells #[] 3)) x).drew).grown hg1 (fun e => absurd (Option.some.inj e) (by simp)); simp only [World.size_alloc] at hx1)
         | skip)
    | (refine step_app rfl (.tmp 7) (.tmp 10) rfl w (.slice (some ⟨w.heap.size + 1, 0, none⟩) 0 0) [] rfl hlit2 ao k cap (xs.take k) rfl ((((h.take hk).drew).alloc _).alloc _) hnil (by simp; omega) (by go_grown) ?_
       intro u1 w1 ho1 hg1 hb1
       have hx1 := (((Sl.new w x).alloc (.cells #[] 3)).drew).grown hg1 (fun e => absurd (Option.some.inj e) (by simp)))
    | (refine step_app rfl (.tmp 11) (.tmp 13) rfl w u1 (xs.take k) rfl (by first | exact ho1 | exact ho1.alloc _) _ 1 1 [x] rfl (by first | exact Sl.new w1 x | exact hx1) (by simp) (by rw [List.length_take]; omega) (by first | exact hb1 | exact hb1.alloc hb1.size _) ?_
       intro u2 w2 ho2 hg2 hb2)
    | (refine step_app rfl (.tmp 14) (.tmp 17) rfl w u2 (xs.take k ++ [x]) rfl ho2 _ (n - k) (cap - k) (xs.drop k) rfl ((h.below (Nat.le_refl _) hb2).dropIf hk) (drop_nil hnil) (by rw [List.length_append, List.length_take, List.length_singleton]; omega) hb2 ?_
       intro u3 w3 ho3 hg3 hb3))
  all_goals go_wp2
  all_goals go_ret
  all_goals exact ⟨_, rfl, by have := ho3; rw [List.append_assoc] at this; exact this, hb3⟩

end Go.Proofs.Ytlhphgldmefefac
