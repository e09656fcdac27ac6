/- More of the readers: one of a list, a value put in, orders and bent orders. Condition: the bytes can be read. -/
import Derived.Test.YtjphaphnmclbcaaDraw
import Derived.Test.YtjphaphnmclbcaaReg
namespace Go.Proofs.Ytjphaphnmclbcaa
open Go.RowKit

theorem grown_far {w w' : World} {R b o : Nat} {v : Value} (hg : w.grownBy w' (some R)) (hb : b ≠ R) (h : w.cell? ⟨b, o, none⟩ = some v) : w'.cell? ⟨b, o, none⟩ = some v :=
  hg.cell h (fun e => hb (by simpa using e))

/-- What one of a list turns: the reader alone. -/
def Oned (w : World) (R q : Nat) (fs : List Int) (e : Ending) (w' : World) : Prop := ∃ j, j < fs.length ∧ e = .returned (.int .i64 (el fs j)) ∧ Rdr w' R (q + 1) ∧ w.grownBy w' (some R)

set_option maxHeartbeats 400000 in
theorem one_any (R q g n T : Nat) (fs : List Int) (w : World) (h : Rdr w R q) (hq : q ≤ 100000) (ha : Arr w g T fs) (hl : fs.length = n) (hn : 0 < n) (hn2 : n ≤ 1000) (hg : g ≠ R) :
    Calls Try.prog 79 #[.pointer (some ⟨R, 0, none⟩), .slice (some ⟨g, 0, none⟩) n n] w (Oned w R q fs) := by
  have hcell := fun j (hj : j < n) => ha.cell (j := j) (by omega)
  have Hc := hid hcell
  have Hl := hid hl
  clear hcell hl
  go_enter Try.func79, Try.ntmps79
  go_wp2_with fail
  refine (pick_any R q n w h hq (by omega)).mono ?_
  rintro e w1 ⟨v, rfl, hv0, hv1, hr, hgr⟩
  obtain ⟨j, rfl⟩ := Int.eq_ofNat_of_zero_le hv0
  have hj : j < n := by have := Int.max_eq_left (show (1 : Int) ≤ n by omega); omega
  have hc := grown_far hgr hg (Hc.out j hj)
  clear hv0 hv1
  go_wp2
  go_ret
  exact ⟨j, by rw [Hl.out]; exact hj, rfl, hr, hgr⟩

set_option maxHeartbeats 1000000 in
theorem insertAt_any (ao : Option Addr) (n cap : Nat) (xs : List Int) (x : Int) (k : Nat) (w : World) (h : Sl w ao n cap xs) (hnil : ao = none → cap = 0) (hk : k ≤ n) (hn : n ≤ 1000) :
    Calls Try.prog 106 #[.slice ao n cap, .int .i64 x, .int .i64 k] w (Made w (xs.take k ++ [x] ++ xs.drop k)) := by
  have hle := h.le
  have hmax : cap ≤ 9223372036854775807 := by have := h.max; unfold maxLen at this; omega
  have hlen := hid h.len
  have hkc : k ≤ cap := by omega
  go_enter Try.func106, Try.ntmps106
  go_wp2_with fail
  have hlit2 : Own (((w.alloc (.cells #[.int .i64 x] 3)).alloc (.cells #[] 3)).drew) w.heap.size (.slice (some ⟨w.heap.size + 1, 0, none⟩) 0 0) [] := by
    have := own_lit_at (w := w.alloc (.cells #[.int .i64 x] 3)) (B := w.heap.size) (by simp)
    rw [World.size_alloc] at this
    exact this.drew
  go_region_law (first
    | (refine step_app rfl (.tmp 7) (.tmp 10) rfl w (.slice (some ⟨w.heap.size, 0, none⟩) 0 0) [] rfl (by first | exact own_lit_at (Nat.le_refl _) | exact (own_lit_at (Nat.le_refl _)).alloc _) ao k cap (xs.take k) rfl (by first | exact ((h.take hk).drew).alloc _ | exact (((h.take hk).drew).alloc _).alloc _) hnil (by simp; omega) (by go_grown) ?_
       intro u1 w1 ho1 hg1 hb1
       first
         | (have hx1 := ((Sl.new (w.alloc (.cells #[] 3)) x).drew).grown hg1 (fun e => absurd (Option.some.inj e) (by simp)); simp only [World.size_alloc] at hx1)
         | skip)
    | (refine step_app rfl (.tmp 7) (.tmp 10) rfl w (.slice (some ⟨w.heap.size + 1, 0, none⟩) 0 0) [] rfl hlit2 ao k cap (xs.take k) rfl ((((h.take hk).drew).alloc _).alloc _) hnil (by simp; omega) (by go_grown) ?_
       intro u1 w1 ho1 hg1 hb1
       have hx1 := (((Sl.new w x).alloc (.cells #[] 3)).drew).grown hg1 (fun e => absurd (Option.some.inj e) (by simp)))
    | (refine step_app rfl (.tmp 11) (.tmp 13) rfl w u1 (xs.take k) rfl (by first | exact ho1 | exact ho1.alloc _) _ 1 1 [x] rfl (by first | exact Sl.new w1 x | exact hx1) (by simp) (by rw [List.length_take]; omega) (by first | exact hb1 | exact hb1.alloc hb1.size _) ?_
       intro u2 w2 ho2 hg2 hb2)
    | (refine step_app rfl (.tmp 14) (.tmp 17) rfl w u2 (xs.take k ++ [x]) rfl ho2 _ (n - k) (cap - k) (xs.drop k) rfl ((h.below (Nat.le_refl _) hb2).dropIf hk) (drop_nil hnil) (by rw [List.length_append, List.length_take, List.length_singleton]; omega) hb2 ?_
       intro u3 w3 ho3 hg3 hb3))
  all_goals go_wp2
  all_goals go_ret
  all_goals exact ⟨_, rfl, by have := ho3; rw [List.append_assoc] at this; exact this, hb3⟩

end Go.Proofs.Ytjphaphnmclbcaa
