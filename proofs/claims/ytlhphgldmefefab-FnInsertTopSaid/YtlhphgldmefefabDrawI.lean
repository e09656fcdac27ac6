/- The draws of an order and a place, and of a table of what values add. Condition: the bytes can be read. -/
import Derived.Test.YtlhphgldmefefabDraw4
namespace Go.Proofs.Ytlhphgldmefefab
open Go.RowKit

/-- What a draw of one list and a number leaves. -/
def DrawnK (w : World) (e : Ending) (w' : World) : Prop := ∃ u ys k, e = .returned (.tuple #[u, .int .i64 k]) ∧ Own w' w.heap.size u ys ∧ ys.length ≤ 9 ∧ Below w.heap.size w w'

set_option maxHeartbeats 2000000 in
theorem drawInsertTop_any (bo : Option Addr) (n cap : Nat) (cs : List Int) (w : World) (h : Slb w bo n cap cs) :
    Calls Try.prog 27 #[.slice bo n cap] w (DrawnK w) := by
  go_enter Try.func27, Try.ntmps27
  go_wp2_with fail
  refine (newReader_any bo n cap cs w h).mono ?_
  rintro e w1 ⟨rfl, hr1, hb1⟩
  go_wp2_with fail
  refine (someOrder_any w.heap.size 0 w1 hr1 (by omega)).mono ?_
  rintro e w2 ⟨u, ys, q, rfl, ho, hl, hq, hr2, hg2⟩
  have hR := hr1.lt
  have hb2 := below_reader hb1 hg2
  have ho2 := ho.mono hb1.size
  have hf := ho.farR hR
  obtain ⟨a1, c1, rfl, -⟩ := ho.sl
  obtain ⟨m, hm⟩ : ∃ m, m = ys.length := ⟨_, rfl⟩
  rw [← hm] at ho2 hf hl ⊢
  have Hm := hid hm
  clear ho hm
  go_wp2_with fail
  refine (pick_any w.heap.size q ((m : Int) + 1) w2 hr2 (by omega) (by omega)).mono ?_
  rintro e w3 ⟨v1, rfl, -, -, hr3, hg3⟩
  have ho3 := ho2.kept hg3 hf
  have hb3 := below_reader hb2 hg3
  go_wp2_with fail
  refine (pick_any w.heap.size (q + 1) ((m : Int) + 1) w3 hr3 (by omega) (by omega)).mono ?_
  rintro e w4 ⟨v2, rfl, -, -, hr4, hg4⟩
  have ho4 := ho3.kept hg4 hf
  have hb4 := below_reader hb3 hg4
  have hs4 := hb4.size
  have ha := lit_arr w4 [v1, v2, (m : Int), -1, 8]
  have hr5 := hr4.below ((Below.refl w4.heap.size w4).alloc (Nat.le_refl _) (.cells ([v1, v2, (m : Int), -1, 8].map (Value.int .i64)).toArray 3))
  have hb5 := hb4.alloc hs4 (.cells ([v1, v2, (m : Int), -1, 8].map (Value.int .i64)).toArray 3)
  have ho5 := ho4.alloc (.cells ([v1, v2, (m : Int), -1, 8].map (Value.int .i64)).toArray 3)
  have Ha := hid ha
  have Hr := hid hr5
  have Hb := hid hb5
  have Ho := hid ho5
  have hR4 := hr4.lt
  clear ha hr5 hb5 ho5
  go_wp2_with fail
  refine (one_any w.heap.size (q + 2) w4.heap.size 5 3 [v1, v2, (m : Int), -1, 8] _ Hr.out (by omega) Ha.out rfl (by omega) (by omega) (by omega)).mono ?_
  rintro e w6 ⟨j, hj, rfl, hr6, hg6⟩
  have ho6 := Ho.out.kept hg6 hf
  have hb6 := below_reader Hb.out hg6
  obtain ⟨K, hK⟩ : ∃ K, K = el [v1, v2, (m : Int), -1, 8] j := ⟨_, rfl⟩
  rw [← hK]
  clear hK
  go_wp2
  go_ret2
  exact ⟨_, ys, K, rfl, ho6, by rw [← Hm.out]; exact hl, hb6⟩

set_option maxHeartbeats 2000000 in
theorem drawRemoveAt_any (bo : Option Addr) (n cap : Nat) (cs : List Int) (w : World) (h : Slb w bo n cap cs) :
    Calls Try.prog 38 #[.slice bo n cap] w (DrawnK w) := by
  go_enter Try.func38, Try.ntmps38
  go_wp2_with fail
  refine (newReader_any bo n cap cs w h).mono ?_
  rintro e w1 ⟨rfl, hr1, hb1⟩
  go_wp2_with fail
  refine (someOrder_any w.heap.size 0 w1 hr1 (by omega)).mono ?_
  rintro e w2 ⟨u, ys, q, rfl, ho, hl, hq, hr2, hg2⟩
  have hR := hr1.lt
  have hb2 := below_reader hb1 hg2
  have ho2 := ho.mono hb1.size
  have hf := ho.farR hR
  obtain ⟨a1, c1, rfl, -⟩ := ho.sl
  obtain ⟨m, hm⟩ : ∃ m, m = ys.length := ⟨_, rfl⟩
  rw [← hm] at ho2 hf hl ⊢
  have Hm := hid hm
  clear ho hm
  go_wp2_with fail
  refine (pick_any w.heap.size q ((m : Int) + 1) w2 hr2 (by omega) (by omega)).mono ?_
  rintro e w3 ⟨v1, rfl, -, -, hr3, hg3⟩
  have ho3 := ho2.kept hg3 hf
  have hb3 := below_reader hb2 hg3
  go_wp2_with fail
  refine (pick_any w.heap.size (q + 1) ((m : Int) + 1) w3 hr3 (by omega) (by omega)).mono ?_
  rintro e w4 ⟨v2, rfl, -, -, hr4, hg4⟩
  have ho4 := ho3.kept hg4 hf
  have hb4 := below_reader hb3 hg4
  have hs4 := hb4.size
  have ha := lit_arr w4 [v1, v2, 0, -1, 7]
  have hr5 := hr4.below ((Below.refl w4.heap.size w4).alloc (Nat.le_refl _) (.cells ([v1, v2, 0, -1, 7].map (Value.int .i64)).toArray 3))
  have hb5 := hb4.alloc hs4 (.cells ([v1, v2, 0, -1, 7].map (Value.int .i64)).toArray 3)
  have ho5 := ho4.alloc (.cells ([v1, v2, 0, -1, 7].map (Value.int .i64)).toArray 3)
  have Ha := hid ha
  have Hr := hid hr5
  have Hb := hid hb5
  have Ho := hid ho5
  have hR4 := hr4.lt
  clear ha hr5 hb5 ho5
  go_wp2_with fail
  refine (one_any w.heap.size (q + 2) w4.heap.size 5 3 [v1, v2, 0, -1, 7] _ Hr.out (by omega) Ha.out rfl (by omega) (by omega) (by omega)).mono ?_
  rintro e w6 ⟨j, hj, rfl, hr6, hg6⟩
  have ho6 := Ho.out.kept hg6 hf
  have hb6 := below_reader Hb.out hg6
  obtain ⟨K, hK⟩ : ∃ K, K = el [v1, v2, 0, -1, 7] j := ⟨_, rfl⟩
  rw [← hK]
  clear hK
  go_wp2
  go_ret2
  exact ⟨_, ys, K, rfl, ho6, by rw [← Hm.out]; exact hl, hb6⟩

theorem Own.atD {w : World} {B n cap : Nat} {ao : Option Addr} {ys : List Int} (h : Own w B (.slice ao n cap) ys) (hn : 0 < n) : ∃ g, ao = some ⟨g, 0, none⟩ ∧ OwS w B g n cap ys := by
  rcases h.place with ⟨e, rfl⟩ | ⟨g, c, e, o⟩
  · simp only [Value.slice.injEq] at e
    omega
  · simp only [Value.slice.injEq] at e
    obtain ⟨rfl, rfl, rfl⟩ := e
    exact ⟨g, rfl, o⟩

set_option maxHeartbeats 2000000 in
theorem drawOrderOfMajorTable_any (bo : Option Addr) (n cap : Nat) (cs : List Int) (w : World) (h : Slb w bo n cap cs) :
    Calls Try.prog 36 #[.slice bo n cap] w (Drawn w) := by
  go_enter Try.func36, Try.ntmps36
  go_wp2_with fail
  refine (newReader_any bo n cap cs w h).mono ?_
  rintro e w1 ⟨rfl, hr1, hb1⟩
  have hR := hr1.lt
  have hs1 := hb1.size
  have oL := own_lit_at (w := w1) (B := w.heap.size + 1) (by omega)
  have hrL := hr1.below ((Below.refl w1.heap.size w1).alloc (Nat.le_refl _) (.cells #[] 3))
  have hbL := hb1.alloc hs1 (.cells #[] 3)
  obtain ⟨wa, hwa⟩ : ∃ wa, wa = w1.alloc (.cells #[] 3) := ⟨_, rfl⟩
  rw [← hwa] at oL hrL hbL
  have hsa : wa.heap.size = w1.heap.size + 1 := by rw [hwa]; simp
  have ha := lit_arr wa [4, 5, 6, 3, 7, 2, 1, 0, 8]
  have hr2 := hrL.below ((Below.refl wa.heap.size wa).alloc (Nat.le_refl _) (.cells ([4, 5, 6, 3, 7, 2, 1, 0, 8].map (Value.int .i64)).toArray 3))
  have hb2 := hbL.alloc hbL.size (.cells ([4, 5, 6, 3, 7, 2, 1, 0, 8].map (Value.int .i64)).toArray 3)
  have o2 := oL.alloc (.cells ([4, 5, 6, 3, 7, 2, 1, 0, 8].map (Value.int .i64)).toArray 3)
  rw [hsa, hwa] at ha
  rw [hwa] at hr2 hb2 o2
  have Ha := hid ha
  have Hr := hid hr2
  have Hb := hid hb2
  have Ho := hid o2
  clear ha hr2 hb2 o2 oL hrL hbL hsa hwa
  go_wp2_with fail
  refine (one_any w.heap.size 0 (w1.heap.size + 1) 9 3 [4, 5, 6, 3, 7, 2, 1, 0, 8] _ Hr.out (by omega) Ha.out rfl (by omega) (by omega) (by omega)).mono ?_
  rintro e w3 ⟨j, hj, rfl, hr3, hg3⟩
  have hv : ∀ j, j < 9 → 0 ≤ el [4, 5, 6, 3, 7, 2, 1, 0, 8] j ∧ el [4, 5, 6, 3, 7, 2, 1, 0, 8] j ≤ 8 := by decide
  obtain ⟨N, hN⟩ := Int.eq_ofNat_of_zero_le (hv j hj).1
  have hN8 : N ≤ 8 := by have := (hv j hj).2; omega
  rw [hN]
  have hf : (Value.slice (some ⟨w1.heap.size, 0, none⟩) 0 0).ownBlock = none ∨ (Value.slice (some ⟨w1.heap.size, 0, none⟩) 0 0).ownBlock ≠ some w.heap.size := Or.inr (by simp [Value.ownBlock]; omega)
  have o3 := Ho.out.kept hg3 hf
  have hb3 := below_reader Hb.out hg3
  clear hv hN hj hf
  go_wp2
  go_loopw [4] (fun v wr => ∃ (k : Nat) (ao : Option Addr) (cp : Nat) (ys : List Int), k ≤ N ∧ v = .slice ao k cp ∧ Hid (ys.length = k) ∧ Own wr (w.heap.size + 1) (.slice ao k cp) ys ∧ Rdr wr w.heap.size (1 + k) ∧ Below w.heap.size w wr)
    (fun v _ => N - lenOf v)
  case atStart => exact ⟨0, _, _, [], Nat.zero_le _, rfl, rfl, o3, hr3, hb3⟩
  case round =>
    obtain ⟨k, ao, cp, ys, hk, rfl, hyl, ho, hr, hb⟩ := hrel
    by_cases hlt : k < N
    · have hi1 : (k : Int) < N := by omega
      go_wp2_with fail
      refine (pick_any w.heap.size (1 + k) ((k : Int) + 1) _ hr (by omega) (by omega)).mono ?_
      rintro e w4 ⟨v, rfl, hv0, hv1, hr4, hg4⟩
      have ho4 := ho.kept hg4 (ho.farR (Nat.lt_succ_self _))
      have hb4 := below_reader hb hg4
      have hs4 := hb4.size
      have hs4' : w.heap.size + 1 ≤ w4.heap.size := by have := hr4.lt; omega
      have hl4 : ys.length ≤ 2000000 := by have := hyl.out; omega
      clear hv0 hv1
      go_wp2_with (at_builtin; refine app_int _ _ rfl _ _ rfl (w.heap.size + 1) _ _ rfl ho4 rfl hl4 hs4' ?_)
      intro u5 w5 o5 g5
      have hfar : u5 = u5 := rfl
      have hyl5 : (ys ++ [v]).length = k + 1 := by rw [List.length_append, List.length_singleton, hyl.out]
      have hr5 : Rdr w5 w.heap.size (1 + (k + 1)) := by
        have := hr4.kept ((Below.refl (w.heap.size + 1) w4).grown g5 hs4' (fun k hk => (ho4.blocks k hk).1))
        rwa [show 1 + (k + 1) = 1 + k + 1 by omega]
      have hb5 : Below w.heap.size w w5 := hb4.grown g5 hs4 (fun k hk => by have := (ho4.blocks k hk).1; omega)
      obtain ⟨ao5, cp5, rfl, -⟩ := o5.sl
      rw [hyl5] at o5 ⊢
      have Hyl5 := hid hyl5
      clear hyl5 hfar
      go_wp2
      go_roundw
      case rel => exact ⟨k + 1, _, _, _, by omega, rfl, Hyl5, o5, hr5, hb5⟩
      case measure => simp [lenOf]; omega
    · obtain rfl : k = N := by omega
      by_cases hz : k = 0
      · subst hz
        go_wp2
        go_ret
        exact ⟨_, ys, rfl, ho.mono (Nat.le_succ _), by have := hyl.out; omega, hb⟩
      · have hz1 : (0 : Int) < k := by omega
        go_wp2_with fail
        refine (pick_any w.heap.size (1 + k) 16 _ hr (by omega) (by omega)).mono ?_
        rintro e w4 ⟨v, rfl, hv0, hv1, hr4, hg4⟩
        have ho4 := ho.kept hg4 (ho.farR (Nat.lt_succ_self _))
        have hb4 := below_reader hb hg4
        have hs4 := hb4.size
        by_cases e0 : v = 0
        · subst e0
          clear hv0 hv1
          have ha := lit_arr w4 [-1, 1]
          have hr6 := hr4.below ((Below.refl w4.heap.size w4).alloc (Nat.le_refl _) (.cells ([-1, 1].map (Value.int .i64)).toArray 3))
          have hb5 := hb4.alloc hs4 (.cells ([-1, 1].map (Value.int .i64)).toArray 3)
          have ho5 := ho4.alloc (.cells ([-1, 1].map (Value.int .i64)).toArray 3)
          have Ha := hid ha
          have Hr := hid hr6
          have Hb := hid hb5
          have Ho := hid ho5
          have hR4 := hr4.lt
          clear ha hr6 hb5 ho5
          go_wp2_with fail
          refine (one_any w.heap.size (1 + k + 1) w4.heap.size 2 3 [-1, 1] _ Hr.out (by omega) Ha.out rfl (by omega) (by omega) (by omega)).mono ?_
          rintro e w6 ⟨j3, hj3, rfl, hr6, hg6⟩
          have ho6 := Ho.out.kept hg6 (ho4.farR (Nat.lt_succ_self _))
          have hb6 := below_reader Hb.out hg6
          obtain ⟨g, rfl, hs6⟩ := ho6.atD (by omega)
          have hfr := hs6.frozen 0
          have hcl := hs6.cell (j := 0) (by omega)
          obtain ⟨X, hX⟩ : ∃ X, X = el [-1, 1] j3 := ⟨_, rfl⟩
          rw [← hX]
          have hs7 := (hs6.set 0 X).own
          have hgl := hs6.lt
          have hb7 := hb6.setCell (p := ⟨g, 0, none⟩) (show w.heap.size ≤ g by omega) (.int .i64 X)
          have H7 := hid (And.intro hs7 hb7)
          clear hX hs7 hb7
          go_wp2
          go_ret
          exact ⟨_, _, rfl, H7.out.1.mono (Nat.le_succ _), by rw [List.length_set]; have := hyl.out; omega, H7.out.2⟩
        · have e0b : (v == 0) = false := by simpa using e0
          clear hv0 hv1
          go_wp2
          go_ret
          exact ⟨_, ys, rfl, ho4.mono (Nat.le_succ _), by have := hyl.out; omega, hb4⟩

end Go.Proofs.Ytlhphgldmefefab
