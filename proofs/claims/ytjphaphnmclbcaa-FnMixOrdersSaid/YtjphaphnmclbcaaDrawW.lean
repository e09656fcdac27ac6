/- The words that the laws draw: whatever the bytes, lists of at most fifteen numbers. Condition: the bytes can be read. -/
import Derived.Test.YtjphaphnmclbcaaBne
import Derived.Test.YtjphaphnmclbcaaBng
namespace Go.Proofs.Ytjphaphnmclbcaa
open Go.RowKit

set_option maxHeartbeats 1000000 in
theorem aWord_any (R q n : Nat) (w : World) (h : Rdr w R q) (hq : q ≤ 60000) (hn : n ≤ 8) :
    Calls Try.prog 100 #[.pointer (some ⟨R, 0, none⟩), .int .i64 n] w (Drew w R n (q + 9)) := by
  have hlt := h.lt
  have hr0 := h.below ((Below.refl w.heap.size w).alloc (Nat.le_refl _) (.cells #[] 3))
  go_enter Try.func100, Try.ntmps100
  go_wp2_with fail
  refine (pick_any R q 4 _ hr0 (by omega) (by omega)).mono ?_
  rintro e w1 ⟨m, rfl, hm0, hm1, hr1, hg1⟩
  have hg1' := grown_trans (World.grownBy_alloc w (.cells #[] 3) (some R)) hg1
  have ho1 := (own_lit w).kept hg1 ((own_lit w).farR hlt)
  have hm3 : m ≤ 3 := by omega
  clear hm1
  go_wp2
  go_loopw [5] (fun p wr => ∃ (k : Nat) (ao : Option Addr) (cap : Nat) (ys : List Int), k ≤ n ∧ p = .slice ao k cap ∧ Own wr w.heap.size (.slice ao k cap) ys ∧ Rdr wr R (q + 1 + k) ∧ w.grownBy wr (some R))
    (fun p _ => n - lenOf p)
  case atStart => exact ⟨0, _, _, [], Nat.zero_le _, rfl, ho1, hr1, hg1'⟩
  case round =>
    obtain ⟨k, ao, cap, ys, hk, rfl, ho, hr, hg⟩ := hrel
    have hyl := hid ho.read.len
    by_cases hlt2 : k < n
    · go_wp2_with fail
      refine (pick_any R (q + 1 + k) (1 + m) wr hr (by omega) (by omega)).mono ?_
      rintro e w2 ⟨v, rfl, hv0, hv1, hr2, hg2⟩
      have ho2 := ho.kept hg2 (ho.farR hlt)
      have hsz : w.heap.size ≤ w2.heap.size := Nat.le_trans hg.size hg2.size
      have hl : ys.length ≤ 2000000 := by rw [hyl.out]; omega
      clear hv0 hv1
      go_wp2_with (at_builtin; refine app_int _ _ rfl _ _ rfl w.heap.size _ _ rfl ho2 rfl hl hsz ?_)
      intro u' w' ho' hg'
      have hr3 := hr2.row hg' (fun k hk => by have := (ho2.blocks k hk).1; omega)
      have hg3 := grown_exR (grown_trans hg hg2) (ExR.of_row hg' hsz (fun k hk => (ho2.blocks k hk).1))
      obtain ⟨ao', cap', rfl, hs'⟩ := ho'.sl
      rw [List.length_append, hyl.out, List.length_singleton] at *
      go_wp2
      go_roundw
      case rel => exact ⟨k + 1, _, _, _, by omega, rfl, ho', hr3, hg3⟩
      case measure => simp [lenOf]; omega
    · obtain rfl : k = n := by omega
      go_wp2
      go_ret
      exact ⟨_, ys, _, rfl, ho, hyl.out, by omega, hr, hg⟩

/-- What a law's draw of one list leaves: a list of at most twenty numbers; nothing that was there has turned. -/
def DrawnU (w : World) (e : Ending) (w' : World) : Prop := ∃ u ys, e = .returned u ∧ Own w' w.heap.size u ys ∧ ys.length ≤ 20 ∧ Below w.heap.size w w'

set_option maxHeartbeats 2000000 in
theorem someWord_any (R q : Nat) (w : World) (h : Rdr w R q) (hq : q ≤ 40000) :
    Calls Try.prog 74 #[.pointer (some ⟨R, 0, none⟩)] w (DrewU w R 20 (q + 20)) := by
  have hlt := h.lt
  have ha := lit_arr w [4, 5, 6, 3, 7, 2, 1, 0]
  have hr := h.below ((Below.refl w.heap.size w).alloc (Nat.le_refl _) (.cells ([4, 5, 6, 3, 7, 2, 1, 0].map (Value.int .i64)).toArray 3))
  have Ha := hid ha
  have Hr := hid hr
  clear ha hr
  go_enter Try.func74, Try.ntmps74
  go_wp2_with fail
  refine (one_any R q w.heap.size 8 3 [4, 5, 6, 3, 7, 2, 1, 0] _ Hr.out (by omega) Ha.out rfl (by omega) (by omega) (by omega)).mono ?_
  rintro e w1 ⟨j, hj, rfl, hr1, hg1⟩
  have hv : ∀ j, j < 8 → 0 ≤ el [4, 5, 6, 3, 7, 2, 1, 0] j ∧ el [4, 5, 6, 3, 7, 2, 1, 0] j ≤ 7 := by decide
  obtain ⟨n, hn⟩ := Int.eq_ofNat_of_zero_le (hv j hj).1
  have hn7 : n ≤ 7 := by have := (hv j hj).2; omega
  rw [hn]
  clear hv hn hj
  have hG1 := grown_trans (World.grownBy_alloc w (.cells ([4, 5, 6, 3, 7, 2, 1, 0].map (Value.int .i64)).toArray 3) (some R)) hg1
  have hsz : w.heap.size ≤ w1.heap.size := hG1.size
  go_wp2_with fail
  refine (aWord_any R (q + 1) n w1 hr1 (by omega) (by omega)).mono ?_
  rintro e w2 ⟨u, ys, q2, rfl, ho, hl, hq2, hr2, hg2⟩
  have hG2 := grown_trans hG1 hg2
  have ho := ho.mono hsz
  obtain ⟨a1, c1, rfl, -⟩ := ho.sl
  rw [hl] at ho ⊢
  have hyl := hid hl
  clear hl
  have hB2 : w.heap.size ≤ w2.heap.size := hG2.size
  go_wp2_with fail
  refine (pick_any R q2 30 w2 hr2 (by omega) (by omega)).mono ?_
  rintro e w3 ⟨v, rfl, hv0, hv1, hr3, hg3⟩
  have ho3 := ho.kept hg3 (ho.farR hlt)
  have hG3 := grown_trans hG2 hg3
  have hB3 : w.heap.size ≤ w3.heap.size := hG3.size
  by_cases e0 : v = 0
  · subst e0
    by_cases hn0 : n = 0
    · subst hn0
      clear hv0 hv1
      go_wp2
      go_ret
      exact ⟨_, ys, _, rfl, ho3, by rw [hyl.out]; omega, by omega, hr3, hG3⟩
    · clear hv0 hv1
      have hnp : (0 : Int) < n := by omega
      go_wp2_with fail
      refine (pick_any R (q2 + 1) n w3 hr3 (by omega) (by omega)).mono ?_
      rintro e w4 ⟨v2, rfl, hv0, hv1, hr4, hg4⟩
      obtain ⟨j, rfl⟩ := Int.eq_ofNat_of_zero_le hv0
      have hj : j < n := by have := Int.max_eq_left (show (1 : Int) ≤ n by omega); omega
      have ho4 := ho3.kept hg4 (ho3.farR hlt)
      have hG4 := grown_trans hG3 hg4
      have hB4 : w.heap.size ≤ w4.heap.size := hG4.size
      have ha := lit_arr w4 [-1, 4, 3]
      have hb4 := (Below.refl w4.heap.size w4).alloc (Nat.le_refl _) (.cells ([-1, 4, 3].map (Value.int .i64)).toArray 3)
      have hr5 := hr4.below hb4
      have Ha := hid ha
      have Hr := hid hr5
      have hRw := hr4.lt
      have ho5 := ho4.below (Nat.le_refl _) hb4
      have hG5 := grown_trans hG4 (World.grownBy_alloc w4 (.cells ([-1, 4, 3].map (Value.int .i64)).toArray 3) (some R))
      clear hv0 hv1 ha hr5 hb4
      go_wp2_with fail
      refine (one_any R (q2 + 2) w4.heap.size 3 3 [-1, 4, 3] _ Hr.out (by omega) Ha.out rfl (by omega) (by omega) (by omega)).mono ?_
      rintro e w5 ⟨j3, hj3, rfl, hr5, hg5⟩
      have ho6 := ho5.kept hg5 (ho5.farR hlt)
      have hG6 := grown_trans hG5 hg5
      have hB6 : w.heap.size ≤ w5.heap.size := hG6.size
      rcases ho6.place with ⟨e1, rfl⟩ | ⟨g, cap', e1, hs3⟩
      · simp only [Value.slice.injEq] at e1
        omega
      · simp only [Value.slice.injEq] at e1
        obtain ⟨rfl, e2, rfl⟩ := e1
        rw [← e2] at hs3
        clear e2
        have hfr := hs3.frozen j
        have hcur := hs3.cell hj
        have hlt3 := hs3.lt
        obtain ⟨z, hz⟩ : ∃ z, z = el [-1, 4, 3] j3 := ⟨_, rfl⟩
        rw [← hz]
        clear hz hj3
        go_wp2
        go_ret
        exact ⟨_, ys.set j z, _, rfl, (hs3.set j z).own, by rw [List.length_set, hyl.out]; omega, by omega, hr5.row (grown_set (g := g) (j := j)) (fun k hk => by have := Option.some.inj hk; omega), grown_exR hG6 (ExR.of_row (grown_set (g := g) (j := j)) hB6 (fun k hk => by have := Option.some.inj hk; omega))⟩
  · by_cases e1 : v = 1
    · subst e1
      clear hv0 hv1
      have hl1 : ys.length ≤ 2000000 := by rw [hyl.out]; omega
      have hlit := own_list w3 [0, 0, 0, 0, 0, 0, 0, 0] w3.heap.size (Nat.le_refl _) (by simp)
      have ho4 := Own.below ho3 (Nat.le_refl _) ((Below.refl w3.heap.size w3).alloc (Nat.le_refl _) (.cells ([0, 0, 0, 0, 0, 0, 0, 0].map (Value.int .i64)).toArray 3))
      have hsl := hlit.read
      go_wp2_with (at_builtin; refine app_list _ rfl _ _ rfl w.heap.size _ _ rfl ho4 _ 8 8 _ rfl hsl (by simp) (by rw [hyl.out]; omega) (by simp; omega) ?_)
      intro u' w' ho' hg'
      have hg4 := grown_trans (World.grownBy_alloc w3 (.cells ([0, 0, 0, 0, 0, 0, 0, 0].map (Value.int .i64)).toArray 3) _) hg'
      go_wp2
      go_ret
      exact ⟨_, _, q2 + 1, rfl, ho', by rw [List.length_append, hyl.out]; simp; omega, by omega, hr3.row hg4 (fun k hk => by have := (ho3.blocks k hk).1; omega), grown_exR hG3 (ExR.of_row hg4 hB3 (fun k hk => (ho3.blocks k hk).1))⟩
    · clear hv0 hv1
      go_wp2
      go_ret
      exact ⟨_, ys, _, rfl, ho3, by rw [hyl.out]; omega, by omega, hr3, hG3⟩

theorem drawContentOf_any (bo : Option Addr) (n cap : Nat) (cs : List Int) (w : World) (h : Slb w bo n cap cs) :
    Calls Try.prog 28 #[.slice bo n cap] w (DrawnU w) := by
  go_enter Try.func28, Try.ntmps28
  go_wp2_with fail
  refine (newReader_any bo n cap cs w h).mono ?_
  rintro e w1 ⟨rfl, hr1, hb1⟩
  go_wp2_with fail
  refine (someWord_any w.heap.size 0 w1 hr1 (by omega)).mono ?_
  rintro e w2 ⟨u, ys, q, rfl, ho, hl, -, -, hg⟩
  go_wp2
  go_ret
  exact ⟨_, ys, rfl, ho.mono hb1.size, hl, below_reader hb1 hg⟩

end Go.Proofs.Ytjphaphnmclbcaa
