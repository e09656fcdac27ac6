/- The rows that the law of MultiplyRows draws: whatever the bytes, two lists. Condition: the bytes can be read. -/
import Derived.Test.YthaiodjeamjjnaaDrawW
namespace Go.Proofs.Ythaiodjeamjjnaa
open Go.RowKit

set_option maxHeartbeats 2000000 in
theorem aRow_any (R q : Nat) (w : World) (h : Rdr w R q) (hq : q ≤ 40000) :
    Calls Try.prog 59 #[.pointer (some ⟨R, 0, none⟩)] w (DrewU w R 40 (q + 20)) := by
  have hlt := h.lt
  have hr0 := h.below ((Below.refl w.heap.size w).alloc (Nat.le_refl _) (.cells #[] 3))
  have hlt0 := hr0.lt
  have ha := lit_arr (w.alloc (.cells #[] 3)) [2, 3, 1, 4, 6, 0]
  have hr := hr0.below ((Below.refl (w.alloc (.cells #[] 3)).heap.size (w.alloc (.cells #[] 3))).alloc (Nat.le_refl _) (.cells ([2, 3, 1, 4, 6, 0].map (Value.int .i64)).toArray 3))
  have ho0 := (own_lit w).below (Nat.le_refl _) ((Below.refl (w.alloc (.cells #[] 3)).heap.size (w.alloc (.cells #[] 3))).alloc (Nat.le_refl _) (.cells ([2, 3, 1, 4, 6, 0].map (Value.int .i64)).toArray 3))
  have hG0 := grown_trans (World.grownBy_alloc w (.cells #[] 3) (some R)) (World.grownBy_alloc (w.alloc (.cells #[] 3)) (.cells ([2, 3, 1, 4, 6, 0].map (Value.int .i64)).toArray 3) (some R))
  rw [World.size_alloc] at ha
  have Ha := hid ha
  have Hr := hid hr
  have Ho0 := hid ho0
  have HG0 := hid hG0
  clear ha hr ho0 hG0 hr0 hlt0
  go_enter Try.func59, Try.ntmps59
  go_wp2_with fail
  refine (one_any R q (w.heap.size + 1) 6 3 [2, 3, 1, 4, 6, 0] _ Hr.out (by omega) Ha.out rfl (by omega) (by omega) (by omega)).mono ?_
  rintro e w1 ⟨j, hj, rfl, hr1, hg1⟩
  have hv : ∀ j, j < 6 → 0 ≤ el [2, 3, 1, 4, 6, 0] j ∧ el [2, 3, 1, 4, 6, 0] j ≤ 6 := by decide
  obtain ⟨n, hn⟩ := Int.eq_ofNat_of_zero_le (hv j hj).1
  have hn7 : n ≤ 6 := by have := (hv j hj).2; omega
  rw [hn]
  clear hv hn hj
  have hG1 := grown_trans HG0.out hg1
  have ho1 := Ho0.out.kept hg1 (Ho0.out.farR hlt)
  clear hg1
  go_wp2
  go_loopw [3] (fun p wr => ∃ (k : Nat) (ao : Option Addr) (cap : Nat) (ys : List Int), k ≤ n ∧ p = .slice ao k cap ∧ Own wr w.heap.size (.slice ao k cap) ys ∧ Rdr wr R (q + 1 + k) ∧ w.grownBy wr (some R))
    (fun p _ => n - lenOf p)
  case atStart => exact ⟨0, _, _, [], Nat.zero_le _, rfl, ho1, hr1, hG1⟩
  case round =>
    clear ho1 hr1 hG1
    obtain ⟨k, ao, cap, ys, hk, rfl, ho, hr, hg⟩ := hrel
    have hyl := hid ho.read.len
    by_cases hlt2 : k < n
    · have hki : (k : Int) < (n : Int) := by omega
      have hbA := (Below.refl wr.heap.size wr).alloc (Nat.le_refl _) (.cells ([1, 1, 2, 0, -1, 3, 1000].map (Value.int .i64)).toArray 3)
      have ha := hid (lit_arr wr [1, 1, 2, 0, -1, 3, 1000])
      have hr2 := hid (hr.below hbA)
      have ho2 := hid (ho.below (Nat.le_refl _) hbA)
      have hg2 := hid (grown_trans hg (World.grownBy_alloc wr (.cells ([1, 1, 2, 0, -1, 3, 1000].map (Value.int .i64)).toArray 3) (some R)))
      have hlr := hr.lt
      clear hbA
      go_wp2_with fail
      refine (one_any R (q + 1 + k) wr.heap.size 7 3 [1, 1, 2, 0, -1, 3, 1000] _ hr2.out (by omega) ha.out rfl (by omega) (by omega) (by omega)).mono ?_
      rintro e w2 ⟨j, hj, rfl, hr3, hg3⟩
      have ho3 := ho2.out.kept hg3 (ho2.out.farR hlt)
      have hg4 := grown_trans hg2.out hg3
      have hsz : w.heap.size ≤ w2.heap.size := hg4.size
      have hl : ys.length ≤ 2000000 := by rw [hyl.out]; omega
      obtain ⟨z, hz⟩ : ∃ z, z = el [1, 1, 2, 0, -1, 3, 1000] j := ⟨_, rfl⟩
      rw [← hz]
      clear hz hj
      go_wp2_with (at_builtin; refine app_int _ _ rfl _ _ rfl w.heap.size _ _ rfl ho3 rfl hl hsz ?_)
      intro u' w' ho' hg'
      have hr5 := hr3.row hg' (fun k hk => by have := (ho3.blocks k hk).1; omega)
      have hg5 := grown_exR hg4 (ExR.of_row hg' hsz (fun k hk => (ho3.blocks k hk).1))
      obtain ⟨ao', cap', rfl, hs'⟩ := ho'.sl
      rw [List.length_append, hyl.out, List.length_singleton] at *
      go_wp2
      go_roundw
      case rel => exact ⟨k + 1, _, _, _, by omega, rfl, ho', hr5, hg5⟩
      case measure => simp [lenOf]; omega
    · obtain rfl : k = n := by omega
      go_wp2_with fail
      refine (pick_any R (q + 1 + k) 40 wr hr (by omega) (by omega)).mono ?_
      rintro e w2 ⟨v, rfl, hv0, hv1, hr2, hg2⟩
      have ho2 := ho.kept hg2 (ho.farR hlt)
      have hg3 := grown_trans hg hg2
      have hsz : w.heap.size ≤ w2.heap.size := hg3.size
      have hl : ys.length ≤ 2000000 := by rw [hyl.out]; omega
      clear ho hr hg hg2
      by_cases e0 : v = 0
      · subst e0
        clear hv0 hv1
        go_wp2_with (at_builtin; refine app_int _ _ rfl _ _ rfl w.heap.size _ _ rfl ho2 rfl hl hsz ?_)
        intro u' w' ho' hg'
        go_wp2
        go_ret
        exact ⟨_, _, _, rfl, ho', by rw [List.length_append, hyl.out, List.length_singleton]; omega, by omega, hr2.row hg' (fun k hk => by have := (ho2.blocks k hk).1; omega), grown_exR hg3 (ExR.of_row hg' hsz (fun k hk => (ho2.blocks k hk).1))⟩
      · by_cases e1 : v = 1
        · subst e1
          clear hv0 hv1
          go_wp2
          go_loopw [3] (fun p wr => ∃ (m : Nat) (ao : Option Addr) (cap : Nat) (ys : List Int), m ≤ 31 ∧ p = .slice ao m cap ∧ Own wr w.heap.size (.slice ao m cap) ys ∧ Rdr wr R (q + 1 + k + 1) ∧ w.grownBy wr (some R))
            (fun p _ => 31 - lenOf p)
          case atStart => exact ⟨k, _, _, ys, by omega, rfl, ho2, hr2, hg3⟩
          case round =>
            clear ho2 hr2 hg3 hl hyl
            obtain ⟨m, ao, cap, ys, hm, rfl, ho, hr, hg⟩ := hrel
            have hyl := hid ho.read.len
            by_cases hlt3 : m < 31
            · have hl : ys.length ≤ 2000000 := by rw [hyl.out]; omega
              have hsz : w.heap.size ≤ wr.heap.size := hg.size
              go_wp2_with (at_builtin; refine app_int _ _ rfl _ _ rfl w.heap.size _ _ rfl ho rfl hl hsz ?_)
              intro u' w' ho' hg'
              have hr5 := hr.row hg' (fun k hk => by have := (ho.blocks k hk).1; omega)
              have hg5 := grown_exR hg (ExR.of_row hg' hsz (fun k hk => (ho.blocks k hk).1))
              obtain ⟨ao', cap', rfl, hs'⟩ := ho'.sl
              rw [List.length_append, hyl.out, List.length_singleton] at *
              go_wp2
              go_roundw
              case rel => exact ⟨m + 1, _, _, _, by omega, rfl, ho', hr5, hg5⟩
              case measure => simp [lenOf]; omega
            · obtain rfl : m = 31 := by omega
              go_wp2
              go_ret
              exact ⟨_, ys, _, rfl, ho, by rw [hyl.out]; omega, by omega, hr, hg⟩
        · by_cases e2 : v = 2
          · subst e2
            clear hv0 hv1
            have hlit := own_list w2 [1000000, -1000000] w2.heap.size (Nat.le_refl _) (by simp)
            have ho4 := Own.below ho2 (Nat.le_refl _) ((Below.refl w2.heap.size w2).alloc (Nat.le_refl _) (.cells ([1000000, -1000000].map (Value.int .i64)).toArray 3))
            have hsl := hlit.read
            go_wp2_with (at_builtin; refine app_list _ rfl _ _ rfl w.heap.size _ _ rfl ho4 _ 2 2 _ rfl hsl (by simp) (by rw [hyl.out]; omega) (by simp; omega) ?_)
            intro u' w' ho' hg'
            have hg4 := grown_trans (World.grownBy_alloc w2 (.cells ([1000000, -1000000].map (Value.int .i64)).toArray 3) _) hg'
            go_wp2
            go_ret
            exact ⟨_, _, _, rfl, ho', by rw [List.length_append, hyl.out]; simp; omega, by omega, hr2.row hg4 (fun k hk => by have := (ho2.blocks k hk).1; omega), grown_exR hg3 (ExR.of_row hg4 hsz (fun k hk => (ho2.blocks k hk).1))⟩
          · clear hv0 hv1
            go_wp2
            go_ret
            exact ⟨_, ys, _, rfl, ho2, by rw [hyl.out]; omega, by omega, hr2, hg3⟩

/-- Two lists were drawn. -/
def DrawnTwo (w : World) (e : Ending) (w' : World) : Prop := ∃ u v ys zs, e = .returned (.tuple #[u, v]) ∧ Own w' w.heap.size u ys ∧ Own w' w.heap.size v zs ∧ Below w.heap.size w w'

set_option maxHeartbeats 1000000 in
theorem drawMultiplyRows_any (bo : Option Addr) (n cap : Nat) (cs : List Int) (w : World) (h : Slb w bo n cap cs) :
    Calls Try.prog 41 #[.slice bo n cap] w (DrawnTwo w) := by
  go_enter Try.func41, Try.ntmps41
  go_wp2_with fail
  refine (newReader_any bo n cap cs w h).mono ?_
  rintro e w1 ⟨rfl, hr1, hb1⟩
  have hlt := hr1.lt
  go_wp2_with fail
  refine (aRow_any w.heap.size 0 w1 hr1 (by omega)).mono ?_
  rintro e w2 ⟨u, ys, q2, rfl, ho, hl, hq2, hr2, hg2⟩
  go_wp2_with fail
  refine (aRow_any w.heap.size q2 w2 hr2 (by omega)).mono ?_
  rintro e w3 ⟨u3, zs, q3, rfl, ho3, hl3, hq3, hr3, hg3⟩
  have hb2 := below_reader hb1 hg2
  go_wp2
  go_ret2
  exact ⟨_, _, ys, zs, rfl, (ho.kept hg3 (ho.farR hlt)).mono hb1.size, ho3.mono hb2.size, below_reader hb2 hg3⟩

end Go.Proofs.Ythaiodjeamjjnaa
