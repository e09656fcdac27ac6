/- The signed orders that the laws draw: whatever the bytes, a list of few numbers of 64 bits. Condition: the bytes can be read. -/
import Derived.Test.YtjgaglfinpeeoabDoorDraw4
import Derived.Test.YtjgaglfinpeeoabDoorMirG
namespace Go.Proofs.YtjgaglfinpeeoabDoor
open Go.RowKit

/-- A call that draws a list of n numbers, each below n: it makes a list and turns the reader. -/
def DrewO (w : World) (R n Q : Nat) (e : Ending) (w' : World) : Prop := ∃ u ys q, e = .returned u ∧ Own w' w.heap.size u ys ∧ ys.length = n ∧ q ≤ Q ∧ Rdr w' R q ∧ w.grownBy w' (some R) ∧ Hid (∀ y ∈ ys, 0 ≤ y ∧ y < n)
/-- A call that draws numbers of 64 bits, at most six: it makes a list and turns the reader. -/
def DrewG (w : World) (R L Q : Nat) (e : Ending) (w' : World) : Prop := ∃ u ys q, e = .returned u ∧ Own w' w.heap.size u ys ∧ ys.length ≤ L ∧ q ≤ Q ∧ Rdr w' R q ∧ w.grownBy w' (some R) ∧ Hid (R64 ys)
/-- What a law's draw of numbers leaves: a list of at most twenty numbers of 64 bits; nothing that was there has turned. -/
def DrawnG (w : World) (e : Ending) (w' : World) : Prop := ∃ u ys, e = .returned u ∧ Own w' w.heap.size u ys ∧ Hid (R64 ys) ∧ ys.length ≤ 20 ∧ Below w.heap.size w w'
theorem Own.ows {w : World} {B g n cap : Nat} {ys : List Int} (h : Own w B (.slice (some ⟨g, 0, none⟩) n cap) ys) (hl : ys.length = n) : OwS w B g n cap ys := by
  subst hl
  exact h

set_option maxHeartbeats 1000000 in
theorem anOrderG_any (R q n : Nat) (w : World) (h : Rdr w R q) (hq : q ≤ 60000) (hn : n ≤ 8) :
    Calls Tryd.prog 40 #[.pointer (some ⟨R, 0, none⟩), .int .i64 n] w (DrewO w R n (q + 8)) := by
  have hlt := h.lt
  go_enter Tryd.func40, Tryd.ntmps40
  go_wp2
  go_loopw [5, 6] (fun p x wr => ∃ (k : Nat) (ao : Option Addr) (cap : Nat) (ys : List Int), k ≤ n ∧ p = .slice ao k cap ∧ x = .int .i64 k ∧ Own wr w.heap.size (.slice ao k cap) ys ∧ Rdr wr R (q + k) ∧ w.grownBy wr (some R) ∧ Hid (∀ y ∈ ys, 0 ≤ y ∧ y < k))
    (fun p _ _ => n - lenOf p)
  case atStart => exact ⟨0, _, _, [], Nat.zero_le _, rfl, rfl, own_lit w, h.below ((Below.refl _ _).alloc (Nat.le_refl _) _), World.grownBy_alloc w _ _, fun y hy => by simp at hy⟩
  case round =>
    obtain ⟨k, ao, cap, ys, hk, rfl, rfl, ho, hr, hg, hy⟩ := hrel
    by_cases hlt2 : k < n
    · go_wp2_with fail
      refine (pick_any R (q + k) ((k : Int) + 1) wr hr (by omega) (by omega)).mono ?_
      rintro e w1 ⟨v, rfl, hv0, hv1, hr1, hg1⟩
      obtain ⟨j, rfl⟩ := Int.eq_ofNat_of_zero_le hv0
      have hj : j ≤ k := by have := Int.max_eq_left (show (1 : Int) ≤ (k : Int) + 1 by omega); omega
      have ho1 := ho.kept hg1 (ho.farR hlt)
      have hyl := ho1.read.len
      clear hv0 hv1
      go_wp2_with fail
      refine (insertAt_any ao k cap ys k j w1 ho1.read ho1.nilcap hj (by omega)).mono ?_
      rintro e w2 ⟨u2, rfl, ho2, hb2⟩
      have hl2 : (ys.take j ++ [(k : Int)] ++ ys.drop j).length = k + 1 := by
        rw [List.length_append, List.length_append, List.length_take, List.length_drop, List.length_singleton, hyl]; omega
      have hy2 : Hid (∀ y ∈ ys.take j ++ [(k : Int)] ++ ys.drop j, 0 ≤ y ∧ y < ((k + 1 : Nat) : Int)) := fun y hm => by
        rw [List.mem_append, List.mem_append, List.mem_singleton] at hm
        rcases hm with (hm | hm) | hm
        · have := hy.out y (List.mem_of_mem_take hm); omega
        · omega
        · have := hy.out y (List.mem_of_mem_drop hm); omega
      have hsz : w.heap.size ≤ w1.heap.size := Nat.le_trans hg.size hg1.size
      have ho3 := ho2.mono hsz
      have hr2 := hr1.below hb2
      have hg2 := grown_trans (grown_trans hg hg1) (grown_of_below (row := some R) hb2)
      obtain ⟨ao2, cap2, rfl, -⟩ := ho3.sl
      rw [hl2] at ho3 ⊢
      clear ho2 hl2 hyl
      go_wp2
      go_roundw
      case rel => exact ⟨k + 1, _, _, _, by omega, rfl, by go_num, ho3, hr2, hg2, hy2⟩
      case measure => simp [lenOf]; omega
    · obtain rfl : k = n := by omega
      go_wp2
      go_ret
      exact ⟨_, ys, _, rfl, ho, ho.read.len, by omega, hr, hg, hy⟩

set_option maxHeartbeats 2000000 in
theorem aSigned_any (R q n : Nat) (w : World) (h : Rdr w R q) (hq : q ≤ 50000) (hn : n ≤ 6) :
    Calls Tryd.prog 29 #[.pointer (some ⟨R, 0, none⟩), .int .i64 n] w fun e w' => ∃ u ys q', e = .returned u ∧ Own w' w.heap.size u ys ∧ ys.length = n ∧ q' ≤ q + 20 ∧ Rdr w' R q' ∧ w.grownBy w' (some R) ∧ Hid (∀ j, j < n → -8 ≤ el ys j ∧ el ys j ≤ 8) := by
  have hlt := h.lt
  go_enter Tryd.func29, Tryd.ntmps29
  go_wp2_with fail
  refine (anOrderG_any R q n w h (by omega) (by omega)).mono ?_
  rintro e w1 ⟨u1, ys, q1, rfl, ho1, hl1, hq1, hr1, hg1, hy1⟩
  obtain ⟨a1, c1, rfl, -⟩ := ho1.sl
  rw [hl1] at ho1 ⊢
  have Hl1 := hid hl1
  have hyb : Hid (∀ j, j < n → -8 ≤ el ys j ∧ el ys j ≤ 8) := fun j hj => by have := hy1.out _ (el_mem (xs := ys) (j := j) (by rw [Hl1.out]; exact hj)); omega
  have hyc : Hid (∀ j, 0 ≤ j → j < n → 0 ≤ el ys j ∧ el ys j ≤ 7) := fun j _ hj => by have := hy1.out _ (el_mem (xs := ys) (j := j) (by rw [Hl1.out]; exact hj)); omega
  clear hl1
  go_wp2
  go_loopw [6] (fun i wr => ∃ (k : Nat) (zs : List Int), k ≤ n ∧ i = .int .i64 k ∧ Own wr w.heap.size (.slice a1 n c1) zs ∧ Hid (zs.length = n) ∧ Rdr wr R (q1 + k) ∧ w.grownBy wr (some R) ∧ Hid (∀ j, j < n → -8 ≤ el zs j ∧ el zs j ≤ 8) ∧ Hid (∀ j, k ≤ j → j < n → 0 ≤ el zs j ∧ el zs j ≤ 7))
    (fun i _ => n - (intOf i).toNat)
  case atStart => exact ⟨0, ys, Nat.zero_le _, rfl, ho1, Hl1, hr1, hg1, hyb, hyc⟩
  case round =>
    obtain ⟨k, zs, hk, rfl, ho, hzl, hr, hg, hzb, hzc⟩ := hrel
    by_cases hlt2 : k < n
    · rcases ho.place with ⟨e1, rfl⟩ | ⟨g, cap', e1, -⟩
      · simp only [Value.slice.injEq] at e1
        omega
      · simp only [Value.slice.injEq] at e1
        obtain ⟨rfl, -, rfl⟩ := e1
        have hs := ho.ows hzl.out
        have hgl := hs.lt
        have hfr := hs.frozen k
        have hcur := hs.cell hlt2
        have hb := hzc.out k (Nat.le_refl _) hlt2
        have hb1 := hb.1
        have hb2 := hb.2
        have hki : (k : Int) < n := by omega
        have hgR : g ≠ R := by omega
        have hgs : w.grownBy (wr.setCell ⟨g, k, none⟩ (.int .i64 (el zs k + 1))) (some R) := grown_exR hg (ExR.of_row (grown_set (g := g) (j := k)) hg.size (fun t ht => by have := Option.some.inj ht; omega))
        have hrs : Rdr (wr.setCell ⟨g, k, none⟩ (.int .i64 (el zs k + 1))) R (q1 + k) := hr.row (grown_set (g := g) (j := k)) (fun t ht => by have := Option.some.inj ht; omega)
        have hss := hs.set k (el zs k + 1)
        clear hb
        go_wp2_with fail
        refine (pick_any R (q1 + k) 2 _ hrs (by omega) (by omega)).mono ?_
        rintro e w3 ⟨v, rfl, hv0, hv1, hr3, hg3⟩
        have ho3 := hss.own.kept hg3 (hss.own.farR hlt)
        have hl3 : Hid ((zs.set k (el zs k + 1)).length = n) := hid (by rw [List.length_set, hzl.out])
        have hs3 := ho3.ows hl3.out
        have hG3 := grown_trans hgs hg3
        have hel : Hid (el (zs.set k (el zs k + 1)) k = el zs k + 1) := hid (el_set_same (by rw [hzl.out]; exact hlt2))
        have hzb3 : Hid (∀ j, j < n → -8 ≤ el (zs.set k (el zs k + 1)) j ∧ el (zs.set k (el zs k + 1)) j ≤ 8) := fun j hj => by
          by_cases e : j = k
          · rw [e, hel.out]; omega
          · rw [el_set_ne (by omega)]; exact hzb.out j hj
        have hzc3 : Hid (∀ j, k + 1 ≤ j → j < n → 0 ≤ el (zs.set k (el zs k + 1)) j ∧ el (zs.set k (el zs k + 1)) j ≤ 7) := fun j hjk hj => by
          rw [el_set_ne (by omega)]; exact hzc.out j (by omega) hj
        have ho3' := ho3
        clear ho
        by_cases e0 : v = 0
        · subst e0
          have hfr3 := hs3.frozen k
          have hcur3 := hs3.cell hlt2
          rw [hel.out] at hcur3
          have hr4 : Rdr (w3.setCell ⟨g, k, none⟩ (.int .i64 (-(el zs k + 1)))) R (q1 + k + 1) := hr3.row (grown_set (g := g) (j := k)) (fun t ht => by have := Option.some.inj ht; omega)
          have hg4 : w.grownBy (w3.setCell ⟨g, k, none⟩ (.int .i64 (-(el zs k + 1)))) (some R) := grown_exR hG3 (ExR.of_row (grown_set (g := g) (j := k)) hG3.size (fun t ht => by have := Option.some.inj ht; omega))
          have ho4 := (hs3.set k (-(el zs k + 1))).own
          have hl4 : Hid (((zs.set k (el zs k + 1)).set k (-(el zs k + 1))).length = n) := hid (by rw [List.length_set, hl3.out])
          have hl4' := hl4.out
          have hzb4 : Hid (∀ j, j < n → -8 ≤ el ((zs.set k (el zs k + 1)).set k (-(el zs k + 1))) j ∧ el ((zs.set k (el zs k + 1)).set k (-(el zs k + 1))) j ≤ 8) := fun j hj => by
            by_cases e : j = k
            · rw [e, el_set_same (by rw [hl3.out]; exact hlt2)]; omega
            · rw [el_set_ne (by omega)]; exact hzb3.out j hj
          have hzc4 : Hid (∀ j, k + 1 ≤ j → j < n → 0 ≤ el ((zs.set k (el zs k + 1)).set k (-(el zs k + 1))) j ∧ el ((zs.set k (el zs k + 1)).set k (-(el zs k + 1))) j ≤ 7) := fun j hjk hj => by
            rw [el_set_ne (by omega)]; exact hzc3.out j hjk hj
          obtain ⟨z4, hz4⟩ : ∃ z4, z4 = (zs.set k (el zs k + 1)).set k (-(el zs k + 1)) := ⟨_, rfl⟩
          rw [← hz4] at ho4 hl4 hzb4 hzc4
          clear hv0 hv1 hz4 hl4' hs3 ho3 ho3' hss hs
          go_wp2
          go_roundw
          case rel => exact ⟨k + 1, z4, by omega, by go_num, ho4, hl4, hr4, hg4, hzb4, hzc4⟩
          case measure => simp [intOf]; omega
        · obtain ⟨z4, hz4⟩ : ∃ z4, z4 = zs.set k (el zs k + 1) := ⟨_, rfl⟩
          rw [← hz4] at ho3' hl3 hzb3 hzc3
          clear hv0 hv1 hz4 hs3 ho3 hss hs hel
          go_wp2
          go_roundw
          case rel => exact ⟨k + 1, z4, by omega, by go_num, ho3', hl3, hr3, hG3, hzb3, hzc3⟩
          case measure => simp [intOf]; omega
    · obtain rfl : k = n := by omega
      go_wp2
      go_ret
      exact ⟨_, zs, _, rfl, ho, hzl.out, by omega, hr, hg, hzb⟩

set_option maxHeartbeats 2000000 in
theorem someSigned_any (R q : Nat) (w : World) (h : Rdr w R q) (hq : q ≤ 40000) :
    Calls Tryd.prog 17 #[.pointer (some ⟨R, 0, none⟩)] w (DrewG w R 6 (q + 50)) := by
  have hlt := h.lt
  have ha := lit_arr w [3, 4, 2, 5, 1, 0]
  have hr := h.below ((Below.refl w.heap.size w).alloc (Nat.le_refl _) (.cells ([3, 4, 2, 5, 1, 0].map (Value.int .i64)).toArray 3))
  have Ha := hid ha
  have Hr := hid hr
  clear ha hr
  go_enter Tryd.func17, Tryd.ntmps17
  go_wp2_with fail
  refine (one_any R q w.heap.size 6 3 [3, 4, 2, 5, 1, 0] _ Hr.out (by omega) Ha.out rfl (by omega) (by omega) (by omega)).mono ?_
  rintro e w1 ⟨j, hj, rfl, hr1, hg1⟩
  have hv : ∀ j, j < 6 → 0 ≤ el [3, 4, 2, 5, 1, 0] j ∧ el [3, 4, 2, 5, 1, 0] j ≤ 5 := by decide
  obtain ⟨n, hn⟩ := Int.eq_ofNat_of_zero_le (hv j hj).1
  have hn7 : n ≤ 5 := by have := (hv j hj).2; omega
  rw [hn]
  clear hv hn hj
  have hG1 := grown_trans (World.grownBy_alloc w (.cells ([3, 4, 2, 5, 1, 0].map (Value.int .i64)).toArray 3) (some R)) hg1
  have hsz : w.heap.size ≤ w1.heap.size := hG1.size
  go_wp2_with fail
  refine (aSigned_any R (q + 1) n w1 hr1 (by omega) (by omega)).mono ?_
  rintro e w2 ⟨u, ys, q2, rfl, ho, hl, hq2, hr2, hg2, hyb⟩
  have hy64 : Hid (R64 ys) := fun j hj => by rw [hl] at hj; have := hyb.out j hj; omega
  have hG2 := grown_trans hG1 hg2
  have ho := ho.mono hsz
  obtain ⟨a1, c1, rfl, -⟩ := ho.sl
  rw [hl] at ho ⊢
  have hyl := hid hl
  clear hl
  have hB2 : w.heap.size ≤ w2.heap.size := hG2.size
  go_wp2_with fail
  refine (pick_any R q2 30 w2 hr2 (by omega) (by omega)).mono ?_
  rintro e w3 ⟨v, rfl, hv0, hv1, hr3, hg3⟩
  have ho3 := ho.kept hg3 (ho.farR hlt)
  have hG3 := grown_trans hG2 hg3
  have hB3 : w.heap.size ≤ w3.heap.size := hG3.size
  by_cases e0 : v = 0
  · subst e0
    by_cases hn0 : n = 0
    · subst hn0
      clear hv0 hv1
      go_wp2
      go_ret
      exact ⟨_, ys, _, rfl, ho3, by rw [hyl.out]; omega, by omega, hr3, hG3, hy64⟩
    · clear hv0 hv1
      have hnp : (0 : Int) < n := by omega
      go_wp2_with fail
      refine (pick_any R (q2 + 1) n w3 hr3 (by omega) (by omega)).mono ?_
      rintro e w4 ⟨v2, rfl, hv0, hv1, hr4, hg4⟩
      obtain ⟨j, rfl⟩ := Int.eq_ofNat_of_zero_le hv0
      have hj : j < n := by have := Int.max_eq_left (show (1 : Int) ≤ n by omega); omega
      have ho4 := ho3.kept hg4 (ho3.farR hlt)
      have hG4 := grown_trans hG3 hg4
      have hB4 : w.heap.size ≤ w4.heap.size := hG4.size
      have ha := lit_arr w4 [0, 6, -6, 1, -9223372036854775808]
      have hb4 := (Below.refl w4.heap.size w4).alloc (Nat.le_refl _) (.cells ([0, 6, -6, 1, -9223372036854775808].map (Value.int .i64)).toArray 3)
      have hr5 := hr4.below hb4
      have Ha := hid ha
      have Hr := hid hr5
      have hRw := hr4.lt
      have ho5 := ho4.below (Nat.le_refl _) hb4
      have hG5 := grown_trans hG4 (World.grownBy_alloc w4 (.cells ([0, 6, -6, 1, -9223372036854775808].map (Value.int .i64)).toArray 3) (some R))
      clear hv0 hv1 ha hr5 hb4
      go_wp2_with fail
      refine (one_any R (q2 + 2) w4.heap.size 5 3 [0, 6, -6, 1, -9223372036854775808] _ Hr.out (by omega) Ha.out rfl (by omega) (by omega) (by omega)).mono ?_
      rintro e w5 ⟨j3, hj3, rfl, hr5, hg5⟩
      have ho6 := ho5.kept hg5 (ho5.farR hlt)
      have hG6 := grown_trans hG5 hg5
      have hB6 : w.heap.size ≤ w5.heap.size := hG6.size
      rcases ho6.place with ⟨e1, rfl⟩ | ⟨g, cap', e1, hs3⟩
      · simp only [Value.slice.injEq] at e1
        omega
      · simp only [Value.slice.injEq] at e1
        obtain ⟨rfl, e2, rfl⟩ := e1
        rw [← e2] at hs3
        clear e2
        have hfr := hs3.frozen j
        have hcur := hs3.cell hj
        have hlt3 := hs3.lt
        have hzb : ∀ j, j < 5 → -9223372036854775808 ≤ el [0, 6, -6, 1, -9223372036854775808] j ∧ el [0, 6, -6, 1, -9223372036854775808] j ≤ 9223372036854775807 := by decide
        have hzb := hid (hzb j3 hj3)
        obtain ⟨z, hz⟩ : ∃ z, z = el [0, 6, -6, 1, -9223372036854775808] j3 := ⟨_, rfl⟩
        rw [← hz] at hzb ⊢
        have hz64 : Hid (R64 (ys.set j z)) := fun t ht => by
          rw [List.length_set] at ht
          by_cases e : t = j
          · rw [e, el_set_same (by rw [hyl.out]; exact hj)]; exact hzb.out
          · rw [el_set_ne (by omega)]; exact hy64.out t ht
        clear hz hj3
        go_wp2
        go_ret
        exact ⟨_, ys.set j z, _, rfl, (hs3.set j z).own, by rw [List.length_set, hyl.out]; omega, by omega, hr5.row (grown_set (g := g) (j := j)) (fun k hk => by have := Option.some.inj hk; omega), grown_exR hG6 (ExR.of_row (grown_set (g := g) (j := j)) hB6 (fun k hk => by have := Option.some.inj hk; omega)), hz64⟩
  · by_cases e1 : v = 1
    · subst e1
      clear hv0 hv1
      go_wp2_with fail
      refine (aSigned_any R (q2 + 1) 6 w3 hr3 (by omega) (by omega)).mono ?_
      rintro e w4 ⟨u4, zs, q4, rfl, ho4, hl4, hq4, hr4, hg4, hzb⟩
      have hz64 : Hid (R64 zs) := fun j hj => by rw [hl4] at hj; have := hzb.out j hj; omega
      go_wp2
      go_ret
      exact ⟨_, zs, q4, rfl, ho4.mono hB3, by omega, by omega, hr4, grown_trans hG3 hg4, hz64⟩
    · clear hv0 hv1
      go_wp2
      go_ret
      exact ⟨_, ys, _, rfl, ho3, by rw [hyl.out]; omega, by omega, hr3, hG3, hy64⟩

theorem drawSignedText_any (bo : Option Addr) (n cap : Nat) (cs : List Int) (w : World) (h : Slb w bo n cap cs) :
    Calls Tryd.prog 6 #[.slice bo n cap] w (DrawnG w) := by
  go_enter Tryd.func6, Tryd.ntmps6
  go_wp2_with fail
  refine (newReader_any bo n cap cs w h).mono ?_
  rintro e w1 ⟨rfl, hr1, hb1⟩
  go_wp2_with fail
  refine (someSigned_any w.heap.size 0 w1 hr1 (by omega)).mono ?_
  rintro e w2 ⟨u, ys, q, rfl, ho, hl, -, -, hg, h64⟩
  go_wp2
  go_ret
  exact ⟨_, ys, rfl, ho.mono hb1.size, h64, by omega, below_reader hb1 hg⟩

end Go.Proofs.YtjgaglfinpeeoabDoor
