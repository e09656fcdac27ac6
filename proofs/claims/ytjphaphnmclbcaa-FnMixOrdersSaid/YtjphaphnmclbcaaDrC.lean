/- The contents that the laws draw: whatever the bytes, lists of at most twenty numbers. Condition: the bytes can be read. -/
import Derived.Test.YtjphaphnmclbcaaDrawW
import Derived.Test.YtjphaphnmclbcaaWrd
namespace Go.Proofs.Ytjphaphnmclbcaa
open Go.RowKit

theorem Own.owsC {w : World} {B g n cap : Nat} {ys : List Int} (h : Own w B (.slice (some ⟨g, 0, none⟩) n cap) ys) (hl : ys.length = n) : OwS w B g n cap ys := by
  subst hl
  exact h

set_option maxHeartbeats 1000000 in
theorem aWordV_any (R q n : Nat) (w : World) (h : Rdr w R q) (hq : q ≤ 60000) (hn : n ≤ 7) :
    Calls Try.prog 100 #[.pointer (some ⟨R, 0, none⟩), .int .i64 n] w (fun e w' => ∃ u ys q', e = .returned u ∧ Own w' w.heap.size u ys ∧ Hid (VW ys) ∧ q' ≤ q + 9 ∧ Rdr w' R q' ∧ w.grownBy w' (some R)) := by
  have hlt := h.lt
  have hr0 := h.below ((Below.refl w.heap.size w).alloc (Nat.le_refl _) (.cells #[] 3))
  go_enter Try.func100, Try.ntmps100
  go_wp2_with fail
  refine (pick_any R q 4 _ hr0 (by omega) (by omega)).mono ?_
  rintro e w1 ⟨m, rfl, hm0, hm1, hr1, hg1⟩
  have hg1' := grown_trans (World.grownBy_alloc w (.cells #[] 3) (some R)) hg1
  have ho1 := (own_lit w).kept hg1 ((own_lit w).farR hlt)
  have hm3 : m ≤ 3 := by omega
  clear hm1
  go_wp2
  go_loopw [5] (fun p wr => ∃ (k : Nat) (ao : Option Addr) (cap : Nat) (ys : List Int), k ≤ n ∧ p = .slice ao k cap ∧ Own wr w.heap.size (.slice ao k cap) ys ∧ Hid (∀ y ∈ ys, 0 ≤ y ∧ y ≤ 3) ∧ Rdr wr R (q + 1 + k) ∧ w.grownBy wr (some R))
    (fun p _ => n - lenOf p)
  case atStart => exact ⟨0, _, _, [], Nat.zero_le _, rfl, ho1, fun y hy => by simp at hy, hr1, hg1'⟩
  case round =>
    obtain ⟨k, ao, cap, ys, hk, rfl, ho, hall, hr, hg⟩ := hrel
    have hyl := hid ho.read.len
    by_cases hlt2 : k < n
    · go_wp2_with fail
      refine (pick_any R (q + 1 + k) (1 + m) wr hr (by omega) (by omega)).mono ?_
      rintro e w2 ⟨v, rfl, hv0, hv1, hr2, hg2⟩
      have ho2 := ho.kept hg2 (ho.farR hlt)
      have hsz : w.heap.size ≤ w2.heap.size := Nat.le_trans hg.size hg2.size
      have hl : ys.length ≤ 2000000 := by rw [hyl.out]; omega
      have hall' : Hid (∀ y ∈ ys ++ [v], 0 ≤ y ∧ y ≤ 3) := by
        intro y hy
        rcases List.mem_append.1 hy with h1 | h1
        · exact hall.out y h1
        · rw [List.mem_singleton.1 h1]
          have : max (1 + m - 1) 0 ≤ 3 := by omega
          omega
      clear hv0 hv1
      go_wp2_with (at_builtin; refine app_int _ _ rfl _ _ rfl w.heap.size _ _ rfl ho2 rfl hl hsz ?_)
      intro u' w' ho' hg'
      have hr3 := hr2.row hg' (fun k hk => by have := (ho2.blocks k hk).1; omega)
      have hg3 := grown_exR (grown_trans hg hg2) (ExR.of_row hg' hsz (fun k hk => (ho2.blocks k hk).1))
      obtain ⟨ao', cap', rfl, hs'⟩ := ho'.sl
      rw [List.length_append, hyl.out, List.length_singleton] at *
      go_wp2
      go_roundw
      case rel => exact ⟨k + 1, _, _, _, by omega, rfl, ho', hall', hr3, hg3⟩
      case measure => simp [lenOf]; omega
    · obtain rfl : k = n := by omega
      go_wp2
      go_ret
      refine ⟨_, ys, _, rfl, ho, ⟨by rw [hyl.out]; exact hn, fun j hj => ?_, fun j hj => ?_⟩, by omega, hr, hg⟩
      · rw [el_lt hj]; exact (hall.out _ (List.getElem_mem hj)).1
      · rw [el_lt hj]; exact (hall.out _ (List.getElem_mem hj)).2

/-- What a draw of one list leaves, wherever it begins. -/
def DrewV (w : World) (R m Q : Nat) (e : Ending) (w' : World) : Prop := ∃ ao n cap ys q, e = .returned (.slice ao n cap) ∧ Sl w' ao n cap ys ∧ (∀ b off, ao = some ⟨b, off, none⟩ → w.heap.size ≤ b) ∧ n ≤ m ∧ q ≤ Q ∧ Rdr w' R q ∧ w.grownBy w' (some R)
/-- What a law's draw of one list leaves, wherever it begins. -/
def DrawnV (w : World) (e : Ending) (w' : World) : Prop := ∃ ao n cap ys, e = .returned (.slice ao n cap) ∧ Sl w' ao n cap ys ∧ n ≤ 20 ∧ Below w.heap.size w w'

set_option maxHeartbeats 2000000 in
theorem someContent_any (R q most : Nat) (w : World) (h : Rdr w R q) (hq : q ≤ 40000) (hm : most ≤ 7) :
    Calls Try.prog 78 #[.pointer (some ⟨R, 0, none⟩), .int .i64 most] w (DrewV w R 20 (q + 20)) := by
  have hlt := h.lt
  go_enter Try.func78, Try.ntmps78
  go_wp2_with fail
  refine (pick_any R q _ _ h (by omega) (by omega)).mono ?_
  rintro e w1 ⟨v, rfl, hv0, hv1, hr1, hg1⟩
  obtain ⟨n, rfl⟩ := Int.eq_ofNat_of_zero_le hv0
  have hn7 : n ≤ 7 := by omega
  clear hv0 hv1
  go_wp2_with fail
  refine (aWordV_any R (q + 1) n w1 hr1 (by omega) hn7).mono ?_
  rintro e w2 ⟨u, xs, q2, rfl, ho, hvw, hq2, hr2, hg2⟩
  have hG2 := grown_trans hg1 hg2
  obtain ⟨a1, c1, rfl, hs1⟩ := ho.sl
  clear ho
  go_wp2_with fail
  refine (cont0_any a1 _ c1 xs w2 hs1 hvw).mono ?_
  rintro e w3 ⟨u3, rfl, ho3, hb3⟩
  have hr3 := hr2.below hb3
  have hsz2 : w.heap.size ≤ w2.heap.size := hG2.size
  have hG3 : w.grownBy w3 (some R) := grown_trans hG2 (grown_of_below hb3)
  have ho3 := ho3.mono hsz2
  have hsz3 : w.heap.size ≤ w3.heap.size := hG3.size
  obtain ⟨zs, hz⟩ : ∃ zs, zs = cont xs := ⟨_, rfl⟩
  have hz4 : zs.length = 4 := by rw [hz]; exact ctP_len xs xs.length
  rw [← hz] at ho3
  clear hz hvw hs1
  have Hz4 := hid hz4
  clear hz4
  rcases ho3.place with ⟨e1, e2⟩ | ⟨g, cap, rfl, hs3⟩
  · have := Hz4.out
    subst e2
    simp at this
  rw [Hz4.out] at hs3 ho3 ⊢
  have hc1 : ¬ cap = 1 := by have := hs3.sl.le; omega
  go_wp2_with fail
  refine (pick_any R q2 30 w3 hr3 (by omega) (by omega)).mono ?_
  rintro e w4 ⟨v, rfl, hv0, hv1, hr4, hg4⟩
  have ho4 := ho3.kept hg4 (ho3.farR hlt)
  have hG4 := grown_trans hG3 hg4
  have hB4 : w.heap.size ≤ w4.heap.size := hG4.size
  have hs4 := ho4.owsC Hz4.out
  by_cases e0 : v = 0
  · subst e0
    clear hv0 hv1
    go_wp2_with fail
    refine (pick_any R (q2 + 1) 4 w4 hr4 (by omega) (by omega)).mono ?_
    rintro e w5 ⟨v2, rfl, hv0, hv1, hr5, hg5⟩
    obtain ⟨j, rfl⟩ := Int.eq_ofNat_of_zero_le hv0
    have hj : j < 4 := by have := Int.max_eq_left (show (0 : Int) ≤ 4 - 1 by omega); omega
    have ho5 := ho4.kept hg5 (ho4.farR hlt)
    have hG5 := grown_trans hG4 hg5
    have hB5 : w.heap.size ≤ w5.heap.size := hG5.size
    have ha := lit_arr w5 [-1, 8, 6]
    have hb6 := (Below.refl w5.heap.size w5).alloc (Nat.le_refl _) (.cells ([-1, 8, 6].map (Value.int .i64)).toArray 3)
    have hr6 := hr5.below hb6
    have Ha := hid ha
    have Hr := hid hr6
    have hRw := hr5.lt
    have ho6 := ho5.below (Nat.le_refl _) hb6
    have hG6 := grown_trans hG5 (World.grownBy_alloc w5 (.cells ([-1, 8, 6].map (Value.int .i64)).toArray 3) (some R))
    clear hv0 hv1 ha hr6 hb6
    go_wp2_with fail
    refine (one_any R (q2 + 2) w5.heap.size 3 3 [-1, 8, 6] _ Hr.out (by omega) Ha.out rfl (by omega) (by omega) (by omega)).mono ?_
    rintro e w7 ⟨j3, hj3, rfl, hr7, hg7⟩
    have ho7 := ho6.kept hg7 (ho6.farR hlt)
    have hG7 := grown_trans hG6 hg7
    have hB7 : w.heap.size ≤ w7.heap.size := hG7.size
    have hs7 := ho7.owsC Hz4.out
    have hfr := hs7.frozen j
    have hcur := hs7.cell hj
    have hlt7 := hs7.lt
    obtain ⟨z, hz⟩ : ∃ z, z = el [-1, 8, 6] j3 := ⟨_, rfl⟩
    rw [← hz]
    clear hz hj3
    go_wp2
    go_ret
    refine ⟨_, 4, _, zs.set j z, _, rfl, (hs7.set j z).sl, fun b off e => by cases e; exact hs3.lt.1, by omega, ?_, hr7.row (grown_set (g := g) (j := j)) (fun k hk => by have := Option.some.inj hk; omega), grown_exR hG7 (ExR.of_row (grown_set (g := g) (j := j)) hB7 (fun k hk => by have := Option.some.inj hk; have := hs7.lt.1; omega))⟩
    omega
  · by_cases e1 : v = 1
    · subst e1
      clear hv0 hv1
      have hs5 := hs4.sl
      have hl1 : (zs.drop 1).length = 3 := by rw [List.length_drop, Hz4.out]
      obtain ⟨ds, hds⟩ : ∃ ds, ds = zs.drop 1 := ⟨_, rfl⟩
      have hs6 : Sl w4 (some ⟨g, 1, none⟩) 3 (cap - 1) ds := by
        refine ⟨by rw [hds, hl1], by have := hs5.le; omega, by have := hs5.max; omega, fun _ => ⟨g, 1, rfl, hs4.lt.2, fun j hj => ?_⟩⟩
        rw [hs4.cell (by omega), hds]
        simp [el, List.getD, Nat.add_comm]
      rw [← hds] at hl1
      clear hds hs5
      go_wp2
      go_ret
      exact ⟨_, 3, _, ds, q2 + 1, rfl, hs6, fun b off e => by cases e; exact hs3.lt.1, by omega, by omega, hr4, hG4⟩
    · by_cases e2 : v = 2
      · subst e2
        clear hv0 hv1
        have hl1 : zs.length ≤ 2000000 := by rw [Hz4.out]; omega
        go_wp2_with (at_builtin; refine app_int _ _ rfl _ _ rfl w.heap.size _ _ rfl ho4 rfl hl1 hB4 ?_)
        intro u' w' ho' hg'
        go_wp2
        go_ret
        obtain ⟨a8, c8, rfl, hs9⟩ := ho'.sl
        rw [List.length_append, Hz4.out, List.length_singleton] at hs9
        exact ⟨_, 5, c8, _, q2 + 1, by rw [List.length_append, Hz4.out, List.length_singleton]; rfl, hs9, fun b off e => (ho'.blocks b (by rw [e]; rfl)).1, by omega, by omega, hr4.row hg' (fun k hk => by have := (ho4.blocks k hk).1; omega), grown_exR hG4 (ExR.of_row hg' hB4 (fun k hk => (ho4.blocks k hk).1))⟩
      · clear hv0 hv1
        go_wp2
        go_ret
        exact ⟨_, 4, _, _, q2 + 1, rfl, hs4.sl, fun b off e => by cases e; exact hs3.lt.1, by omega, by omega, hr4, hG4⟩

theorem drawCountWords_any (bo : Option Addr) (n cap : Nat) (cs : List Int) (w : World) (h : Slb w bo n cap cs) :
    Calls Try.prog 42 #[.slice bo n cap] w (DrawnV w) := by
  go_enter Try.func42, Try.ntmps42
  go_wp2_with fail
  refine (newReader_any bo n cap cs w h).mono ?_
  rintro e w1 ⟨rfl, hr1, hb1⟩
  go_wp2_with fail
  refine (someContent_any w.heap.size 0 7 w1 hr1 (by omega) (by omega)).mono ?_
  rintro e w2 ⟨ao, n2, c2, ys, q, rfl, hs, hab, hl, -, -, hg⟩
  go_wp2
  go_ret
  exact ⟨_, n2, c2, ys, rfl, hs, hl, below_reader hb1 hg⟩

theorem drawManyRow_any (bo : Option Addr) (n cap : Nat) (cs : List Int) (w : World) (h : Slb w bo n cap cs) :
    Calls Try.prog 51 #[.slice bo n cap] w (DrawnV w) := by
  go_enter Try.func51, Try.ntmps51
  go_wp2_with fail
  refine (newReader_any bo n cap cs w h).mono ?_
  rintro e w1 ⟨rfl, hr1, hb1⟩
  go_wp2_with fail
  refine (someContent_any w.heap.size 0 7 w1 hr1 (by omega) (by omega)).mono ?_
  rintro e w2 ⟨ao, n2, c2, ys, q, rfl, hs, hab, hl, -, -, hg⟩
  go_wp2
  go_ret
  exact ⟨_, n2, c2, ys, rfl, hs, hl, below_reader hb1 hg⟩

theorem drawAllWords_any (bo : Option Addr) (n cap : Nat) (cs : List Int) (w : World) (h : Slb w bo n cap cs) :
    Calls Try.prog 36 #[.slice bo n cap] w (DrawnV w) := by
  go_enter Try.func36, Try.ntmps36
  go_wp2_with fail
  refine (newReader_any bo n cap cs w h).mono ?_
  rintro e w1 ⟨rfl, hr1, hb1⟩
  have ha := lit_arr w1 [4, 5, 3, 5, 6]
  have hr := hr1.below ((Below.refl w1.heap.size w1).alloc (Nat.le_refl _) (.cells ([4, 5, 3, 5, 6].map (Value.int .i64)).toArray 3))
  have Ha := hid ha
  have Hr := hid hr
  have hRw := hr1.lt
  clear ha hr
  go_wp2_with fail
  refine (one_any w.heap.size 0 w1.heap.size 5 3 [4, 5, 3, 5, 6] _ Hr.out (by omega) Ha.out rfl (by omega) (by omega) (by omega)).mono ?_
  rintro e w2 ⟨j, hj, rfl, hr2, hg2⟩
  have hv : ∀ j, j < 5 → 0 ≤ el [4, 5, 3, 5, 6] j ∧ el [4, 5, 3, 5, 6] j ≤ 7 := by decide
  obtain ⟨k, hk⟩ := Int.eq_ofNat_of_zero_le (hv j hj).1
  have hk7 : k ≤ 7 := by have := (hv j hj).2; omega
  rw [hk]
  clear hv hk hj
  have hG2 := grown_trans (World.grownBy_alloc w1 (.cells ([4, 5, 3, 5, 6].map (Value.int .i64)).toArray 3) (some w.heap.size)) hg2
  go_wp2_with fail
  refine (someContent_any w.heap.size 1 k w2 hr2 (by omega) hk7).mono ?_
  rintro e w3 ⟨ao, n2, c2, ys, q, rfl, hs, hab, hl, hq, hr3, hg⟩
  have hG3 := grown_trans hG2 hg
  go_wp2
  go_ret
  exact ⟨_, n2, c2, ys, rfl, hs, hl, below_reader hb1 hG3⟩

/-- What a law's draw of one list and a choice leaves. -/
def DrawnVB (w : World) (e : Ending) (w' : World) : Prop := ∃ ao n cap ys b, e = .returned (.tuple #[.slice ao n cap, .bool b]) ∧ Sl w' ao n cap ys ∧ n ≤ 20 ∧ Below w.heap.size w w'

theorem Sl.farR {w w' : World} {R : Nat} {ao : Option Addr} {n cap : Nat} {ys : List Int} (h : Sl w ao n cap ys) (hab : ∀ b off, ao = some ⟨b, off, none⟩ → b ≠ R) (hg : w.grownBy w' (some R)) : Sl w' ao n cap ys := by
  refine ⟨h.len, h.le, h.max, fun hn => ?_⟩
  obtain ⟨b, off, e, hlt, hc⟩ := h.row hn
  exact ⟨b, off, e, Nat.lt_of_lt_of_le hlt hg.size, fun j hj => grown_far hg (hab b off e) (hc j hj)⟩

theorem drawWordRow_any (bo : Option Addr) (n cap : Nat) (cs : List Int) (w : World) (h : Slb w bo n cap cs) :
    Calls Try.prog 53 #[.slice bo n cap] w (DrawnVB w) := by
  go_enter Try.func53, Try.ntmps53
  go_wp2_with fail
  refine (newReader_any bo n cap cs w h).mono ?_
  rintro e w1 ⟨rfl, hr1, hb1⟩
  have ha := lit_arr w1 [4, 5, 3, 5, 6]
  have hr := hr1.below ((Below.refl w1.heap.size w1).alloc (Nat.le_refl _) (.cells ([4, 5, 3, 5, 6].map (Value.int .i64)).toArray 3))
  have Ha := hid ha
  have Hr := hid hr
  have hRw := hr1.lt
  clear ha hr
  go_wp2_with fail
  refine (one_any w.heap.size 0 w1.heap.size 5 3 [4, 5, 3, 5, 6] _ Hr.out (by omega) Ha.out rfl (by omega) (by omega) (by omega)).mono ?_
  rintro e w2 ⟨j, hj, rfl, hr2, hg2⟩
  have hv : ∀ j, j < 5 → 0 ≤ el [4, 5, 3, 5, 6] j ∧ el [4, 5, 3, 5, 6] j ≤ 7 := by decide
  obtain ⟨k, hk⟩ := Int.eq_ofNat_of_zero_le (hv j hj).1
  have hk7 : k ≤ 7 := by have := (hv j hj).2; omega
  rw [hk]
  clear hv hk hj
  have hG2 := grown_trans (World.grownBy_alloc w1 (.cells ([4, 5, 3, 5, 6].map (Value.int .i64)).toArray 3) (some w.heap.size)) hg2
  go_wp2_with fail
  refine (someContent_any w.heap.size 1 k w2 hr2 (by omega) hk7).mono ?_
  rintro e w3 ⟨ao, n2, c2, ys, q, rfl, hs, hab, hl, hq, hr3, hg⟩
  have hG3 := grown_trans hG2 hg
  go_wp2_with fail
  refine (pick_any w.heap.size q 2 w3 hr3 (by omega) (by omega)).mono ?_
  rintro e w4 ⟨v, rfl, hv0, hv1, hr4, hg4⟩
  have hs4 := hs.farR (R := w.heap.size) (fun b off e => by have h1 := hab b off e; have h2 := hG2.size; omega) hg4
  clear hv0 hv1
  go_wp2
  go_ret2
  exact ⟨_, n2, c2, ys, _, rfl, hs4, hl, below_reader hb1 (grown_trans hG3 hg4)⟩

/-- What a law's draw of two numbers leaves. -/
def DrawnII (w : World) (e : Ending) (w' : World) : Prop := ∃ n k : Int, e = .returned (.tuple #[.int .i64 n, .int .i64 k]) ∧ -1 ≤ n ∧ n ≤ 8 ∧ -1 ≤ k ∧ k ≤ 7 ∧ Below w.heap.size w w'

theorem drawBinomialRow_any (bo : Option Addr) (n cap : Nat) (cs : List Int) (w : World) (h : Slb w bo n cap cs) :
    Calls Try.prog 46 #[.slice bo n cap] w (DrawnII w) := by
  go_enter Try.func46, Try.ntmps46
  go_wp2_with fail
  refine (newReader_any bo n cap cs w h).mono ?_
  rintro e w1 ⟨rfl, hr1, hb1⟩
  have ha := lit_arr w1 [4, 5, 6, 7, 3, 2, 1, 0, 8, -1]
  have hr := hr1.below ((Below.refl w1.heap.size w1).alloc (Nat.le_refl _) (.cells ([4, 5, 6, 7, 3, 2, 1, 0, 8, -1].map (Value.int .i64)).toArray 3))
  have Ha := hid ha
  have Hr := hid hr
  have hRw := hr1.lt
  clear ha hr
  go_wp2_with fail
  refine (one_any w.heap.size 0 w1.heap.size 10 3 [4, 5, 6, 7, 3, 2, 1, 0, 8, -1] _ Hr.out (by omega) Ha.out rfl (by omega) (by omega) (by omega)).mono ?_
  rintro e w2 ⟨j, hj, rfl, hr2, hg2⟩
  have hv : ∀ j, j < 10 → -1 ≤ el [4, 5, 6, 7, 3, 2, 1, 0, 8, -1] j ∧ el [4, 5, 6, 7, 3, 2, 1, 0, 8, -1] j ≤ 8 := by decide
  obtain ⟨x, hx⟩ : ∃ x, x = el [4, 5, 6, 7, 3, 2, 1, 0, 8, -1] j := ⟨_, rfl⟩
  have hxb := hv j hj
  rw [← hx] at hxb ⊢
  clear hv hj hx
  have hG2 := grown_trans (World.grownBy_alloc w1 (.cells ([4, 5, 6, 7, 3, 2, 1, 0, 8, -1].map (Value.int .i64)).toArray 3) (some w.heap.size)) hg2
  have ha := lit_arr w2 [2, 1, 3, 0, 4, 5, 7, -1]
  have hr := hr2.below ((Below.refl w2.heap.size w2).alloc (Nat.le_refl _) (.cells ([2, 1, 3, 0, 4, 5, 7, -1].map (Value.int .i64)).toArray 3))
  have Ha2 := hid ha
  have Hr2 := hid hr
  have hRw2 := hr2.lt
  clear ha hr
  go_wp2_with fail
  refine (one_any w.heap.size 1 w2.heap.size 8 3 [2, 1, 3, 0, 4, 5, 7, -1] _ Hr2.out (by omega) Ha2.out rfl (by omega) (by omega) (by omega)).mono ?_
  rintro e w3 ⟨j, hj, rfl, hr3, hg3⟩
  have hv : ∀ j, j < 8 → -1 ≤ el [2, 1, 3, 0, 4, 5, 7, -1] j ∧ el [2, 1, 3, 0, 4, 5, 7, -1] j ≤ 7 := by decide
  obtain ⟨y, hy⟩ : ∃ y, y = el [2, 1, 3, 0, 4, 5, 7, -1] j := ⟨_, rfl⟩
  have hyb := hv j hj
  rw [← hy] at hyb ⊢
  clear hv hj hy
  have hG3 := grown_trans hG2 (grown_trans (World.grownBy_alloc w2 (.cells ([2, 1, 3, 0, 4, 5, 7, -1].map (Value.int .i64)).toArray 3) (some w.heap.size)) hg3)
  go_wp2
  go_ret2
  exact ⟨x, y, rfl, hxb.1, hxb.2, hyb.1, hyb.2, below_reader hb1 hG3⟩

end Go.Proofs.Ytjphaphnmclbcaa
