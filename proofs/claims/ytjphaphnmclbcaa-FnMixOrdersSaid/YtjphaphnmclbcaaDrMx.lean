/- The draws of MixOrders and MixRow: whatever the bytes, two lists of at most nine numbers, and a bool. Condition: the bytes can be read. -/
import Derived.Test.YtjphaphnmclbcaaDrawTwo
import Derived.Test.YtjphaphnmclbcaaTk
namespace Go.Proofs.Ytjphaphnmclbcaa
open Go Go.Conc Go.RowKit

/-- What two short orders leave, with the reader. -/
def Drew2R (w : World) (R Q : Nat) (e : Ending) (w' : World) : Prop := ∃ u v ys zs q, e = .returned (.tuple #[u, v]) ∧ Own w' w.heap.size u ys ∧ Own w' w.heap.size v zs ∧ ys.length ≤ 9 ∧ zs.length ≤ 9 ∧ q ≤ Q ∧ Rdr w' R q ∧ w.grownBy w' (some R)

set_option maxHeartbeats 1000000 in
theorem shortTwoR_any (R q : Nat) (w : World) (h : Rdr w R q) (hq : q ≤ 30000) :
    Calls Try.prog 61 #[.pointer (some ⟨R, 0, none⟩)] w (Drew2R w R (q + 40)) := by
  have hlt := h.lt
  have Ha := hid (lit_arr w [2, 3, 1, 0, 4])
  have Hr := hid (h.below ((Below.refl w.heap.size w).alloc (Nat.le_refl _) (.cells ([2, 3, 1, 0, 4].map (Value.int .i64)).toArray 3)))
  go_enter Try.func61, Try.ntmps61
  go_wp2_with fail
  refine (one_any R q w.heap.size 5 3 [2, 3, 1, 0, 4] _ Hr.out (by omega) Ha.out rfl (by omega) (by omega) (by omega)).mono ?_
  rintro e w1 ⟨j, hj, rfl, hr1, hg1⟩
  have hv : ∀ j, j < 5 → 0 ≤ el [2, 3, 1, 0, 4] j ∧ el [2, 3, 1, 0, 4] j ≤ 4 := by decide
  obtain ⟨n, hn⟩ := Int.eq_ofNat_of_zero_le (hv j hj).1
  have hn4 : n ≤ 4 := by have := (hv j hj).2; omega
  rw [hn]
  clear hv hn hj
  go_wp2_with fail
  refine (anOrder_any R (q + 1) n w1 hr1 (by omega) (by omega)).mono ?_
  rintro e w2 ⟨u, ys, q2, rfl, ho, hl, hq2, hr2, hg2⟩
  have hsz : w.heap.size ≤ w1.heap.size := Nat.le_trans (by simp) hg1.size
  have hg3 := grown_trans (grown_trans (World.grownBy_alloc w _ _) hg1) hg2
  have ho2 := ho.mono hsz
  have hlt2 := hr2.lt
  have Hl := hid hl
  clear ho hl
  obtain ⟨a1, c1, rfl, -⟩ := ho2.sl
  have Ha2 := hid (lit_arr w2 [2, 1, 3, 0, 4])
  have Hr2 := hid (hr2.below ((Below.refl w2.heap.size w2).alloc (Nat.le_refl _) (.cells ([2, 1, 3, 0, 4].map (Value.int .i64)).toArray 3)))
  have ho3 := ho2.below (Nat.le_refl _) ((Below.refl w2.heap.size w2).alloc (Nat.le_refl _) (.cells ([2, 1, 3, 0, 4].map (Value.int .i64)).toArray 3))
  go_wp2_with fail
  refine (one_any R q2 w2.heap.size 5 3 [2, 1, 3, 0, 4] _ Hr2.out (by omega) Ha2.out rfl (by omega) (by omega) (by omega)).mono ?_
  rintro e w3 ⟨j3, hj, rfl, hr3, hg4⟩
  have hv : ∀ j, j < 5 → 0 ≤ el [2, 1, 3, 0, 4] j ∧ el [2, 1, 3, 0, 4] j ≤ 4 := by decide
  obtain ⟨m, hm⟩ := Int.eq_ofNat_of_zero_le (hv j3 hj).1
  have hm4 : m ≤ 4 := by have := (hv j3 hj).2; omega
  rw [hm]
  have ho4 := ho3.kept hg4 (ho3.farR hlt)
  have hg5 := grown_trans hg3 (grown_trans (World.grownBy_alloc w2 _ _) hg4)
  clear hv hm hj
  go_wp2_with fail
  refine (anOrder_any R (q2 + 1) m w3 hr3 (by omega) (by omega)).mono ?_
  rintro e w4 ⟨u4, zs, q4, rfl, hp, hlz, hq4, hr4, hg6⟩
  have ho5 := ho4.kept hg6 (ho4.farR hlt)
  have hp2 := hp.mono hg5.size
  have hg7 := grown_trans hg5 hg6
  have Hz := hid hlz
  clear hp hlz
  obtain ⟨a2, c2, rfl, -⟩ := hp2.sl
  go_wp2_with fail
  refine (pick_any R q4 16 w4 hr4 (by omega) (by omega)).mono ?_
  rintro e w5 ⟨v, rfl, hv0, hv1, hr5, hg8⟩
  have ho6 := ho5.kept hg8 (ho5.farR hlt)
  have hp3 := hp2.kept hg8 (hp2.farR hlt)
  have hg9 := grown_trans hg7 hg8
  by_cases e0 : v = 0
  · subst e0
    clear hv0 hv1
    go_wp2_with fail
    refine (someOrder_any R (q4 + 1) w5 hr5 (by omega)).mono ?_
    rintro e w6 ⟨u6, ts, q6, rfl, ht, hlt6, hq6, hr6, hg10⟩
    have hp4 := hp3.kept hg10 (hp3.farR hlt)
    obtain ⟨a6, c6, rfl, -⟩ := ht.sl
    go_wp2
    go_ret2
    exact ⟨_, _, ts, zs, q6, rfl, ht.mono hg9.size, hp4, hlt6, by rw [Hz.out]; omega, by omega, hr6, grown_trans hg9 hg10⟩
  · clear hv0 hv1
    go_wp2
    go_ret2
    exact ⟨_, _, ys, zs, _, rfl, ho6, hp3, by rw [Hl.out]; omega, by rw [Hz.out]; omega, by omega, hr5, hg9⟩

theorem drawMixOrders_any (bo : Option Addr) (n cap : Nat) (cs : List Int) (w : World) (h : Slb w bo n cap cs) :
    Calls Try.prog 56 #[.slice bo n cap] w (Drawn2 w) := by
  go_enter Try.func56, Try.ntmps56
  go_wp2_with fail
  refine (newReader_any bo n cap cs w h).mono ?_
  rintro e w1 ⟨rfl, hr1, hb1⟩
  go_wp2_with fail
  refine (shortTwoR_any w.heap.size 0 w1 hr1 (by omega)).mono ?_
  rintro e w2 ⟨u, v, ys, zs, q2, rfl, ho, hp, hl, hm, -, -, hg⟩
  obtain ⟨a1, c1, rfl, -⟩ := ho.sl
  obtain ⟨a2, c2, rfl, -⟩ := hp.sl
  go_wp2
  go_ret2
  exact ⟨_, _, ys, zs, rfl, ho.mono hb1.size, hp.mono hb1.size, hl, hm, below_reader hb1 hg⟩

/-- What the draw of MixRow leaves. -/
def Drawn2B (w : World) (e : Ending) (w' : World) : Prop := ∃ u v ys zs b, e = .returned (.tuple #[u, v, .bool b]) ∧ Own w' w.heap.size u ys ∧ Own w' w.heap.size v zs ∧ ys.length ≤ 9 ∧ zs.length ≤ 9 ∧ Below w.heap.size w w'

theorem drawMixRow_any (bo : Option Addr) (n cap : Nat) (cs : List Int) (w : World) (h : Slb w bo n cap cs) :
    Calls Try.prog 17 #[.slice bo n cap] w (Drawn2B w) := by
  go_enter Try.func17, Try.ntmps17
  go_wp2_with fail
  refine (newReader_any bo n cap cs w h).mono ?_
  rintro e w1 ⟨rfl, hr1, hb1⟩
  have hRw := hr1.lt
  go_wp2_with fail
  refine (shortTwoR_any w.heap.size 0 w1 hr1 (by omega)).mono ?_
  rintro e w2 ⟨u, v, ys, zs, q2, rfl, ho, hp, hl, hm, hq2, hr2, hg⟩
  obtain ⟨a1, c1, rfl, -⟩ := ho.sl
  obtain ⟨a2, c2, rfl, -⟩ := hp.sl
  go_wp2_with fail
  refine (pick_any w.heap.size q2 2 w2 hr2 (by omega) (by omega)).mono ?_
  rintro e w3 ⟨x, rfl, hx0, hx1, hr3, hg3⟩
  have ho3 := ho.kept hg3 (ho.farR hRw)
  have hp3 := hp.kept hg3 (hp.farR hRw)
  clear hx0 hx1
  go_wp2
  go_ret3
  exact ⟨_, _, ys, zs, _, rfl, ho3.mono hb1.size, hp3.mono hb1.size, hl, hm, below_reader hb1 (grown_trans hg hg3)⟩

theorem drawn2C {Stop : Goroutine → World → Prop} {f : FuncId} {args : Array Value} {w : World} (hf : Fp f = true) (h : ∀ w₁, Only w w₁ → Calls Try.prog f args w₁ (Drawn2 w₁)) :
    CallsC Try.prog (TF Try.prog Stop) f args w M00 (fun r w' M' => M' = M00 ∧ ∃ u v ys zs, r = .tuple #[u, v] ∧ Own w' w.heap.size u ys ∧ Own w' w.heap.size v zs ∧ ys.length ≤ 9 ∧ zs.length ≤ 9 ∧ Only w w') :=
  callsC_lone (R := fun r w' => ∃ u v ys zs, r = .tuple #[u, v] ∧ Own w' w.heap.size u ys ∧ Own w' w.heap.size v zs ∧ ys.length ≤ 9 ∧ zs.length ≤ 9 ∧ Only w w') plain_prog hf fun w₁ hr => (h w₁ (Only.re hr)).mono (by
    rintro e w' ⟨u, v, ys, zs, rfl, ho, hp, hl, hm, hb⟩
    exact ⟨_, rfl, u, v, ys, zs, rfl, by rw [re_heap hr] at ho; exact ho, by rw [re_heap hr] at hp; exact hp, hl, hm, Only.of_re hr hb⟩)
theorem drawn2BC {Stop : Goroutine → World → Prop} {f : FuncId} {args : Array Value} {w : World} (hf : Fp f = true) (h : ∀ w₁, Only w w₁ → Calls Try.prog f args w₁ (Drawn2B w₁)) :
    CallsC Try.prog (TF Try.prog Stop) f args w M00 (fun r w' M' => M' = M00 ∧ ∃ u v ys zs b, r = .tuple #[u, v, .bool b] ∧ Own w' w.heap.size u ys ∧ Own w' w.heap.size v zs ∧ ys.length ≤ 9 ∧ zs.length ≤ 9 ∧ Only w w') :=
  callsC_lone (R := fun r w' => ∃ u v ys zs b, r = .tuple #[u, v, .bool b] ∧ Own w' w.heap.size u ys ∧ Own w' w.heap.size v zs ∧ ys.length ≤ 9 ∧ zs.length ≤ 9 ∧ Only w w') plain_prog hf fun w₁ hr => (h w₁ (Only.re hr)).mono (by
    rintro e w' ⟨u, v, ys, zs, b, rfl, ho, hp, hl, hm, hb⟩
    exact ⟨_, rfl, u, v, ys, zs, b, rfl, by rw [re_heap hr] at ho; exact ho, by rw [re_heap hr] at hp; exact hp, hl, hm, Only.of_re hr hb⟩)

end Go.Proofs.Ytjphaphnmclbcaa
