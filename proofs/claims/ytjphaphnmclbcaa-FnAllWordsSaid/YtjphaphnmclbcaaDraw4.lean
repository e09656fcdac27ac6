/- The bent orders that the laws draw, and the draws themselves: whatever the bytes, lists of at most nine numbers. Condition: the bytes can be read. -/
import Derived.Test.YtjphaphnmclbcaaDraw3
namespace Go.Proofs.Ytjphaphnmclbcaa
open Go.RowKit

/-- Below B all is as it was but for block R. -/
structure ExR (B R : Nat) (w w' : World) : Prop where
  os : w'.os = w.os
  tape : w'.tape = w.tape
  output : w'.output = w.output
  size : w.heap.size ≤ w'.heap.size
  block : ∀ k, k < B → k ≠ R → w'.heap[k]? = w.heap[k]?

theorem ExR.of_grown {B R : Nat} {w w' : World} (h : w.grownBy w' (some R)) (hB : B ≤ w.heap.size) : ExR B R w w' :=
  ⟨h.os, h.tape, h.output, h.size, fun k hk hne => h.block k (by omega) (fun e => hne (Option.some.inj e))⟩
theorem ExR.trans {B R : Nat} {a b c : World} (h : ExR B R a b) (k : ExR B R b c) : ExR B R a c :=
  ⟨k.os.trans h.os, k.tape.trans h.tape, k.output.trans h.output, Nat.le_trans h.size k.size, fun i hi hne => (k.block i hi hne).trans (h.block i hi hne)⟩
theorem ExR.of_row {B R : Nat} {w w' : World} {row : Option Nat} (h : w.grownBy w' row) (hB : B ≤ w.heap.size) (hr : ∀ k, row = some k → B ≤ k) : ExR B R w w' :=
  ⟨h.os, h.tape, h.output, h.size, fun k hk _ => h.block k (by omega) (fun e => by have := hr k e.symm; omega)⟩
theorem grown_exR {R : Nat} {w a b : World} (h : w.grownBy a (some R)) (k : ExR w.heap.size R a b) : w.grownBy b (some R) :=
  ⟨k.os.trans h.os, k.tape.trans h.tape, k.output.trans h.output, Nat.le_trans h.size k.size, fun i hi hne => (k.block i hi (fun e => hne (by rw [e]))).trans (h.block i hi hne)⟩

/-- A list was bent: it is the call's own still, and has at most one number more. -/
def Bent (w : World) (B R n Q : Nat) (e : Ending) (w' : World) : Prop := ∃ u ys q, e = .returned u ∧ Own w' B u ys ∧ ys.length ≤ n ∧ q ≤ Q ∧ Rdr w' R q ∧ ExR B R w w'

theorem Rdr.row {w w' : World} {R q : Nat} {row : Option Nat} (h : Rdr w R q) (hg : w.grownBy w' row) (hr : ∀ k, row = some k → R < k) : Rdr w' R q :=
  h.kept (below_of_grown hg h.lt (fun k hk => hr k hk))

set_option maxHeartbeats 1000000 in
theorem bent_any (B R q : Nat) (ao : Option Addr) (n cap : Nat) (ys : List Int) (w : World) (h : Rdr w R q) (ho : Own w B (.slice ao n cap) ys) (hR : R < B) (hB : B ≤ w.heap.size) (hq : q ≤ 50000) (hn : n ≤ 8) :
    Calls Try.prog 107 #[.pointer (some ⟨R, 0, none⟩), .slice ao n cap] w (Bent w B R 9 (q + 10)) := by
  have hyl := hid ho.read.len
  go_enter Try.func107, Try.ntmps107
  go_wp2_with fail
  refine (pick_any R q 30 w h (by omega) (by omega)).mono ?_
  rintro e w1 ⟨v, rfl, hv0, hv1, hr1, hg1⟩
  have ho1 := ho.kept hg1 (ho.farR hR)
  have hx1 := ExR.of_grown (B := B) hg1 hB
  have hB1 : B ≤ w1.heap.size := Nat.le_trans hB hg1.size
  by_cases e0 : v = 0
  · subst e0
    by_cases hn0 : n = 0
    · subst hn0
      clear hv0 hv1
      go_wp2
      go_ret
      exact ⟨_, ys, _, rfl, ho1, by rw [hyl.out]; omega, by omega, hr1, hx1⟩
    · clear hv0 hv1
      have hnp : (0 : Int) < n := by omega
      go_wp2_with fail
      refine (pick_any R (q + 1) n w1 hr1 (by omega) (by omega)).mono ?_
      rintro e w2 ⟨v2, rfl, hv0, hv1, hr2, hg2⟩
      obtain ⟨j, rfl⟩ := Int.eq_ofNat_of_zero_le hv0
      have hj : j < n := by have := Int.max_eq_left (show (1 : Int) ≤ n by omega); omega
      have ho2 := ho1.kept hg2 (ho1.farR hR)
      have hx2 := hx1.trans (ExR.of_grown (B := B) hg2 hB1)
      have hB2 : B ≤ w2.heap.size := Nat.le_trans hB1 hg2.size
      have ha := lit_arr w2 [0, -1, 7, 4611686018427387904]
      have hr3 := hr2.below ((Below.refl w2.heap.size w2).alloc (Nat.le_refl _) (.cells ([0, -1, 7, 4611686018427387904].map (Value.int .i64)).toArray 3))
      have Ha := hid ha
      have Hr := hid hr3
      have hRw := hr2.lt
      clear hv0 hv1 ha hr3
      go_wp2_with fail
      refine (one_any R (q + 2) w2.heap.size 4 3 [0, -1, 7, 4611686018427387904] _ Hr.out (by omega) Ha.out rfl (by omega) (by omega) (by omega)).mono ?_
      rintro e w3 ⟨j3, hj3, rfl, hr3, hg3⟩
      have ho3 := (ho2.below (Nat.le_refl _) ((Below.refl w2.heap.size w2).alloc (Nat.le_refl _) (.cells ([0, -1, 7, 4611686018427387904].map (Value.int .i64)).toArray 3))).kept hg3 (Own.farR (ho2.below (Nat.le_refl _) ((Below.refl w2.heap.size w2).alloc (Nat.le_refl _) (.cells ([0, -1, 7, 4611686018427387904].map (Value.int .i64)).toArray 3))) hR)
      have hx3 := hx2.trans ((ExR.of_row (row := none) (World.grownBy_alloc w2 (.cells ([0, -1, 7, 4611686018427387904].map (Value.int .i64)).toArray 3) none) hB2 (fun k hk => by cases hk)).trans (ExR.of_grown (B := B) hg3 (Nat.le_trans hB2 (by simp))))
      rcases ho3.place with ⟨e1, rfl⟩ | ⟨g, cap', e1, hs3⟩
      · simp only [Value.slice.injEq] at e1
        omega
      · simp only [Value.slice.injEq] at e1
        obtain ⟨rfl, e2, rfl⟩ := e1
        rw [← e2] at hs3
        clear e2
        have hfr := hs3.frozen j
        have hcur := hs3.cell hj
        have hlt3 := hs3.lt
        obtain ⟨z, hz⟩ : ∃ z, z = el [0, -1, 7, 4611686018427387904] j3 := ⟨_, rfl⟩
        rw [← hz]
        clear hz hj3
        go_wp2
        go_ret
        exact ⟨_, ys.set j z, _, rfl, (hs3.set j z).own, by rw [List.length_set, hyl.out]; omega, by omega, hr3.row (grown_set (g := g) (j := j)) (fun k hk => by have := Option.some.inj hk; omega), hx3.trans (ExR.of_row (grown_set (g := g) (j := j)) (by omega) (fun k hk => by have := Option.some.inj hk; omega))⟩
  · by_cases e1 : v = 1
    · subst e1
      clear hv0 hv1
      have hl1 : ys.length ≤ 2000000 := by rw [hyl.out]; omega
      go_wp2_with (at_builtin; refine app_int _ _ rfl _ _ rfl B _ _ rfl ho1 rfl hl1 hB1 ?_)
      intro u' w' ho' hg'
      go_wp2
      go_ret
      exact ⟨_, _, q + 1, rfl, ho', by rw [List.length_append, hyl.out, List.length_singleton]; omega, by omega, hr1.row hg' (fun k hk => by have := (ho1.blocks k hk).1; omega), hx1.trans (ExR.of_row hg' hB1 (fun k hk => (ho1.blocks k hk).1))⟩
    · by_cases e2 : v = 2
      · subst e2
        clear hv0 hv1
        go_wp2_with fail
        refine (anOrder_any R (q + 1) 8 w1 hr1 (by omega) (by omega)).mono ?_
        rintro e w2 ⟨u, zs, q2, rfl, ho2, hl, hq2, hr2, hg2⟩
        go_wp2
        go_ret
        exact ⟨_, zs, q2, rfl, ho2.mono hB1, by omega, by omega, hr2, hx1.trans (ExR.of_grown (B := B) hg2 hB1)⟩
      · clear hv0 hv1
        go_wp2
        go_ret
        exact ⟨_, ys, _, rfl, ho1, by rw [hyl.out]; omega, by omega, hr1, hx1⟩

/-- A call that draws a list of at most m numbers: it makes a list and turns the reader. -/
def DrewU (w : World) (R m Q : Nat) (e : Ending) (w' : World) : Prop := ∃ u ys q, e = .returned u ∧ Own w' w.heap.size u ys ∧ ys.length ≤ m ∧ q ≤ Q ∧ Rdr w' R q ∧ w.grownBy w' (some R)

set_option maxHeartbeats 400000 in
theorem someOrder_any (R q : Nat) (w : World) (h : Rdr w R q) (hq : q ≤ 40000) :
    Calls Try.prog 97 #[.pointer (some ⟨R, 0, none⟩)] w (DrewU w R 9 (q + 20)) := by
  have hlt := h.lt
  go_enter Try.func97, Try.ntmps97
  go_wp2_with fail
  refine (goodOrder_any R q w h (by omega)).mono ?_
  rintro e w1 ⟨n, hn, u, ys, q1, rfl, ho, hl, hq1, hr1, hg1⟩
  obtain ⟨a1, c1, rfl, -⟩ := ho.sl
  rw [hl] at ho ⊢
  clear hl
  go_wp2_with fail
  refine (bent_any w.heap.size R q1 a1 n c1 ys w1 hr1 ho hlt hg1.size (by omega) (by omega)).mono ?_
  rintro e w2 ⟨u2, ys2, q2, rfl, ho2, hl2, hq2, hr2, hx2⟩
  go_wp2
  go_ret
  exact ⟨_, ys2, q2, rfl, ho2, hl2, by omega, hr2, grown_exR hg1 hx2⟩

/-- What a law's draw of one list leaves: a list of at most nine numbers; nothing that was there has turned. -/
def Drawn (w : World) (e : Ending) (w' : World) : Prop := ∃ u ys, e = .returned u ∧ Own w' w.heap.size u ys ∧ ys.length ≤ 9 ∧ Below w.heap.size w w'

theorem below_reader {w w1 w2 : World} (h : Below w.heap.size w w1) (hg : w1.grownBy w2 (some w.heap.size)) : Below w.heap.size w w2 :=
  h.grown hg h.size (fun k hk => by have := Option.some.inj hk; omega)

end Go.Proofs.Ytjphaphnmclbcaa
