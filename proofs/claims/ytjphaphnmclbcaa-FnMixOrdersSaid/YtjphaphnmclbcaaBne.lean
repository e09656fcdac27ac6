/- Texts of this claim put into one: Draw4, Wds, MxP, MxS, ChA, ChB, ChP, ChQ, ChR, ChN, ChO, ChU, ChV, GrK, CtK, ChW. -/
import Derived.Test.YtjphaphnmclbcaaBnd
import Derived.Conc.Beside
import Derived.Conc.CrowdComm
import Derived.Conc.CrowdTrace
import Derived.Conc.LeavingOf
import Derived.Conc.CompanyCalls
import Derived.Conc.CompanyMem
import Derived.Below
import Derived.Conc.AppendEvents3
import Derived.Laws.AppendOwn
import Derived.Laws.Rows
import Derived.Laws.Tables
import Derived.Laws.IdiomRangeMap
import Derived.Lib.AppendZerosOnto
import Derived.KernelRfl
import Derived.Orders
/- The bent orders that the laws draw, and the draws themselves: whatever the bytes, lists of at most nine numbers. Condition: the bytes can be read. -/
namespace Go.Proofs.Ytjphaphnmclbcaa
open Go.RowKit

/-- Below B all is as it was but for block R. -/
structure ExR (B R : Nat) (w w' : World) : Prop where
  os : w'.os = w.os
  tape : w'.tape = w.tape
  output : w'.output = w.output
  size : w.heap.size ≤ w'.heap.size
  block : ∀ k, k < B → k ≠ R → w'.heap[k]? = w.heap[k]?

theorem ExR.of_grown {B R : Nat} {w w' : World} (h : w.grownBy w' (some R)) (hB : B ≤ w.heap.size) : ExR B R w w' :=
  ⟨h.os, h.tape, h.output, h.size, fun k hk hne => h.block k (by omega) (fun e => hne (Option.some.inj e))⟩
theorem ExR.trans {B R : Nat} {a b c : World} (h : ExR B R a b) (k : ExR B R b c) : ExR B R a c :=
  ⟨k.os.trans h.os, k.tape.trans h.tape, k.output.trans h.output, Nat.le_trans h.size k.size, fun i hi hne => (k.block i hi hne).trans (h.block i hi hne)⟩
theorem ExR.of_row {B R : Nat} {w w' : World} {row : Option Nat} (h : w.grownBy w' row) (hB : B ≤ w.heap.size) (hr : ∀ k, row = some k → B ≤ k) : ExR B R w w' :=
  ⟨h.os, h.tape, h.output, h.size, fun k hk _ => h.block k (by omega) (fun e => by have := hr k e.symm; omega)⟩
theorem grown_exR {R : Nat} {w a b : World} (h : w.grownBy a (some R)) (k : ExR w.heap.size R a b) : w.grownBy b (some R) :=
  ⟨k.os.trans h.os, k.tape.trans h.tape, k.output.trans h.output, Nat.le_trans h.size k.size, fun i hi hne => (k.block i hi (fun e => hne (by rw [e]))).trans (h.block i hi hne)⟩

/-- A list was bent: it is the call's own still, and has at most one number more. -/
def Bent (w : World) (B R n Q : Nat) (e : Ending) (w' : World) : Prop := ∃ u ys q, e = .returned u ∧ Own w' B u ys ∧ ys.length ≤ n ∧ q ≤ Q ∧ Rdr w' R q ∧ ExR B R w w'

theorem Rdr.row {w w' : World} {R q : Nat} {row : Option Nat} (h : Rdr w R q) (hg : w.grownBy w' row) (hr : ∀ k, row = some k → R < k) : Rdr w' R q :=
  h.kept (below_of_grown hg h.lt (fun k hk => hr k hk))

set_option maxHeartbeats 1000000 in
theorem bent_any (B R q : Nat) (ao : Option Addr) (n cap : Nat) (ys : List Int) (w : World) (h : Rdr w R q) (ho : Own w B (.slice ao n cap) ys) (hR : R < B) (hB : B ≤ w.heap.size) (hq : q ≤ 50000) (hn : n ≤ 8) :
    Calls Try.prog 107 #[.pointer (some ⟨R, 0, none⟩), .slice ao n cap] w (Bent w B R 9 (q + 10)) := by
  have hyl := hid ho.read.len
  go_enter Try.func107, Try.ntmps107
  go_wp2_with fail
  refine (pick_any R q 30 w h (by omega) (by omega)).mono ?_
  rintro e w1 ⟨v, rfl, hv0, hv1, hr1, hg1⟩
  have ho1 := ho.kept hg1 (ho.farR hR)
  have hx1 := ExR.of_grown (B := B) hg1 hB
  have hB1 : B ≤ w1.heap.size := Nat.le_trans hB hg1.size
  by_cases e0 : v = 0
  · subst e0
    by_cases hn0 : n = 0
    · subst hn0
      clear hv0 hv1
      go_wp2
      go_ret
      exact ⟨_, ys, _, rfl, ho1, by rw [hyl.out]; omega, by omega, hr1, hx1⟩
    · clear hv0 hv1
      have hnp : (0 : Int) < n := by omega
      go_wp2_with fail
      refine (pick_any R (q + 1) n w1 hr1 (by omega) (by omega)).mono ?_
      rintro e w2 ⟨v2, rfl, hv0, hv1, hr2, hg2⟩
      obtain ⟨j, rfl⟩ := Int.eq_ofNat_of_zero_le hv0
      have hj : j < n := by have := Int.max_eq_left (show (1 : Int) ≤ n by omega); omega
      have ho2 := ho1.kept hg2 (ho1.farR hR)
      have hx2 := hx1.trans (ExR.of_grown (B := B) hg2 hB1)
      have hB2 : B ≤ w2.heap.size := Nat.le_trans hB1 hg2.size
      have ha := lit_arr w2 [0, -1, 7, 4611686018427387904]
      have hr3 := hr2.below ((Below.refl w2.heap.size w2).alloc (Nat.le_refl _) (.cells ([0, -1, 7, 4611686018427387904].map (Value.int .i64)).toArray 3))
      have Ha := hid ha
      have Hr := hid hr3
      have hRw := hr2.lt
      clear hv0 hv1 ha hr3
      go_wp2_with fail
      refine (one_any R (q + 2) w2.heap.size 4 3 [0, -1, 7, 4611686018427387904] _ Hr.out (by omega) Ha.out rfl (by omega) (by omega) (by omega)).mono ?_
      rintro e w3 ⟨j3, hj3, rfl, hr3, hg3⟩
      have ho3 := (ho2.below (Nat.le_refl _) ((Below.refl w2.heap.size w2).alloc (Nat.le_refl _) (.cells ([0, -1, 7, 4611686018427387904].map (Value.int .i64)).toArray 3))).kept hg3 (Own.farR (ho2.below (Nat.le_refl _) ((Below.refl w2.heap.size w2).alloc (Nat.le_refl _) (.cells ([0, -1, 7, 4611686018427387904].map (Value.int .i64)).toArray 3))) hR)
      have hx3 := hx2.trans ((ExR.of_row (row := none) (World.grownBy_alloc w2 (.cells ([0, -1, 7, 4611686018427387904].map (Value.int .i64)).toArray 3) none) hB2 (fun k hk => by cases hk)).trans (ExR.of_grown (B := B) hg3 (Nat.le_trans hB2 (by simp))))
      rcases ho3.place with ⟨e1, rfl⟩ | ⟨g, cap', e1, hs3⟩
      · simp only [Value.slice.injEq] at e1
        omega
      · simp only [Value.slice.injEq] at e1
        obtain ⟨rfl, e2, rfl⟩ := e1
        rw [← e2] at hs3
        clear e2
        have hfr := hs3.frozen j
        have hcur := hs3.cell hj
        have hlt3 := hs3.lt
        obtain ⟨z, hz⟩ : ∃ z, z = el [0, -1, 7, 4611686018427387904] j3 := ⟨_, rfl⟩
        rw [← hz]
        clear hz hj3
        go_wp2
        go_ret
        exact ⟨_, ys.set j z, _, rfl, (hs3.set j z).own, by rw [List.length_set, hyl.out]; omega, by omega, hr3.row (grown_set (g := g) (j := j)) (fun k hk => by have := Option.some.inj hk; omega), hx3.trans (ExR.of_row (grown_set (g := g) (j := j)) (by omega) (fun k hk => by have := Option.some.inj hk; omega))⟩
  · by_cases e1 : v = 1
    · subst e1
      clear hv0 hv1
      have hl1 : ys.length ≤ 2000000 := by rw [hyl.out]; omega
      go_wp2_with (at_builtin; refine app_int _ _ rfl _ _ rfl B _ _ rfl ho1 rfl hl1 hB1 ?_)
      intro u' w' ho' hg'
      go_wp2
      go_ret
      exact ⟨_, _, q + 1, rfl, ho', by rw [List.length_append, hyl.out, List.length_singleton]; omega, by omega, hr1.row hg' (fun k hk => by have := (ho1.blocks k hk).1; omega), hx1.trans (ExR.of_row hg' hB1 (fun k hk => (ho1.blocks k hk).1))⟩
    · by_cases e2 : v = 2
      · subst e2
        clear hv0 hv1
        go_wp2_with fail
        refine (anOrder_any R (q + 1) 8 w1 hr1 (by omega) (by omega)).mono ?_
        rintro e w2 ⟨u, zs, q2, rfl, ho2, hl, hq2, hr2, hg2⟩
        go_wp2
        go_ret
        exact ⟨_, zs, q2, rfl, ho2.mono hB1, by omega, by omega, hr2, hx1.trans (ExR.of_grown (B := B) hg2 hB1)⟩
      · clear hv0 hv1
        go_wp2
        go_ret
        exact ⟨_, ys, _, rfl, ho1, by rw [hyl.out]; omega, by omega, hr1, hx1⟩

/-- A call that draws a list of at most m numbers: it makes a list and turns the reader. -/
def DrewU (w : World) (R m Q : Nat) (e : Ending) (w' : World) : Prop := ∃ u ys q, e = .returned u ∧ Own w' w.heap.size u ys ∧ ys.length ≤ m ∧ q ≤ Q ∧ Rdr w' R q ∧ w.grownBy w' (some R)

set_option maxHeartbeats 400000 in
theorem someOrder_any (R q : Nat) (w : World) (h : Rdr w R q) (hq : q ≤ 40000) :
    Calls Try.prog 97 #[.pointer (some ⟨R, 0, none⟩)] w (DrewU w R 9 (q + 20)) := by
  have hlt := h.lt
  go_enter Try.func97, Try.ntmps97
  go_wp2_with fail
  refine (goodOrder_any R q w h (by omega)).mono ?_
  rintro e w1 ⟨n, hn, u, ys, q1, rfl, ho, hl, hq1, hr1, hg1⟩
  obtain ⟨a1, c1, rfl, -⟩ := ho.sl
  rw [hl] at ho ⊢
  clear hl
  go_wp2_with fail
  refine (bent_any w.heap.size R q1 a1 n c1 ys w1 hr1 ho hlt hg1.size (by omega) (by omega)).mono ?_
  rintro e w2 ⟨u2, ys2, q2, rfl, ho2, hl2, hq2, hr2, hx2⟩
  go_wp2
  go_ret
  exact ⟨_, ys2, q2, rfl, ho2, hl2, by omega, hr2, grown_exR hg1 hx2⟩

/-- What a law's draw of one list leaves: a list of at most nine numbers; nothing that was there has turned. -/
def Drawn (w : World) (e : Ending) (w' : World) : Prop := ∃ u ys, e = .returned u ∧ Own w' w.heap.size u ys ∧ ys.length ≤ 9 ∧ Below w.heap.size w w'

theorem below_reader {w w1 w2 : World} (h : Below w.heap.size w w1) (hg : w1.grownBy w2 (some w.heap.size)) : Below w.heap.size w w2 :=
  h.grown hg h.size (fun k hk => by have := Option.some.inj hk; omega)

end Go.Proofs.Ytjphaphnmclbcaa

/- The model's words of a content, alone. Condition: at most seven letters. -/
namespace Go.Proofs.Ytjphaphnmclbcaa
open Go.RowKit

/-- The words that go on with one of the first k letters. -/
def wpre (t : Nat) (b : List Int) (c : List Nat) (k : Nat) : List (List Int) := (List.range k).flatMap fun k => if c.getD k 0 = 0 then [] else wgo t (b ++ [(k : Int)]) (c.set k (c.getD k 0 - 1))
theorem wpre_all (t : Nat) (b : List Int) (c : List Nat) : wpre t b c 4 = wgo (t + 1) b c := rfl
theorem wpre_no {t : Nat} {b : List Int} {c : List Nat} {k : Nat} (h : c.getD k 0 = 0) : wpre t b c (k + 1) = wpre t b c k := by
  rw [wpre, List.range_succ, List.flatMap_append, List.flatMap_cons, List.flatMap_nil, if_pos h, wpre]
  simp
theorem wpre_yes {t : Nat} {b : List Int} {c : List Nat} {k m : Nat} (h : c.getD k 0 = m + 1) : wpre t b c (k + 1) = wpre t b c k ++ wgo t (b ++ [(k : Int)]) (c.set k m) := by
  rw [wpre, List.range_succ, List.flatMap_append, List.flatMap_cons, List.flatMap_nil, if_neg (by omega), h, wpre]
  simp
def ofN (c : List Nat) : List Int := c.map Int.ofNat
theorem ofN_len (c : List Nat) : (ofN c).length = c.length := List.length_map ..
theorem el_ofN (l : List Nat) (k : Nat) : el (ofN l) k = (l.getD k 0 : Nat) := by
  unfold el ofN
  rw [List.getD_eq_getElem?_getD, List.getElem?_map, List.getD_eq_getElem?_getD]
  cases l[k]? <;> rfl
theorem ofN_set (c : List Nat) (k m : Nat) : ofN (c.set k m) = (ofN c).set k (m : Int) := by rw [ofN, List.map_set]; rfl
theorem getD_le_sum : ∀ (c : List Nat) (k : Nat), c.getD k 0 ≤ c.sum
  | [], k => by simp
  | x :: c, 0 => by simp
  | x :: c, k + 1 => by
    have := getD_le_sum c k
    simp only [List.getD_cons_succ, List.sum_cons]
    omega
theorem sum_set {c : List Nat} {k m t : Nat} (hk : k < c.length) (h : c.getD k 0 = m + 1) (hs : c.sum = t + 1) : (c.set k m).sum = t := by
  induction c generalizing k t with
  | nil => simp at hk
  | cons x c ih =>
    match k with
    | 0 =>
      simp only [List.getD_cons_zero, List.sum_cons, List.set_cons_zero] at *
      omega
    | k + 1 =>
      simp only [List.getD_cons_succ, List.sum_cons, List.set_cons_succ, List.length_cons] at *
      have h1 : c.getD k 0 ≤ c.sum := getD_le_sum c k
      have := ih (t := c.sum - 1) (by omega) h (by omega)
      omega
theorem sumL_ofN {c : List Nat} (h : c.length = 4) : sumL (ofN c) = (c.sum : Nat) := by
  match c, h with
  | [a, b, d, e], _ => simp [sumL, sumTo, ofN, el]; omega
theorem wgo_len' : ∀ (t : Nat) (b : List Int) (c : List Nat), (wgo t b c).length ≤ 4 ^ t
  | 0, _, _ => by simp [wgo]
  | t + 1, b, c => by
    simp only [wgo, List.range, List.range.loop, List.flatMap_cons, List.flatMap_nil, List.append_nil, List.length_append]
    have key : ∀ k : Nat, (if c.getD k 0 = 0 then ([] : List (List Int)) else wgo t (b ++ [(k : Int)]) (c.set k (c.getD k 0 - 1))).length ≤ 4 ^ t := by
      intro k
      split
      · simp
      · exact wgo_len' t _ _
    have h0 := key 0
    have h1 := key 1
    have h2 := key 2
    have h3 := key 3
    rw [Nat.pow_succ]
    omega
theorem wpre_len (t : Nat) (b : List Int) (c : List Nat) (k : Nat) (hk : k ≤ 4) : (wpre t b c k).length ≤ 4 ^ (t + 1) := by
  have key : ∀ k : Nat, (wpre t b c k).length ≤ k * 4 ^ t := by
    intro k
    induction k with
    | zero => simp [wpre]
    | succ k ih =>
      rw [wpre, List.range_succ, List.flatMap_append, List.length_append, List.flatMap_cons, List.flatMap_nil, List.append_nil, Nat.succ_mul]
      refine Nat.add_le_add ih ?_
      split
      · simp
      · exact wgo_len' t _ _
  refine Nat.le_trans (key k) ?_
  rw [Nat.pow_succ, Nat.mul_comm]
  exact Nat.mul_le_mul_left _ hk

theorem ownL_one {w : World} {B : Nat} {v : Value} {ys : List Int} (hv : Own w B v ys) (hB : B ≤ w.heap.size) : OwnL (w.alloc (.cells #[v] 23)) B (w.heap.size + 1) (.slice (some ⟨w.heap.size, 0, none⟩) 1 1) [ys] := by
  refine ⟨by omega, by simp, [v], World.ownsRow_lit w #[v] 1 hB (by decide) rfl, fun k hk => ?_, fun j t hj => ?_, fun i j t t' hij hi hj => ?_⟩
  · simp [Value.ownBlock] at hk
    subst hk
    exact ⟨by omega, fun e => by cases e⟩
  · match j, hj with
    | 0, hj =>
      simp at hj
      subst hj
      refine ⟨Own.below hv (Nat.le_refl _) ((Below.refl w.heap.size w).alloc (Nat.le_refl _) _), fun k hk => ⟨by have := (hv.blocks k hk).2; omega, fun e => by cases e⟩, ?_⟩
      unfold Apart
      cases e : v.ownBlock with
      | none => exact Or.inl rfl
      | some k =>
        refine Or.inr (fun e2 => ?_)
        have := (hv.blocks k e).2
        simp [Value.ownBlock] at e2
        omega
    | j + 1, hj => simp at hj
  · match i, j, hij, hj with
    | 0, j + 1, _, hj => simp at hj
    | i + 1, j + 1, _, hj => simp at hj

set_option maxRecDepth 20000 in
set_option maxHeartbeats 4000000 in
theorem words_any : ∀ (t : Nat) (b : List Int) (c : List Nat) (ah : Option Addr) (nh ch : Nat) (al : Option Addr) (cl : Nat) (w : World), Sl w ah nh ch b → (ah = none → ch = 0) → Sl w al 4 cl (ofN c) → c.length = 4 → c.sum = t → t ≤ 7 → nh + t ≤ 1000 →
    Calls Try.prog 82 #[.slice ah nh ch, .slice al 4 cl] w (MadeL w (wgo t b c)) := by
  intro t
  induction t with
  | zero =>
    intro b c ah nh ch al cl w h hnil hl hc hs _ hb
    have hsum := sumL_ofN hc
    rw [hs] at hsum
    have hbd : Hid (∀ j, j < (ofN c).length → 0 ≤ el (ofN c) j ∧ el (ofN c) j ≤ (1000 : Nat)) := hid fun j _ => by have := getD_le_sum c j; rw [el_ofN]; omega
    have Hsum := hid hsum
    have Hs := hid hs
    have Hc := hid hc
    clear hsum hs hc
    rw [wgo]
    go_enter Try.func82, Try.ntmps82
    go_wp2_with fail
    refine (says_to (sum_any al 4 cl (ofN c) w hl (by omega) hbd) Hsum.out).mono ?_
    rintro e w1 ⟨rfl, b1⟩
    have hlit := own_lit w1
    have h1 := (h.later b1).later ((Below.refl w1.heap.size w1).alloc (Nat.le_refl _) (.cells #[] 3))
    go_wp2_with (at_builtin; refine app_list _ rfl _ _ rfl w1.heap.size _ _ rfl hlit ah nh ch b rfl h1 hnil (by simp; omega) (by simp) ?_)
    intro u1 w2 ho1 hg1
    have hb2 := below_app ((Below.refl w1.heap.size w1).alloc (Nat.le_refl _) (.cells #[] 3)) hlit hg1
    have hsz := b1.size
    have hsz2 := hb2.size
    obtain ⟨a1, c1, rfl, hs1⟩ := ho1.sl
    clear hs1 hg1
    go_wp2
    go_ret
    have hb3 := b1.trans (hb2.mono hsz)
    exact ⟨_, rfl, (ownL_one (ho1.mono hsz) (Nat.le_trans hsz hsz2)).now, hb3.alloc (Nat.le_trans hsz hsz2) _⟩
  | succ t ih =>
    intro b c ah nh ch al cl w h hnil hl hc hs ht7 hb
    have hsum := sumL_ofN hc
    rw [hs] at hsum
    have hbd : Hid (∀ j, j < (ofN c).length → 0 ≤ el (ofN c) j ∧ el (ofN c) j ≤ (1000 : Nat)) := hid fun j _ => by have := getD_le_sum c j; rw [el_ofN]; omega
    have hz : ((((t + 1 : Nat) : Int)) == 0) = false := by simp; omega
    obtain ⟨T, hT⟩ : ∃ T, T = t + 1 := ⟨_, rfl⟩
    rw [← hT] at hsum hz
    have Hsum := hid hsum
    have Hs := hid hs
    have Hc := hid hc
    have HT := hid hT
    clear hsum hs hc hT
    rw [← wpre_all]
    go_enter Try.func82, Try.ntmps82
    go_wp2_with fail
    refine (says_to (sum_any al 4 cl (ofN c) w hl (by omega) hbd) Hsum.out).mono ?_
    rintro e w1 ⟨rfl, b1⟩
    have hsz := b1.size
    have hl1 := hl.later b1
    have hh1 := h.later b1
    go_wp2
    go_loopw [5, 6, 7] (fun p i z wr => ∃ (k n0 : Nat) (ao : Option Addr) (cp : Nat), k ≤ 4 ∧ p = .slice ao n0 cp ∧ i = .int .i64 k ∧ Below w1.heap.size w1 wr ∧ OwnL wr w1.heap.size wr.heap.size (.slice ao n0 cp) (wpre t b c k))
      (fun _ i _ _ => 4 - (intOf i).toNat)
    case atStart => exact ⟨0, _, _, _, Nat.zero_le _, rfl, rfl, (Below.refl _ _).alloc (Nat.le_refl _) _, (ownL_lit (Nat.le_refl _)).now⟩
    case round =>
      obtain ⟨k, n0, ao, cp, hk, rfl, rfl, hbr, ho⟩ := hrel
      by_cases hlt : k < 4
      · have hki : (k : Int) < 4 := by omega
        have hlr := hl1.later hbr
        obtain ⟨bl, off, rfl, hblt, hcr⟩ := hlr.row (by omega)
        have hcell := hcr k hlt
        rw [el_ofN] at hcell
        clear hcr
        obtain ⟨m, hm⟩ : ∃ m, m = c.getD k 0 := ⟨_, rfl⟩
        rw [← hm] at hcell
        have Hm := hid hm
        clear hm
        rcases Nat.eq_zero_or_pos m with h0 | h0
        · subst h0
          go_wp2
          go_roundw
          case rel => exact ⟨k + 1, _, _, _, by omega, rfl, by go_num, hbr, by rw [wpre_no Hm.out.symm]; exact ho⟩
          case measure => simp [intOf]; omega
        · have hm0 : (0 : Int) < m := by omega
          have hmw : wrap64 ((m : Int) - 1) = ((m - 1 : Nat) : Int) := by
            have := getD_le_sum c k
            rw [← Hm.out, Hs.out] at this
            exact IntWalk.wrap64_in _ ⟨by omega, by omega⟩ |>.trans (by omega)
          have hlit := own_lit wr
          have h1 := hlr.later ((Below.refl wr.heap.size wr).alloc (Nat.le_refl _) (.cells #[] 3))
          go_wp2_with (at_builtin; refine app_list _ rfl _ _ rfl wr.heap.size _ _ rfl hlit (some ⟨bl, off, none⟩) 4 cl (ofN c) rfl h1 (fun e => by cases e) (by simp) (by simp) ?_)
          intro u1 w2 ho1 hg1
          have hb2 := below_app ((Below.refl wr.heap.size wr).alloc (Nat.le_refl _) (.cells #[] 3)) hlit hg1
          have hlen4 : (ofN c).length = 4 := by rw [ofN_len, Hc.out]
          rcases ho1.place with ⟨e1, e2⟩ | ⟨g, cap, rfl, hs3⟩
          · rw [e2] at hlen4
            simp at hlen4
          rw [hlen4] at hs3 ⊢
          have hfr := hs3.frozen k
          have hcur := hs3.cell hlt
          rw [el_ofN, ← Hm.out] at hcur
          have hlt3 := hs3.lt
          have Hlen4 := hid hlen4
          clear hlen4 hg1 ho1
          have hws := hs3.set k ((m - 1 : Nat) : Int)
          rw [← ofN_set] at hws
          have hb3 : Below wr.heap.size wr (w2.setCell ⟨g, k, none⟩ (.int .i64 ((m - 1 : Nat) : Int))) := hb2.setCell (show wr.heap.size ≤ g by omega) _
          have hsz3 : (w2.setCell ⟨g, k, none⟩ (.int .i64 ((m - 1 : Nat) : Int))).heap.size = w2.heap.size := by simp [World.setCell]
          have hlit3 := own_lit (w2.setCell ⟨g, k, none⟩ (.int .i64 ((m - 1 : Nat) : Int)))
          rw [hsz3] at hlit3
          have hsz2 := hb2.size
          have hh3 := ((hh1.later hbr).later hb3).later ((Below.refl (w2.setCell ⟨g, k, none⟩ (.int .i64 ((m - 1 : Nat) : Int))).heap.size _).alloc (Nat.le_refl _) (.cells #[] 3))
          go_wp2_with (at_builtin; refine app_list _ rfl (.tmp 39) (.tmp 40) rfl w2.heap.size _ _ rfl hlit3 ah nh ch b rfl hh3 hnil (by simp; omega) (by rw [World.size_alloc, hsz3]; exact Nat.le_succ _) ?_)
          intro u4 w4 ho4 hg4
          have hb4 : Below wr.heap.size wr w4 := ((hb3.alloc (by rw [hsz3]; exact hsz2) _)).grown hg4 (by rw [World.size_alloc, hsz3]; omega) (fun q hq => by have := (hlit3.blocks q hq).1; omega)
          have hws4 := (OwS.sl hws).later (((Below.refl _ _).alloc (Nat.le_refl _) (.cells #[] 3)).grown hg4 (by rw [World.size_alloc]; exact Nat.le_succ _) (fun q hq => by rw [hsz3]; have := (hlit3.blocks q hq).1; omega))
          have hsz4 := hb4.size
          have hbl : b.length = nh := hh1.len
          have hbl2 : b.length ≤ 2000000 := by omega
          have h24 : w2.heap.size ≤ w4.heap.size := by have := hg4.size; rw [World.size_alloc, hsz3] at this; omega
          go_wp2_with (at_builtin; refine app_int _ _ rfl _ _ rfl w2.heap.size _ _ rfl ho4 rfl hbl2 h24 ?_)
          intro u5 w5 ho5 hg5
          have hb5 : Below wr.heap.size wr w5 := hb4.grown hg5 hsz4 (fun q hq => by have := (ho4.blocks q hq).1; omega)
          have hws5 := hws4.grown hg5 (fun e => by have := (ho4.blocks g e).1; omega)
          rcases ho5.place with ⟨e1, e2⟩ | ⟨g5, c5, rfl, hs5⟩
          · simp at e2
          have hs5 := hs5.sl
          rw [List.length_append, List.length_singleton, hbl] at hs5 ⊢
          have hkc : k < c.length := by rw [Hc.out]; exact hlt
          have hgm : c.getD k 0 = (m - 1) + 1 := by rw [← Hm.out]; omega
          go_wp2_with fail
          refine (ih (b ++ [(k : Int)]) (c.set k (m - 1)) _ (nh + 1) c5 _ cap w5 hs5 (fun e => by cases e) hws5 (by rw [List.length_set, Hc.out]) (sum_set hkc hgm Hs.out) (by omega) (by omega)).mono ?_
          rintro e w6 ⟨uz, rfl, hz6, hb6⟩
          have hb56 := hb5.trans (hb6.mono hb5.size)
          have ho6 := ho.later hb56
          have hl6 : (wpre t b c k).length + (wgo t (b ++ [(k : Int)]) (c.set k (m - 1))).length ≤ 2000000 := by
            have h1 := wpre_len t b c k hk
            have h2 := wgo_len' t (b ++ [(k : Int)]) (c.set k (m - 1))
            have h3 : 4 ^ (t + 1) ≤ 4 ^ 8 := Nat.pow_le_pow_right (by omega) (by omega)
            have h4 : 4 ^ t ≤ 4 ^ 8 := Nat.pow_le_pow_right (by omega) (by omega)
            omega
          obtain ⟨az, cz, rfl, -⟩ := hz6.sl
          go_wp2_with (at_builtin; refine app_lsts w6 rfl _ _ rfl w1.heap.size wr.heap.size w5.heap.size w6.heap.size _ _ _ _ ho6 hb5.size hz6 rfl rfl hl6 ?_)
          intro u7 w7 ho7 hb7
          rw [← wpre_yes hgm] at ho7
          obtain ⟨a7, c7, rfl, -⟩ := ho7.sl
          have hbr7 := (hbr.trans (hb56.mono hbr.size)).trans hb7
          go_wp2
          go_roundw
          case rel => exact ⟨k + 1, _, _, _, by omega, rfl, by go_num, hbr7, ho7⟩
          case measure => simp [intOf]; omega
      · obtain rfl : k = 4 := by omega
        go_wp2
        go_ret
        exact ⟨_, rfl, ho.mono hsz, b1.trans (hbr.mono hsz)⟩

end Go.Proofs.Ytjphaphnmclbcaa

/- Mixed orders as plain lists: the program's, one for each word of two letters. No condition. -/
namespace Go.Proofs.Ytjphaphnmclbcaa

theorem mem_wgo_len : ∀ (t : Nat) (b : List Int) (c : List Nat) (x : List Int), x ∈ wgo t b c → x.length = b.length + t ∧ ((∀ y ∈ b, 0 ≤ y ∧ y ≤ 3) → ∀ y ∈ x, 0 ≤ y ∧ y ≤ 3)
  | 0, b, c, x, h => by
    rw [wgo, List.mem_singleton] at h
    subst h
    exact ⟨rfl, id⟩
  | t + 1, b, c, x, h => by
    rw [wgo, List.mem_flatMap] at h
    obtain ⟨k, hk, hx⟩ := h
    have hk4 : k < 4 := List.mem_range.1 hk
    split at hx
    · simp at hx
    · have := mem_wgo_len t _ _ _ hx
      refine ⟨by rw [this.1, List.length_append, List.length_singleton]; omega, fun hb => this.2 fun y hy => ?_⟩
      rcases List.mem_append.1 hy with h1 | h1
      · exact hb y h1
      · rw [List.mem_singleton.1 h1]; omega
theorem vw_of_mem {x : List Int} (h7 : x.length ≤ 7) (h : ∀ y ∈ x, 0 ≤ y ∧ y ≤ 3) : VW x := ⟨h7, fun j hj => by rw [el_lt hj]; exact (h _ (List.getElem_mem hj)).1, fun j hj => by rw [el_lt hj]; exact (h _ (List.getElem_mem hj)).2⟩
/-- The words of so many noughts and ones. -/
def mxW (a b : Nat) : List (List Int) := wgo (a + b) [] [a, b, 0, 0]
theorem mxW_vw {a b : Nat} (h7 : a + b ≤ 7) {x : List Int} (hx : x ∈ mxW a b) : VW x ∧ x.length = a + b := by
  have h := mem_wgo_len _ _ _ _ hx
  have hl : x.length = a + b := by rw [h.1]; simp
  exact ⟨vw_of_mem (by omega) (h.2 (by simp)), hl⟩
/-- The order that a word makes out of two. -/
def mxF (p q : List Int) (x : List Int) : List Int := comp (join p 0 q p.length) (rkA x)
/-- The program's mixed orders. -/
def mxL (p q : List Int) : List (List Int) := if Two p q ∧ p.length + q.length ≤ 5 then (mxW p.length q.length).map (mxF p q) else []
theorem jn_len (xs ys : List Int) (a b : Int) : (join xs a ys b).length = xs.length + ys.length := by rw [join, List.length_append, up_len, up_len]
theorem jn_up {xs : List Int} {a : Int} {j : Nat} (h : j < xs.length) : el (up xs a) j = el xs j + a := el_map h
theorem jn_lt {xs ys : List Int} {a b : Int} {j : Nat} (h : j < xs.length) : el (join xs a ys b) j = el xs j + a := by
  rw [← jn_up h, join, el_lt (by rw [List.length_append, up_len, up_len]; omega), el_lt (by rw [up_len]; exact h), List.getElem_append_left (by rw [up_len]; exact h)]
theorem jn_ge {xs ys : List Int} {a b : Int} {k : Nat} (h : k < ys.length) : el (join xs a ys b) (xs.length + k) = el ys k + b := by
  rw [← jn_up h, join, el_lt (by rw [List.length_append, up_len, up_len]; omega), el_lt (by rw [up_len]; exact h), List.getElem_append_right (by rw [up_len]; omega)]
  congr 1
  rw [up_len]; omega
theorem sum_valid {xs ys : List Int} (h : Two xs ys) : Valid (join xs 0 ys xs.length) := by
  obtain ⟨hx, hy, hl⟩ := h
  have key : ∀ j, j < xs.length + ys.length → (j < xs.length ∧ el (join xs 0 ys xs.length) j = el xs j) ∨ (∃ k, j = xs.length + k ∧ k < ys.length ∧ el (join xs 0 ys xs.length) j = el ys k + xs.length) := by
    intro j hj
    by_cases c : j < xs.length
    · exact Or.inl ⟨c, by rw [jn_lt c]; omega⟩
    · refine Or.inr ⟨j - xs.length, by omega, by omega, ?_⟩
      have e := jn_ge (xs := xs) (ys := ys) (a := 0) (b := xs.length) (k := j - xs.length) (by omega)
      rw [show xs.length + (j - xs.length) = j by omega] at e
      exact e
  refine ⟨by rw [jn_len]; exact hl, fun j hj => ?_, fun j hj => ?_, fun i j hij hj => ?_⟩
  · rw [jn_len] at hj
    rcases key j hj with ⟨c, e⟩ | ⟨k, -, c, e⟩
    · have := hx.lo j c; omega
    · have := hy.lo k c; omega
  · rw [jn_len] at hj ⊢
    rcases key j hj with ⟨c, e⟩ | ⟨k, -, c, e⟩
    · have := hx.hi j c; omega
    · have := hy.hi k c; omega
  · rw [jn_len] at hj
    rcases key i (by omega) with ⟨c, e⟩ | ⟨k, hk, c, e⟩ <;> rcases key j hj with ⟨c', e'⟩ | ⟨k', hk', c', e'⟩
    · have := hx.ne i j hij c'; omega
    · have := hx.hi i c; have := hy.lo k' c'; omega
    · omega
    · have := hy.ne k k' (by omega) c'; omega

theorem wgo_len2 : ∀ (t : Nat) (b : List Int) (c : List Nat), (wgo t b c).length ≤ 4 ^ t
  | 0, _, _ => by simp [wgo]
  | t + 1, b, c => by
    simp only [wgo, List.range, List.range.loop, List.flatMap_cons, List.flatMap_nil, List.append_nil, List.length_append]
    have key : ∀ k : Nat, (if c.getD k 0 = 0 then ([] : List (List Int)) else wgo t (b ++ [(k : Int)]) (c.set k (c.getD k 0 - 1))).length ≤ 4 ^ t := by
      intro k
      split
      · simp
      · exact wgo_len2 t _ _
    have h0 := key 0
    have h1 := key 1
    have h2 := key 2
    have h3 := key 3
    rw [Nat.pow_succ]
    omega
theorem mxW_len (a b : Nat) (h : a + b ≤ 5) : (mxW a b).length ≤ 1024 := Nat.le_trans (wgo_len2 _ _ _) (Nat.le_trans (Nat.pow_le_pow_right (by omega) h) (by decide))

/-- A list behind its first number. -/
def tlL (xs : List Int) : List Int := xs.drop 1
/-- All ways to put two lists together behind a beginning; t numbers in all. -/
def mgo : Nat → List Int → List Int → List Int → List (List Int)
  | 0, b, _, _ => [b]
  | t + 1, b, p, q => (if p.length = 0 then [] else mgo t (b ++ [el p 0]) (tlL p) q) ++ (if q.length = 0 then [] else mgo t (b ++ [el q 0]) p (tlL q))
theorem mgo_len : ∀ (t : Nat) (b p q : List Int), (mgo t b p q).length ≤ 2 ^ t
  | 0, _, _, _ => by simp [mgo]
  | t + 1, b, p, q => by
    rw [mgo, List.length_append, Nat.pow_succ]
    have h1 := mgo_len t (b ++ [el p 0]) (tlL p) q
    have h2 := mgo_len t (b ++ [el q 0]) p (tlL q)
    have h0 : ([] : List (List Int)).length = 0 := rfl
    split <;> split <;> omega

end Go.Proofs.Ytjphaphnmclbcaa

/- The model's mixed lists, alone. Condition: at most seven numbers. -/
namespace Go.Proofs.Ytjphaphnmclbcaa
open Go.RowKit

/-- What is left of a list behind its first number. -/
def tl1 (ao : Option Addr) (cap : Nat) : Option Addr := if cap = 1 then ao else Option.map (fun x => x.add 1) ao
theorem Sl.tl1 {w : World} {ao : Option Addr} {n cap : Nat} {xs : List Int} (h : Sl w ao n cap xs) (hn : 0 < n) : Sl w (tl1 ao cap) (n - 1) (cap - 1) (tlL xs) := h.dropIf hn
theorem tl1_some (b off cap : Nat) : (if cap = 1 then some (⟨b, off, none⟩ : Addr) else some ⟨b, off + 1, none⟩) = tl1 (some ⟨b, off, none⟩) cap := by
  unfold Go.Proofs.Ytjphaphnmclbcaa.tl1
  rw [Option.map_some, Addr.add_lit]
theorem tl1_none {b off cap : Nat} (h : tl1 (some ⟨b, off, none⟩) cap = none) : cap - 1 = 0 := by
  unfold Go.Proofs.Ytjphaphnmclbcaa.tl1 at h
  split at h <;> simp at h

set_option maxRecDepth 20000 in
set_option maxHeartbeats 4000000 in
theorem mixed_any : ∀ (t : Nat) (hd p q : List Int) (ah : Option Addr) (nh ch : Nat) (ap : Option Addr) (np cp : Nat) (aq : Option Addr) (nq cq : Nat) (w : World), Sl w ah nh ch hd → (ah = none → ch = 0) → Sl w ap np cp p → (ap = none → cp = 0) → Sl w aq nq cq q → (aq = none → cq = 0) → np + nq = t → t ≤ 7 → nh + t ≤ 1000 →
    Calls Try.prog 65 #[.slice ah nh ch, .slice ap np cp, .slice aq nq cq] w (MadeL w (mgo t hd p q)) := by
  intro t
  induction t with
  | zero =>
    intro hd p q ah nh ch ap np cp aq nq cq w h hnil hp hpn hq hqn ht _ hb
    obtain rfl : np = 0 := by omega
    obtain rfl : nq = 0 := by omega
    rw [mgo]
    have hlit := own_lit w
    have h1 := h.later ((Below.refl w.heap.size w).alloc (Nat.le_refl _) (.cells #[] 3))
    go_enter Try.func65, Try.ntmps65
    go_wp2_with (at_builtin; refine app_list _ rfl _ _ rfl w.heap.size _ _ rfl hlit ah nh ch hd rfl h1 hnil (by simp; omega) (by simp) ?_)
    intro u1 w2 ho1 hg1
    have hb2 := below_app ((Below.refl w.heap.size w).alloc (Nat.le_refl _) (.cells #[] 3)) hlit hg1
    have hsz2 := hb2.size
    obtain ⟨a1, c1, rfl, hs1⟩ := ho1.sl
    clear hs1 hg1
    go_wp2
    go_ret
    exact ⟨_, rfl, (ownL_one ho1 hsz2).now, hb2.alloc hsz2 _⟩
  | succ t ih =>
    intro hd p q ah nh ch ap np cp aq nq cq w h hnil hp hpn hq hqn ht ht7 hb
    have Ht := hid ht
    rw [mgo, hp.len, hq.len]
    have hhl : hd.length = nh := h.len
    have hhl2 : hd.length ≤ 2000000 := by omega
    by_cases hp0 : np = 0
    · have hq1 : (0 : Int) < nq := by omega
      have hq2 : (1 : Int) ≤ nq := by omega
      have hqe : ((nq : Int) == 0) = false := by simp; omega
      rw [if_pos hp0, if_neg (by omega), List.nil_append]
      subst hp0
      obtain ⟨Z, hZ⟩ : ∃ Z, Z = mgo t (hd ++ [el q 0]) p (tlL q) := ⟨_, rfl⟩
      rw [← hZ]
      have hZ1 := hid hZ
      clear hZ
      go_enter Try.func65, Try.ntmps65
      go_wp2_with fail
      obtain ⟨wr, hwr⟩ : ∃ wr, wr = w.alloc (.cells #[] 23) := ⟨_, rfl⟩
      obtain ⟨yss, hyss⟩ : ∃ yss : List (List Int), yss = [] := ⟨_, rfl⟩
      have ho : OwnL wr w.heap.size wr.heap.size (.slice (some ⟨w.heap.size, 0, none⟩) 0 0) yss := by rw [hwr, hyss]; exact (ownL_lit (Nat.le_refl _)).now
      have hbr : Below w.heap.size w wr := by rw [hwr]; exact (Below.refl _ _).alloc (Nat.le_refl _) _
      have hyl : yss.length = 0 := by rw [hyss]; rfl
      rw [← hwr]
      clear hwr
      have hh := h.later hbr
      have hpr := hp.later hbr
      have hqr := hq.later hbr
      obtain ⟨bq, oq, rfl, hblt, hc⟩ := hqr.row (by omega)
      have hcell := hc 0 (by omega)
      have hpt := hqr.tl1 (by omega)
      rw [Nat.add_zero] at hcell
      have hcap1 : (1 : Int) ≤ cq := by have := hqr.le; omega
      clear hc
      have hlit2 : Own (((wr.alloc (.cells #[.int .i64 (el q 0)] 3)).alloc (.cells #[] 3)).drew) wr.heap.size (.slice (some ⟨wr.heap.size + 1, 0, none⟩) 0 0) [] := by
        have := own_lit_at (w := wr.alloc (.cells #[.int .i64 (el q 0)] 3)) (B := wr.heap.size) (by simp)
        rw [World.size_alloc] at this
        exact this.drew
      go_region_law (first
        | (refine step_appL rfl (.tmp 41) (.tmp 53) rfl w.heap.size wr.heap.size w2.heap.size w3.heap.size _ _ yss _ (ho.later (hb2.trans (hb3.mono hb2.size))) hb2.size hz rfl rfl (by have := mgo_len t (hd ++ [el q 0]) p (tlL q); have h3 : 2 ^ t ≤ 2 ^ 7 := Nat.pow_le_pow_right (by omega) (by omega); omega) ?_
           intro u4 w4 ho4 hb4)
        | (go_simp
           refine (ih (hd ++ [el q 0]) p (tlL q) _ (nh + 1) c2 _ 0 cp _ (nq - 1) (cq - 1) w2 hs2 (fun e => by cases e) (hpr.later hb2) hpn ((tl1_some bq oq cq) ▸ (hpt.later hb2)) (fun e => tl1_none ((tl1_some bq oq cq) ▸ e)) (by omega) (by omega) (by omega)).mono ?_
           rintro e w3 ⟨uz, rfl, hz, hb3⟩
           obtain ⟨az, cz, rfl, -⟩ := hz.sl)
        | (refine step_app rfl (.tmp 44) (.tmp 48) rfl wr u1 hd rfl (by first | exact ho1 | exact ho1.alloc _) _ 1 1 [el q 0] rfl (by first | exact Sl.new w1 (el q 0) | exact hx1) (by simp) (by omega) (by first | exact hb1 | exact hb1.alloc hb1.size _) ?_
           intro u2 w2 ho2 hg2 hb2
           rcases ho2.place with ⟨e1, e2⟩ | ⟨g2, c2, rfl, hs2⟩
           · simp at e2
           replace hs2 := hs2.sl
           rw [List.length_append, List.length_singleton, hhl] at hs2 ⊢)
        | (refine step_app rfl (.tmp 42) (.tmp 43) rfl wr (.slice (some ⟨wr.heap.size + 1, 0, none⟩) 0 0) [] rfl hlit2 ah nh ch hd rfl ((((hh).drew).alloc _).alloc _) hnil (by simp; omega) (by go_grown) ?_
           intro u1 w1 ho1 hg1 hb1
           have hcell1 := (hb1.cell (p := ⟨bq, oq, none⟩) hblt).trans hcell
           have hx1 := (((Sl.new wr (el q 0)).alloc (.cells #[] 3)).drew).grown hg1 (fun e => absurd (Option.some.inj e) (by simp)))
        | (refine step_app rfl (.tmp 42) (.tmp 43) rfl wr (.slice (some ⟨wr.heap.size, 0, none⟩) 0 0) [] rfl (by first | exact own_lit_at (Nat.le_refl _) | exact (own_lit_at (Nat.le_refl _)).drew | exact (own_lit_at (Nat.le_refl _)).alloc _ | exact ((own_lit_at (Nat.le_refl _)).alloc _).drew) ah nh ch hd rfl (by first | exact (hh.drew).alloc _ | exact ((hh.alloc _).drew) | exact ((hh.drew).alloc _).alloc _ | exact ((hh.alloc _).alloc _).drew) hnil (by simp; omega) (by go_grown) ?_
           intro u1 w1 ho1 hg1 hb1
           have hcell1 := (hb1.cell (p := ⟨bq, oq, none⟩) hblt).trans hcell
           first
             | (have hx1 := ((Sl.new (wr.alloc (.cells #[] 3)) (el q 0)).drew).grown hg1 (fun e => absurd (Option.some.inj e) (by simp)); simp only [World.size_alloc] at hx1)
             | skip))
      all_goals (
        rw [← hZ1.out, hyss, List.nil_append] at ho4
        obtain ⟨a9, c9, rfl, -⟩ := ho4.sl
        have hb9 := (hbr.trans ((hb2.trans (hb3.mono hb2.size)).mono hbr.size)).trans hb4
        go_wp2
        all_goals go_ret
        all_goals exact ⟨_, rfl, ho4, hb9⟩)
    · have hp1 : (0 : Int) < np := by omega
      have hp2 : (1 : Int) ≤ np := by omega
      have hpe : ((np : Int) == 0) = false := by simp; omega
      rw [if_neg hp0]
      clear hp0
      obtain ⟨Z, hZ⟩ : ∃ Z, Z = (if nq = 0 then [] else mgo t (hd ++ [el q 0]) p (tlL q)) := ⟨_, rfl⟩
      rw [← hZ]
      have HZ := hid hZ
      clear hZ
      go_enter Try.func65, Try.ntmps65
      go_wp2_with fail
      obtain ⟨wr, hwr⟩ : ∃ wr, wr = w.alloc (.cells #[] 23) := ⟨_, rfl⟩
      obtain ⟨yss, hyss⟩ : ∃ yss : List (List Int), yss = [] := ⟨_, rfl⟩
      have ho : OwnL wr w.heap.size wr.heap.size (.slice (some ⟨w.heap.size, 0, none⟩) 0 0) yss := by rw [hwr, hyss]; exact (ownL_lit (Nat.le_refl _)).now
      have hbr : Below w.heap.size w wr := by rw [hwr]; exact (Below.refl _ _).alloc (Nat.le_refl _) _
      have hyl : yss.length = 0 := by rw [hyss]; rfl
      rw [← hwr]
      clear hwr
      have hh := h.later hbr
      have hpr := hp.later hbr
      have hqr := hq.later hbr
      obtain ⟨b, off, rfl, hblt, hc⟩ := hpr.row (by omega)
      have hcell := hc 0 (by omega)
      have hpt := hpr.tl1 (by omega)
      rw [Nat.add_zero] at hcell
      have hcap1 : (1 : Int) ≤ cp := by have := hpr.le; omega
      clear hc
      rename Act → World → Prop => K1
      rename ∀ (a : Act) (w1 : World), _ → K1 a w1 => hK1
      have key : ∀ (x3 x4 x5 x6 x8 x9 x10 x11 x12 x13 x14 x15 x16 x17 x18 x19 x20 x21 x22 x23 x24 x25 x26 x27 x28 x29 x30 x31 x32 x33 x34 x35 x36 x37 x38 x39 x40 x41 x42 x43 x44 x45 x46 x47 x48 x49 x50 x51 x52 x53 x54 x55 : Value) (a7 : Option Addr) (n7 c7 : Nat) (w4 : World), OwnL w4 w.heap.size w4.heap.size (.slice a7 n7 c7) (mgo t (hd ++ [el p 0]) (tlL p) q) → Below w.heap.size w w4 → K1 { tmps := #[.slice ah nh ch, .slice (some ⟨b, off, none⟩) np cp, .slice aq nq cq, x3, x4, x5, x6, .slice a7 n7 c7, x8, x9, x10, x11, x12, x13, x14, x15, x16, x17, x18, x19, x20, x21, x22, x23, x24, x25, x26, x27, x28, x29, x30, x31, x32, x33, x34, x35, x36, x37, x38, x39, x40, x41, x42, x43, x44, x45, x46, x47, x48, x49, x50, x51, x52, x53, x54, x55], defers := [] } w4 := by
        intro x3 x4 x5 x6 x8 x9 x10 x11 x12 x13 x14 x15 x16 x17 x18 x19 x20 x21 x22 x23 x24 x25 x26 x27 x28 x29 x30 x31 x32 x33 x34 x35 x36 x37 x38 x39 x40 x41 x42 x43 x44 x45 x46 x47 x48 x49 x50 x51 x52 x53 x54 x55 a7 n7 c7 w4 ho4 hb4
        apply hK1
        clear hK1 ho hbr hh hpr hqr hblt hcell hpt hcap1 yss hyss hyl wr
        by_cases hq0 : nq = 0
        · have hZ0 : Z = [] := by rw [HZ.out, if_pos hq0]
          subst hq0
          subst hZ0
          go_wp2
          go_ret
          exact ⟨_, rfl, ho4, hb4⟩
        · have hq1 : (0 : Int) < nq := by omega
          have hq2 : (1 : Int) ≤ nq := by omega
          have hZ1 : Hid (Z = mgo t (hd ++ [el q 0]) p (tlL q)) := by rw [HZ.out, if_neg hq0]; exact hid rfl
          clear hq0
          obtain ⟨yss, hyss⟩ : ∃ yss, yss = mgo t (hd ++ [el p 0]) (tlL p) q := ⟨_, rfl⟩
          have hyl : yss.length ≤ 128 := by rw [hyss]; exact Nat.le_trans (mgo_len _ _ _ _) (Nat.le_trans (Nat.pow_le_pow_right (by omega) (show t ≤ 7 by omega)) (by decide))
          rw [← hyss] at ho4 ⊢
          clear hyss
          obtain ⟨wr, hwr⟩ : ∃ wr, wr = w4 := ⟨_, rfl⟩
          rw [← hwr] at ho4 hb4 ⊢
          clear hwr
          have ho := ho4
          have hbr := hb4
          have hh := h.later hbr
          have hpr := hp.later hbr
          have hqr := hq.later hbr
          clear ho4 hb4
          obtain ⟨bq, oq, rfl, hblt, hc⟩ := hqr.row (by omega)
          have hcell := hc 0 (by omega)
          have hpt := hqr.tl1 (by omega)
          rw [Nat.add_zero] at hcell
          have hcap1 : (1 : Int) ≤ cq := by have := hqr.le; omega
          clear hc
          go_wp2_with fail
          have hlit2 : Own (((wr.alloc (.cells #[.int .i64 (el q 0)] 3)).alloc (.cells #[] 3)).drew) wr.heap.size (.slice (some ⟨wr.heap.size + 1, 0, none⟩) 0 0) [] := by
            have := own_lit_at (w := wr.alloc (.cells #[.int .i64 (el q 0)] 3)) (B := wr.heap.size) (by simp)
            rw [World.size_alloc] at this
            exact this.drew
          go_region_law (first
            | (refine step_appL rfl (.tmp 41) (.tmp 53) rfl w.heap.size wr.heap.size w2.heap.size w3.heap.size _ _ yss _ (ho.later (hb2.trans (hb3.mono hb2.size))) hb2.size hz rfl rfl (by have := mgo_len t (hd ++ [el q 0]) p (tlL q); have h3 : 2 ^ t ≤ 2 ^ 7 := Nat.pow_le_pow_right (by omega) (by omega); omega) ?_
               intro u4 w4 ho4 hb4)
            | (go_simp
               refine (ih (hd ++ [el q 0]) p (tlL q) _ (nh + 1) c2 _ np cp _ (nq - 1) (cq - 1) w2 hs2 (fun e => by cases e) (hpr.later hb2) hpn ((tl1_some bq oq cq) ▸ (hpt.later hb2)) (fun e => tl1_none ((tl1_some bq oq cq) ▸ e)) (by omega) (by omega) (by omega)).mono ?_
               rintro e w3 ⟨uz, rfl, hz, hb3⟩
               obtain ⟨az, cz, rfl, -⟩ := hz.sl)
            | (refine step_app rfl (.tmp 44) (.tmp 48) rfl wr u1 hd rfl (by first | exact ho1 | exact ho1.alloc _) _ 1 1 [el q 0] rfl (by first | exact Sl.new w1 (el q 0) | exact hx1) (by simp) (by omega) (by first | exact hb1 | exact hb1.alloc hb1.size _) ?_
               intro u2 w2 ho2 hg2 hb2
               rcases ho2.place with ⟨e1, e2⟩ | ⟨g2, c2, rfl, hs2⟩
               · simp at e2
               replace hs2 := hs2.sl
               rw [List.length_append, List.length_singleton, hhl] at hs2 ⊢)
            | (refine step_app rfl (.tmp 42) (.tmp 43) rfl wr (.slice (some ⟨wr.heap.size + 1, 0, none⟩) 0 0) [] rfl hlit2 ah nh ch hd rfl ((((hh).drew).alloc _).alloc _) hnil (by simp; omega) (by go_grown) ?_
               intro u1 w1 ho1 hg1 hb1
               have hcell1 := (hb1.cell (p := ⟨bq, oq, none⟩) hblt).trans hcell
               have hx1 := (((Sl.new wr (el q 0)).alloc (.cells #[] 3)).drew).grown hg1 (fun e => absurd (Option.some.inj e) (by simp)))
            | (refine step_app rfl (.tmp 42) (.tmp 43) rfl wr (.slice (some ⟨wr.heap.size, 0, none⟩) 0 0) [] rfl (by first | exact own_lit_at (Nat.le_refl _) | exact (own_lit_at (Nat.le_refl _)).drew | exact (own_lit_at (Nat.le_refl _)).alloc _ | exact ((own_lit_at (Nat.le_refl _)).alloc _).drew) ah nh ch hd rfl (by first | exact (hh.drew).alloc _ | exact ((hh.alloc _).drew) | exact ((hh.drew).alloc _).alloc _ | exact ((hh.alloc _).alloc _).drew) hnil (by simp; omega) (by go_grown) ?_
               intro u1 w1 ho1 hg1 hb1
               have hcell1 := (hb1.cell (p := ⟨bq, oq, none⟩) hblt).trans hcell
               first
                 | (have hx1 := ((Sl.new (wr.alloc (.cells #[] 3)) (el q 0)).drew).grown hg1 (fun e => absurd (Option.some.inj e) (by simp)); simp only [World.size_alloc] at hx1)
                 | skip))
          all_goals (
            rw [← hZ1.out] at ho4
            obtain ⟨LL, hLL⟩ : ∃ LL, LL = yss ++ Z := ⟨_, rfl⟩
            rw [← hLL] at ho4
            obtain ⟨a9, c9, rfl, -⟩ := ho4.sl
            have HLL := hid hLL
            clear hLL
            have hb9 := (hbr.trans ((hb2.trans (hb3.mono hb2.size)).mono hbr.size)).trans hb4
            go_wp2
            all_goals go_ret
            all_goals refine ⟨_, rfl, ?_, hb9⟩
            all_goals rw [← HLL.out]
            all_goals exact ho4)
      have hlit2 : Own (((wr.alloc (.cells #[.int .i64 (el p 0)] 3)).alloc (.cells #[] 3)).drew) wr.heap.size (.slice (some ⟨wr.heap.size + 1, 0, none⟩) 0 0) [] := by
        have := own_lit_at (w := wr.alloc (.cells #[.int .i64 (el p 0)] 3)) (B := wr.heap.size) (by simp)
        rw [World.size_alloc] at this
        exact this.drew
      go_region_law (first
        | (refine step_appL rfl (.tmp 24) (.tmp 36) rfl w.heap.size wr.heap.size w2.heap.size w3.heap.size _ _ yss _ (ho.later (hb2.trans (hb3.mono hb2.size))) hb2.size hz rfl rfl (by have := mgo_len t (hd ++ [el p 0]) (tlL p) q; have h3 : 2 ^ t ≤ 2 ^ 7 := Nat.pow_le_pow_right (by omega) (by omega); omega) ?_
           intro u4 w4 ho4 hb4)
        | (go_simp
           refine (ih (hd ++ [el p 0]) (tlL p) q _ (nh + 1) c2 _ (np - 1) (cp - 1) aq nq cq w2 hs2 (fun e => by cases e) ((tl1_some b off cp) ▸ (hpt.later hb2)) (fun e => tl1_none ((tl1_some b off cp) ▸ e)) (hqr.later hb2) hqn (by omega) (by omega) (by omega)).mono ?_
           rintro e w3 ⟨uz, rfl, hz, hb3⟩
           obtain ⟨az, cz, rfl, -⟩ := hz.sl)
        | (refine step_app rfl (.tmp 27) (.tmp 31) rfl wr u1 hd rfl (by first | exact ho1 | exact ho1.alloc _) _ 1 1 [el p 0] rfl (by first | exact Sl.new w1 (el p 0) | exact hx1) (by simp) (by omega) (by first | exact hb1 | exact hb1.alloc hb1.size _) ?_
           intro u2 w2 ho2 hg2 hb2
           rcases ho2.place with ⟨e1, e2⟩ | ⟨g2, c2, rfl, hs2⟩
           · simp at e2
           replace hs2 := hs2.sl
           rw [List.length_append, List.length_singleton, hhl] at hs2 ⊢)
        | (refine step_app rfl (.tmp 25) (.tmp 26) rfl wr (.slice (some ⟨wr.heap.size + 1, 0, none⟩) 0 0) [] rfl hlit2 ah nh ch hd rfl ((((hh).drew).alloc _).alloc _) hnil (by simp; omega) (by go_grown) ?_
           intro u1 w1 ho1 hg1 hb1
           have hcell1 := (hb1.cell (p := ⟨b, off, none⟩) hblt).trans hcell
           have hx1 := (((Sl.new wr (el p 0)).alloc (.cells #[] 3)).drew).grown hg1 (fun e => absurd (Option.some.inj e) (by simp)))
        | (refine step_app rfl (.tmp 25) (.tmp 26) rfl wr (.slice (some ⟨wr.heap.size, 0, none⟩) 0 0) [] rfl (by first | exact own_lit_at (Nat.le_refl _) | exact (own_lit_at (Nat.le_refl _)).drew | exact (own_lit_at (Nat.le_refl _)).alloc _ | exact ((own_lit_at (Nat.le_refl _)).alloc _).drew) ah nh ch hd rfl (by first | exact (hh.drew).alloc _ | exact ((hh.alloc _).drew) | exact ((hh.drew).alloc _).alloc _ | exact ((hh.alloc _).alloc _).drew) hnil (by simp; omega) (by go_grown) ?_
           intro u1 w1 ho1 hg1 hb1
           have hcell1 := (hb1.cell (p := ⟨b, off, none⟩) hblt).trans hcell
           first
             | (have hx1 := ((Sl.new (wr.alloc (.cells #[] 3)) (el p 0)).drew).grown hg1 (fun e => absurd (Option.some.inj e) (by simp)); simp only [World.size_alloc] at hx1)
             | skip))
      all_goals (
        rw [hyss, List.nil_append] at ho4
        obtain ⟨a9, c9, rfl, -⟩ := ho4.sl
        have hb9 := (hbr.trans ((hb2.trans (hb3.mono hb2.size)).mono hbr.size)).trans hb4
        exact key _ _ _ _ _ _ _ _ _ _ _ _ _ _ _ _ _ _ _ _ _ _ _ _ _ _ _ _ _ _ _ _ _ _ _ _ _ _ _ _ _ _ _ _ _ _ _ _ _ _ _ _ _ _ _ _ ho4 hb9)

end Go.Proofs.Ytjphaphnmclbcaa

/- What the trace of a program with goroutines says between two calls that go, and while a sender and a receiver are under way: no race, and what each of the two knows of the other's touches of memory. No condition. -/
namespace Go.Proofs.Ytjphaphnmclbcaa
open Go Go.Conc

/-- The block that a place lies in. -/
def blk : Loc → Nat
  | .cell a => a.block
  | .obj r => r
  | _ => 0

/-- Between two calls that go: no race; goroutine 0 knows every touch of memory, and hears. -/
structure Pst (t : Trace) : Prop where
  clean : ∀ said, ¬ Race said t
  known : ∀ i a, touchAt t i = some a → a.loc.isMemory = true → Knows t 0 i
  hears : Deaf t 0 = 0

theorem pst_nil : Pst #[] := ⟨fun said => by rintro ⟨i, j, _, ⟨a, b, ha, _⟩, _⟩; simp [Trace.act?] at ha, fun i a ha => by simp [touchAt, Trace.act?] at ha, rfl⟩

theorem Pst.over {t : Trace} (h : Pst t) : t.HandedOver := by
  intro i g hg hne hc
  obtain ⟨x, hx, hm, _⟩ := hc
  obtain ⟨q, z, hq, hzg, hb⟩ := h.known i x hx hm
  refine ⟨q, by simp [Trace.g?, hq, hzg], ?_⟩
  rcases hb with rfl | hb
  · rw [Trace.g?, hq] at hg; simp at hg; exact absurd (hg.symm.trans hzg) hne
  · exact hb

theorem touch_cases {t u : Trace} {i : Nat} {a : Touch} (h : touchAt (t ++ u) i = some a) : (i < t.size ∧ touchAt t i = some a) ∨ (t.size ≤ i ∧ ∃ op, (t ++ u)[i]? = some op ∧ op ∈ u ∧ op.act.touch? = some a) := by
  obtain ⟨x, hx, hxa⟩ := touch_of h
  rcases getElem?_append_cases hx with ⟨hi, hx'⟩ | ⟨hi, hxu⟩
  · exact .inl ⟨hi, by rw [touchAt_of hx']; exact hxa⟩
  · exact .inr ⟨hi, x, hx, hxu, hxa⟩

/-- Goroutine 0's own operations, none of which makes it deaf. -/
theorem Pst.app0 {t u : Trace} (h : Pst t) (hu : ∀ op ∈ u, op.g = 0) (hd : Deaf (t ++ u) 0 = Deaf t 0) : Pst (t ++ u) := by
  refine ⟨fun said => noRace_append (h.clean said) hu fun i a ha op _ b _ hc => h.known i a ha hc.2.1, fun i a ha hm => ?_, hd.trans h.hears⟩
  rcases touch_cases ha with ⟨_, ha'⟩ | ⟨_, x, hx, hxu, _⟩
  · exact (h.known i a ha' hm).app u
  · have := knows_own hx
    rwa [hu x hxu] at this

/-- Another's operations that touch nothing. -/
theorem Pst.appMute {t u : Trace} {g : Nat} (h : Pst t) (hg : g ≠ 0) (hu : ∀ op ∈ u, op.g = g) (hn : ∀ op ∈ u, op.act.touch? = none) : Pst (t ++ u) := by
  refine ⟨fun said => noRace_append (h.clean said) hu fun i a _ op hop b hb _ => (by rw [hn op hop] at hb; cases hb), fun i a ha hm => ?_, (Deaf_other t hg u hu).trans h.hears⟩
  rcases touch_cases ha with ⟨_, ha'⟩ | ⟨_, x, _, hxu, hxa⟩
  · exact (h.known i a ha' hm).app u
  · rw [hn x hxu] at hxa; cases hxa

/-- An entry that makes nobody deaf. -/
def Hears (e : Event) : Prop := e.loc ≠ .mark .disable ∧ e.loc ≠ .mark .enable

theorem mem_ofEv {g : Nat} {fn : FuncId} {pos : String} {es : Array Event} {op : MemOp} (h : op ∈ MemOp.ofEvents g fn pos es) : ∃ e, e ∈ es ∧ op = { g, fn, pos, act := .ofEvent e } := by
  rw [ofEvents_eq] at h
  obtain ⟨e, he, rfl⟩ := Array.mem_map.1 h
  exact ⟨e, he, rfl⟩

theorem Pst.own {t : Trace} (h : Pst t) {fn : FuncId} {pos : String} {es : Array Event} (hes : ∀ e ∈ es, Hears e) : Pst (t ++ MemOp.ofEvents 0 fn pos es) := by
  refine h.app0 (fun op hop => by obtain ⟨e, _, rfl⟩ := mem_ofEv hop; rfl) ?_
  rw [Deaf_own]
  exact deafBehind_still (fun e he => hes e he) _

theorem Pst.mute {t : Trace} (h : Pst t) {g : Nat} (hg : g ≠ 0) {fn : FuncId} {pos : String} {es : Array Event} (hm : ∀ e ∈ es, e.mute = true) : Pst (t ++ MemOp.ofEvents g fn pos es) :=
  h.appMute hg (fun op hop => by obtain ⟨e, _, rfl⟩ := mem_ofEv hop; rfl) (fun op hop => by obtain ⟨e, he, rfl⟩ := mem_ofEv hop; exact touch_mute (hm e he))

/-! ### a sender and a receiver under way -/

/-- What g does not know: touches of the other's (h), in blocks that are there, none of g's own; of the shared ones only readings. -/
def KB (t : Trace) (g h : Nat) (M Sh : Nat → Prop) (B : Nat) : Prop :=
  ∀ i a, touchAt t i = some a → a.loc.isMemory = true → Knows t g i ∨ (t.g? i = some h ∧ blk a.loc < B ∧ ¬ M (blk a.loc) ∧ (Sh (blk a.loc) → a.write = false))

/-- What an entry may touch: blocks of its own, or, reading, shared ones. -/
def EvM (M Sh : Nat → Prop) (e : Event) : Prop := (∀ m, e.loc = .mark m → Neutral m) ∧ ∀ a, (MemAct.ofEvent e).touch? = some a → M (blk a.loc) ∨ (Sh (blk a.loc) ∧ a.write = false)

theorem EvM.hears {M Sh : Nat → Prop} {e : Event} (h : EvM M Sh e) : Hears e := ⟨fun x => (h.1 _ x).ne_disable rfl, fun x => (h.1 _ x).ne_enable rfl⟩

/-- The two: g0 (it receives), g1 (it sends). -/
structure TwoG (t : Trace) (g0 g1 : Nat) (M0 M1 Sh : Nat → Prop) (B : Nat) : Prop where
  clean : ∀ said, ¬ Race said t
  k0 : KB t g0 g1 M0 Sh B
  k1 : KB t g1 g0 M1 Sh B
  d0 : Deaf t g0 = 0
  d1 : Deaf t g1 = 0

theorem TwoG.flip {t : Trace} {g0 g1 : Nat} {M0 M1 Sh : Nat → Prop} {B : Nat} (h : TwoG t g0 g1 M0 M1 Sh B) : TwoG t g1 g0 M1 M0 Sh B := ⟨h.clean, h.k1, h.k0, h.d1, h.d0⟩

/-- Operations of g0's own: it may have made new blocks (from B on). -/
theorem TwoG.app {t u : Trace} {g0 g1 : Nat} {M0 M0' M1 Sh : Nat → Prop} {B B' : Nat} (h : TwoG t g0 g1 M0 M1 Sh B) (hne : g0 ≠ g1) (hB : B ≤ B')
    (hnew : ∀ k, M0' k → M0 k ∨ B ≤ k) (hlt : ∀ k, M0' k → k < B') (hsh : ∀ k, Sh k → k < B) (h1 : ∀ k, M1 k → k < B ∧ ¬ M0 k) (hs1 : ∀ k, M1 k → ¬ Sh k) (hs0 : ∀ k, M0 k → ¬ Sh k)
    (hu : ∀ op ∈ u, op.g = g0 ∧ ∀ a, op.act.touch? = some a → a.loc.isMemory = true → M0' (blk a.loc) ∨ (Sh (blk a.loc) ∧ a.write = false)) (hd : Deaf (t ++ u) g0 = Deaf t g0) :
    TwoG (t ++ u) g0 g1 M0' M1 Sh B' := by
  refine ⟨fun said => noRace_append (h.clean said) (fun op hop => (hu op hop).1) fun i a ha op hop b hb hc => ?_, fun i a ha hm => ?_, fun i a ha hm => ?_, hd.trans h.d0, (Deaf_other t hne u fun op hop => (hu op hop).1).trans h.d1⟩
  · rcases h.k0 i a ha hc.2.1 with hk | ⟨_, hb', hn, hw⟩
    · exact hk
    · exfalso
      have hl : a.loc = b.loc := hc.1
      rcases (hu op hop).2 b hb (hl ▸ hc.2.1) with hm | ⟨hs, hbw⟩
      · rw [← hl] at hm
        rcases hnew _ hm with hm | hm
        · exact hn hm
        · omega
      · rw [← hl] at hs
        have haw := hw hs
        rcases hc.2.2.1 with hx | hx
        · rw [haw] at hx; cases hx
        · rw [hbw] at hx; cases hx
  · rcases touch_cases ha with ⟨hi, ha'⟩ | ⟨_, x, hx, hxu, _⟩
    · rcases h.k0 i a ha' hm with hk | ⟨hg, hb, hn, hw⟩
      · exact .inl (hk.app u)
      · refine .inr ⟨by rw [g?_old hi]; exact hg, by omega, fun hM => ?_, hw⟩
        rcases hnew _ hM with hM | hM
        · exact hn hM
        · omega
    · have := knows_own hx
      rw [(hu x hxu).1] at this
      exact .inl this
  · rcases touch_cases ha with ⟨hi, ha'⟩ | ⟨_, x, hx, hxu, hxa⟩
    · rcases h.k1 i a ha' hm with hk | ⟨hg, hb, hn, hw⟩
      · exact .inl (hk.app u)
      · exact .inr ⟨by rw [g?_old hi]; exact hg, by omega, hn, hw⟩
    · refine .inr ⟨by simp [Trace.g?, hx, (hu x hxu).1], ?_, fun hM => ?_, fun hs => ?_⟩
      · rcases (hu x hxu).2 a hxa hm with hM | ⟨hs, _⟩
        · exact hlt _ hM
        · have := hsh _ hs; omega
      · obtain ⟨hk, hn⟩ := h1 _ hM
        rcases (hu x hxu).2 a hxa hm with hM' | ⟨hs, _⟩
        · rcases hnew _ hM' with h' | h'
          · exact hn h'
          · omega
        · exact hs1 _ hM hs
      · rcases (hu x hxu).2 a hxa hm with hM' | ⟨_, hw⟩
        · rcases hnew _ hM' with h' | h'
          · exact absurd hs (hs0 _ h')
          · have := hsh _ hs; omega
        · exact hw

theorem noRace_mute {t u : Trace} {said : Bool} (h : ¬ Race said t) (hu : ∀ op ∈ u, op.act.touch? = none) : ¬ Race said (t ++ u) := by
  rintro ⟨i, j, hij, ⟨a, b, ha, hb, hc⟩, n1, n2⟩
  have old : ∀ {i : Nat} {a : Touch}, ((t ++ u).act? i).bind (·.touch?) = some a → i < t.size ∧ (t.act? i).bind (·.touch?) = some a := by
    intro i a ha
    rcases touch_cases (t := t) (u := u) (i := i) (a := a) ha with h' | ⟨_, x, _, hxu, hxa⟩
    · exact h'
    · rw [hu x hxu] at hxa; cases hxa
  exact h ⟨i, j, hij, ⟨a, b, (old ha).2, (old hb).2, hc⟩, fun e => n1 (hb_app u e), fun e => n2 (hb_app u e)⟩

theorem touch_old_of_mute {t u : Trace} (hu : ∀ op ∈ u, op.act.touch? = none) {i : Nat} {a : Touch} (ha : touchAt (t ++ u) i = some a) : i < t.size ∧ touchAt t i = some a := by
  rcases touch_cases ha with h' | ⟨_, x, _, hxu, hxa⟩
  · exact h'
  · rw [hu x hxu] at hxa; cases hxa

/-- No entry makes anybody deaf. -/
theorem Deaf_still {t u : Trace} {g : Nat} (hu : ∀ op ∈ u, op.act ≠ .mark .disable ∧ op.act ≠ .mark .enable) : Deaf (t ++ u) g = Deaf t g := by
  obtain ⟨l⟩ := u
  rw [Deaf_append]
  induction l generalizing t with
  | nil => rfl
  | cons y l ih =>
    have hy : deafStep g (Deaf t g) y = Deaf t g := by
      have := hu y (by simp)
      unfold deafStep
      split
      · rename_i h; exact absurd h this.1
      · rename_i h; exact absurd h this.2
      · rfl
    rw [List.foldl_cons, hy]
    exact ih (t := t) fun op hop => hu op (by simp at hop ⊢; exact .inr hop)

/-- THE MEETING: the blocks of V pass from g1, who sends, to g0. -/
theorem TwoG.meets {t : Trace} {g0 g1 : Nat} {M0 M1 Sh V : Nat → Prop} {B c k : Nat} (h : TwoG t g0 g1 M0 M1 Sh B) {x0 x1 x2 x3 : MemOp}
    (h0 : x0.g = g1 ∧ x0.act = .send c k) (h1 : x1.g = g0 ∧ x1.act = .recv c k 0) (h2 : x2.g = g1 ∧ x2.act = .sendDone c k) (h3 : x3.g = g0 ∧ x3.act = .recvDone c k)
    (hV : ∀ b, V b → M1 b) : TwoG (t ++ #[x0, x1, x2, x3]) g0 g1 (fun b => M0 b ∨ V b) (fun b => M1 b ∧ ¬ V b) Sh B := by
  have hmem : ∀ op ∈ #[x0, x1, x2, x3], op = x0 ∨ op = x1 ∨ op = x2 ∨ op = x3 := fun op hop => by simpa using hop
  have hmute : ∀ op ∈ #[x0, x1, x2, x3], op.act.touch? = none := by
    intro op hop
    rcases hmem op hop with rfl | rfl | rfl | rfl
    · rw [h0.2]; rfl
    · rw [h1.2]; rfl
    · rw [h2.2]; rfl
    · rw [h3.2]; rfl
  have hnm : ∀ op ∈ #[x0, x1, x2, x3], op.act ≠ .mark .disable ∧ op.act ≠ .mark .enable := by
    intro op hop
    rcases hmem op hop with rfl | rfl | rfl | rfl
    · rw [h0.2]; simp
    · rw [h1.2]; simp
    · rw [h2.2]; simp
    · rw [h3.2]; simp
  have p0 : (t ++ #[x0, x1, x2, x3])[t.size]? = some x0 := by rw [Array.getElem?_append_right (Nat.le_refl _)]; simp
  have p1 : (t ++ #[x0, x1, x2, x3])[t.size + 1]? = some x1 := by rw [Array.getElem?_append_right (by omega)]; simp
  have p2 : (t ++ #[x0, x1, x2, x3])[t.size + 2]? = some x2 := by rw [Array.getElem?_append_right (by omega)]; simp
  have p3 : (t ++ #[x0, x1, x2, x3])[t.size + 3]? = some x3 := by rw [Array.getElem?_append_right (by omega)]; simp
  have e0 : (t ++ #[x0, x1, x2, x3]).heard t.size := ⟨g1, by simp [Trace.g?, h0.1], by rw [deaf_old (Nat.le_refl _)]; exact h.d1⟩
  have e3 : (t ++ #[x0, x1, x2, x3]).heard (t.size + 3) := by
    refine ⟨g0, by simp [Trace.g?, h3.1], ?_⟩
    rw [deaf_succ p2, deaf_succ p1, deaf_succ p0, deaf_old (Nat.le_refl _)]
    simp only [deafStep, h0.2, h1.2, h2.2]
    exact h.d0
  have edge : HappensBefore (t ++ #[x0, x1, x2, x3]) t.size (t.size + 3) :=
    .single (.inr ⟨.handOver (c := c) (k := k) (by rw [act?_of p0, h0.2]) (by rw [act?_of p3, h3.2]), e0, e3⟩)
  refine ⟨fun said => noRace_mute (h.clean said) hmute, fun i a ha hm => ?_, fun i a ha hm => ?_, (Deaf_still hnm).trans h.d0, (Deaf_still hnm).trans h.d1⟩
  · obtain ⟨hi, ha'⟩ := touch_old_of_mute hmute ha
    rcases h.k0 i a ha' hm with hk | ⟨hg, hb, hn, hw⟩
    · exact .inl (hk.app _)
    · by_cases hv : V (blk a.loc)
      · rcases h.k1 i a ha' hm with hk | ⟨_, _, hn1, _⟩
        · exact .inl ⟨t.size + 3, x3, p3, h3.1, .inr ((hk.hb_new (Nat.le_refl _) p0 h0.1).trans edge)⟩
        · exact absurd (hV _ hv) hn1
      · exact .inr ⟨by rw [g?_old hi]; exact hg, hb, fun x => x.elim hn hv, hw⟩
  · obtain ⟨hi, ha'⟩ := touch_old_of_mute hmute ha
    rcases h.k1 i a ha' hm with hk | ⟨hg, hb, hn, hw⟩
    · exact .inl (hk.app _)
    · exact .inr ⟨by rw [g?_old hi]; exact hg, hb, fun x => hn x.1, hw⟩

/-- Others' operations that touch nothing. -/
theorem TwoG.mute {t u : Trace} {g0 g1 : Nat} {M0 M1 Sh : Nat → Prop} {B : Nat} (h : TwoG t g0 g1 M0 M1 Sh B) {g : Nat} (n0 : g ≠ g0) (n1 : g ≠ g1)
    (hu : ∀ op ∈ u, op.g = g) (hn : ∀ op ∈ u, op.act.touch? = none) : TwoG (t ++ u) g0 g1 M0 M1 Sh B := by
  refine ⟨fun said => noRace_mute (h.clean said) hn, fun i a ha hm => ?_, fun i a ha hm => ?_, (Deaf_other t n0 u hu).trans h.d0, (Deaf_other t n1 u hu).trans h.d1⟩
  · obtain ⟨hi, ha'⟩ := touch_old_of_mute hn ha
    exact (h.k0 i a ha' hm).imp (·.app _) fun ⟨hg, hb, hn, hw⟩ => ⟨by rw [g?_old hi]; exact hg, hb, hn, hw⟩
  · obtain ⟨hi, ha'⟩ := touch_old_of_mute hn ha
    exact (h.k1 i a ha' hm).imp (·.app _) fun ⟨hg, hb, hn, hw⟩ => ⟨by rw [g?_old hi]; exact hg, hb, hn, hw⟩

/-- g1 has closed c, heard, and has touched nothing since. -/
def Shut (t : Trace) (g1 c : Nat) : Prop := ∃ pc z, t[pc]? = some z ∧ z.g = g1 ∧ z.act = .close c ∧ t.heard pc ∧ ∀ i a, touchAt t i = some a → t.g? i = some g1 → i < pc

theorem Shut.app {t u : Trace} {g1 c : Nat} (h : Shut t g1 c) (hu : ∀ op ∈ u, op.g ≠ g1 ∨ op.act.touch? = none) : Shut (t ++ u) g1 c := by
  obtain ⟨pc, z, hz, hg, ha, hh, hl⟩ := h
  have hp := lt_size_of_getElem? hz
  refine ⟨pc, z, by rw [getElem?_append_old hp]; exact hz, hg, ha, (heard_old hp).2 hh, fun i a hia hgi => ?_⟩
  rcases touch_cases hia with ⟨hi, ha'⟩ | ⟨_, x, hx, hxu, hxa⟩
  · exact hl i a ha' (by rw [← g?_old (u := u) hi]; exact hgi)
  · exfalso
    rcases hu x hxu with h' | h'
    · exact h' (by simpa [Trace.g?, hx] using hgi)
    · rw [h'] at hxa; cases hxa

/-- The close itself: the last of the operations. -/
theorem Shut.new {t u : Trace} {g1 c : Nat} {y : MemOp} (hg : y.g = g1) (ha : y.act = .close c) (hd : Deaf (t ++ u) g1 = 0) : Shut (t ++ u.push y) g1 c := by
  have e : t ++ u.push y = (t ++ u) ++ #[y] := by rw [Array.push_eq_append, Array.append_assoc]
  rw [e]
  have hy : ((t ++ u) ++ #[y])[(t ++ u).size]? = some y := by rw [Array.getElem?_append_right (Nat.le_refl _)]; simp
  refine ⟨(t ++ u).size, y, hy, hg, ha, ⟨g1, by simp only [Trace.g?, hy, Option.map_some, hg], by rw [deaf_old (Nat.le_refl _)]; exact hd⟩, fun i a hia _ => ?_⟩
  exact (touch_old_of_mute (fun op hop => by simp at hop; rw [hop, ha]; rfl) hia).1

/-- THE END OF THE PHASE: goroutine 0 has found the channel closed: it knows all. -/
theorem TwoG.done {t : Trace} {g1 c : Nat} {M0 M1 Sh : Nat → Prop} {B : Nat} (h : TwoG t 0 g1 M0 M1 Sh B) (hs : Shut t g1 c) {x : MemOp} (hx : x.g = 0 ∧ x.act = .recvClosed c) : Pst (t ++ #[x]) := by
  have hmute : ∀ op ∈ #[x], op.act.touch? = none := by intro op hop; simp at hop; rw [hop, hx.2]; rfl
  have px : (t ++ #[x])[t.size]? = some x := by rw [Array.getElem?_append_right (Nat.le_refl _)]; simp
  refine ⟨fun said => noRace_mute (h.clean said) hmute, fun i a ha hm => ?_, (Deaf_still (by intro op hop; simp at hop; rw [hop, hx.2]; simp)).trans h.d0⟩
  obtain ⟨hi, ha'⟩ := touch_old_of_mute hmute ha
  rcases h.k0 i a ha' hm with hk | ⟨hg, _⟩
  · exact hk.app _
  · obtain ⟨pc, z, hz, hzg, hza, hh, hl⟩ := hs
    have hp := lt_size_of_getElem? hz
    have hz' : (t ++ #[x])[pc]? = some z := by rw [getElem?_append_old hp]; exact hz
    obtain ⟨y, hy, hyg⟩ := Option.map_eq_some_iff.1 hg
    have hy' : (t ++ #[x])[i]? = some y := by rw [getElem?_append_old hi]; exact hy
    have e1 : HappensBefore (t ++ #[x]) i pc := hb_po (hl i a ha' hg) hy' hz' (hyg.trans hzg.symm)
    have e2 : HappensBefore (t ++ #[x]) pc t.size := .single (.inr ⟨.closed (c := c) (by rw [act?_of hz', hza]) (by rw [act?_of px, hx.2]), (heard_old hp).2 hh,
      ⟨0, by simp [Trace.g?, hx.1], by rw [deaf_old (Nat.le_refl _)]; exact h.d0⟩⟩)
    exact ⟨t.size, x, px, hx.1, .inr (e1.trans e2)⟩

/-- THE FORK: the child knows all that goroutine 0 knows. -/
theorem TwoG.fork {t : Trace} {k : Nat} (h : Pst t) (hk : Deaf t k = 0) {x y : MemOp} (hx : x.g = 0 ∧ x.act = .go k) (hy : y.g = k ∧ y.act = .start) (M0 M1 Sh : Nat → Prop) (B : Nat) :
    TwoG (t ++ #[x, y]) 0 k M0 M1 Sh B := by
  have hmute : ∀ op ∈ #[x, y], op.act.touch? = none := by
    intro op hop
    rcases (show op = x ∨ op = y by simpa using hop) with rfl | rfl
    · rw [hx.2]; rfl
    · rw [hy.2]; rfl
  have hnm : ∀ op ∈ #[x, y], op.act ≠ .mark .disable ∧ op.act ≠ .mark .enable := by
    intro op hop
    rcases (show op = x ∨ op = y by simpa using hop) with rfl | rfl
    · rw [hx.2]; simp
    · rw [hy.2]; simp
  refine ⟨fun said => noRace_mute (h.clean said) hmute, fun i a ha hm => ?_, fun i a ha hm => ?_, (Deaf_still hnm).trans h.hears, (Deaf_still hnm).trans hk⟩
  · exact .inl ((h.known i a (touch_old_of_mute hmute ha).2 hm).app _)
  · exact .inl (Go.ConcN.fork_knows hx hy h.hears hk (h.known i a (touch_old_of_mute hmute ha).2 hm))

end Go.Proofs.Ytjphaphnmclbcaa

/- The walk of goroutine 0 beside goroutines that only leave, without counts: steps on every tape, and jumps over calls that go. No condition. -/
namespace Go.Proofs.Ytjphaphnmclbcaa
open Go Go.Conc Go.ConcN

/-- The world with another tape and another count of draws. -/
def Re (w w₁ : World) : Prop := ∃ (τ : Tape) (d : Nat), w₁ = { w with tape := τ, drawn := d }
theorem Re.refl (w : World) : Re w w := ⟨w.tape, w.drawn, rfl⟩
theorem Re.trans {a b c : World} (h : Re a b) (k : Re b c) : Re a c := by
  obtain ⟨_, _, rfl⟩ := h
  obtain ⟨τ, d, rfl⟩ := k
  exact ⟨τ, d, rfl⟩
theorem Re.at (w : World) (d : Nat) : Re w (w.at d) := ⟨w.tape, d, rfl⟩

/-- Beside whatever leavers the machine brings goroutine 0 from here to there. -/
def Reach (P : Program) (g : Goroutine) (w : World) (Mid : Goroutine → World → Prop) : Prop :=
  ∀ (gs : Array Goroutine) (sl : Option (Nat × Nat)) (t : Trace) (q : Nat → Nat), gs[0]? = some g → Leavers P t gs q → Pst t →
    ∃ (N : Nat) (gs' : Array Goroutine) (g' : Goroutine) (w' : World) (sl' : Option (Nat × Nat)) (t' : Trace) (q' : Nat → Nat),
      runNT P N (crowd gs w sl) t = (.next (crowd gs' w' sl'), t') ∧ gs'[0]? = some g' ∧ Mid g' w' ∧ Leavers P t' gs' q' ∧ Pst t'

theorem Reach.bind {P : Program} {g : Goroutine} {w : World} {Mid Fin : Goroutine → World → Prop} (h : Reach P g w Mid) (k : ∀ g' w', Mid g' w' → Reach P g' w' Fin) : Reach P g w Fin := by
  intro gs sl t q h0 hL hP
  obtain ⟨N, gs', g', w', sl', t', q', hr, h0', hm, hL', hP'⟩ := h gs sl t q h0 hL hP
  obtain ⟨N₂, gs₂, g₂, w₂, sl₂, t₂, q₂, hr₂, x⟩ := k g' w' hm gs' sl' t' q' h0' hL' hP'
  exact ⟨N + N₂, gs₂, g₂, w₂, sl₂, t₂, q₂, by rw [runNT_add, hr]; exact hr₂, x⟩

/-- The walk: it stands at a stop; or its step is its own on whatever tape; or it is brought on by a call that goes. -/
inductive T (P : Program) (Stop : Goroutine → World → Prop) : Goroutine → World → Prop
  | stop {g : Goroutine} {w : World} (h : ∀ w₁, Re w w₁ → Stop g w₁) : T P Stop g w
  | step {g : Goroutine} {w : World} (hs : g.status = .running)
      (h : ∀ w₁, Re w w₁ → ∃ g' w' es, stepG P true g w₁ = .go g' w' es ∧ ∀ e ∈ es, Hears e)
      (k : ∀ w₁ g' w' es, Re w w₁ → stepG P true g w₁ = .go g' w' es → T P Stop g' w') : T P Stop g w
  | jump {g : Goroutine} {w : World} (Mid : Goroutine → World → Prop) (h : ∀ w₁, Re w w₁ → Reach P g w₁ Mid) (k : ∀ g' w', Mid g' w' → T P Stop g' w') : T P Stop g w

section
variable {P : Program} {Stop : Goroutine → World → Prop}

theorem T.rely {g : Goroutine} {w w₁ : World} (h : T P Stop g w) (hr : Re w w₁) : T P Stop g w₁ := by
  cases h with
  | stop h => exact .stop fun w₂ h₂ => h w₂ (hr.trans h₂)
  | step hs h k => exact .step hs (fun w₂ h₂ => h w₂ (hr.trans h₂)) fun w₂ g' w' es h₂ => k w₂ g' w' es (hr.trans h₂)
  | jump Mid h k => exact .jump Mid (fun w₂ h₂ => h w₂ (hr.trans h₂)) k

theorem T.bind {Stop' : Goroutine → World → Prop} {g : Goroutine} {w : World} (h : T P Stop g w) (k : ∀ g w, Stop g w → T P Stop' g w) : T P Stop' g w := by
  induction h with
  | stop h => exact k _ _ (h _ (Re.refl _))
  | step hs h _ ih => exact .step hs h ih
  | jump Mid h _ ih => exact .jump Mid h ih

/-- Leavers keep when goroutine i takes a step of its own that others do not hear of. -/
theorem leavers_step {t u : Trace} {gs : Array Goroutine} {q : Nat → Nat} {i : Nat} {g g' : Goroutine} {w' : World} (hL : Leavers P t gs q) (hlt : i < gs.size) (hu : ∀ op ∈ u, op.g = i) {q' : Nat → Nat}
    (hq : ∀ j, j ≠ i → q' j = q j) (hg' : 0 < i → QuitsD P (q' i) (Deaf (t ++ u) i) g') : Leavers P (t ++ u) ((gs.map (woken P g g' w')).setIfInBounds i g') q' := by
  refine ⟨fun j x hj hx => ?_, fun j hj => ?_⟩
  · by_cases hji : i = j
    · subst hji
      rw [Array.getElem?_setIfInBounds_self_of_lt (by simpa using hlt)] at hx
      obtain rfl := Option.some.inj hx
      exact hg' hj
    · rw [Array.getElem?_setIfInBounds_ne hji, Array.getElem?_map] at hx
      obtain ⟨y, hy, rfl⟩ := Option.map_eq_some_iff.1 hx
      have hqj := hL.old j y hj hy
      rw [woken_quitsD hqj, hq j (Ne.symm hji), Deaf_other t hji u hu]
      exact hqj
  · have hji : i ≠ j := by simp at hj; omega
    rw [Deaf_other t hji u hu]
    exact hL.above j (by simpa using hj)

theorem own_g {g : Nat} {fn : FuncId} {pos : String} {es : Array Event} : ∀ op ∈ MemOp.ofEvents g fn pos es, op.g = g := fun op hop => by obtain ⟨e, _, rfl⟩ := mem_ofEv hop; rfl

/-- Who moves beside leavers, while goroutine 0 runs. -/
theorem pick_leavers {gs : Array Goroutine} {g : Goroutine} {w : World} {sl : Option (Nat × Nat)} {t : Trace} {q : Nat → Nat} (h0 : gs[0]? = some g) (hrun : g.status = .running) (hL : Leavers P t gs q) (hP : Pst t) :
    (∃ d sl', stepT P (crowd gs w sl) = runT P (crowd gs (w.at d) sl') 0) ∨
    ∃ (d : Nat) (sl' : Option (Nat × Nat)) (gs' : Array Goroutine) (t' : Trace) (q' : Nat → Nat) (ops : Array MemOp), stepT P (crowd gs w sl) = (.next (crowd gs' (w.at d) sl'), ops) ∧ t' = t ++ ops ∧ gs'[0]? = some g ∧
      Leavers P t' gs' q' ∧ Pst t' ∧ Go.ConcN.sumTo gs'.size q' < Go.ConcN.sumTo gs.size q := by
  have haw : ∀ g ∈ gs, awake g := by
    intro x hx
    obtain ⟨i, hi, rfl⟩ := Array.mem_iff_getElem.1 hx
    rcases Nat.eq_zero_or_pos i with rfl | hpos
    · have : gs[0] = g := by simpa [Array.getElem?_eq_getElem hi] using h0
      rw [this]; exact awake_of (.inl hrun)
    · exact awake_of ((hL.old i _ hpos (Array.getElem?_eq_getElem hi)).status.elim .inl fun x => .inr (.inr x))
  obtain ⟨i, x, d, sl', hi, hx, hst⟩ := crowd_pick (P := P) (w := w) (sl := sl) haw ⟨0, g, h0, hrun⟩
  rcases Nat.eq_zero_or_pos i with rfl | hpos
  · exact .inl ⟨d, sl', hst⟩
  · refine .inr ?_
    have hq := hL.old i x hpos hi
    have hi0 : (i == 0) = false := by simp; omega
    have hlt : i < gs.size := (Array.getElem?_eq_some_iff.1 hi).1
    cases hqi : q i with
    | zero => rw [hqi] at hq; rw [hq.1] at hx; cases hx
    | succ k =>
      rw [hqi] at hq
      rcases hq with ⟨hf, _⟩ | ⟨_, g', es, hm, hstp, hq'⟩
      · rw [hf] at hx; cases hx
      have hrunT := runT_crowd_go (P := P) (sl := sl') (i := i) hi (by rw [hi0]; exact hstp (w.at d))
      have hsum : Go.ConcN.sumTo gs.size (upd q i k) + (k + 1) = Go.ConcN.sumTo gs.size q + k := by
        have := sumTo_upd q k id hlt
        simpa [hqi] using this
      refine ⟨d, sl', (gs.map (woken P x g' (w.at d))).setIfInBounds i g', _, upd q i k, _, hst.trans hrunT, rfl, ?_, leavers_step hL hlt own_g (fun j hj => upd_ne q k hj) (fun _ => ?_), hP.mute (by omega) hm, by simp only [Array.size_setIfInBounds, Array.size_map]; omega⟩
      · have hne : i ≠ 0 := by omega
        rw [Array.getElem?_setIfInBounds_ne hne, Array.getElem?_map, h0]
        simp [woken_run hrun]
      · rw [upd_same, Deaf_own]
        exact hq'

theorem T.reach {g : Goroutine} {w : World} (h : T P Stop g w) : Reach P g w Stop := by
  induction h with
  | stop h => exact fun gs sl t q h0 hL hP => ⟨0, gs, _, _, sl, t, q, rfl, h0, h _ (Re.refl _), hL, hP⟩
  | jump Mid h _ ih => exact (h _ (Re.refl _)).bind ih
  | @step g w hs h _ ih =>
    have key : ∀ (M : Nat) (w₁ : World) (gs : Array Goroutine) (sl : Option (Nat × Nat)) (t : Trace) (q : Nat → Nat), Re w w₁ → Go.ConcN.sumTo gs.size q ≤ M → gs[0]? = some g → Leavers P t gs q → Pst t →
        ∃ (N : Nat) (gs' : Array Goroutine) (g' : Goroutine) (w' : World) (sl' : Option (Nat × Nat)) (t' : Trace) (q' : Nat → Nat),
          runNT P N (crowd gs w₁ sl) t = (.next (crowd gs' w' sl'), t') ∧ gs'[0]? = some g' ∧ Stop g' w' ∧ Leavers P t' gs' q' ∧ Pst t' := by
      intro M
      induction M with
      | zero =>
        intro w₁ gs sl t q hr hM h0 hL hP
        rcases pick_leavers (P := P) (w := w₁) (sl := sl) h0 hs hL hP with ⟨d, sl', hst⟩ | ⟨_, _, _, _, _, _, _, _, _, _, _, hlt⟩
        · obtain ⟨g', w', es, hgo, hev⟩ := h (w₁.at d) (hr.trans (Re.at _ _))
          have hlt : 0 < gs.size := (Array.getElem?_eq_some_iff.1 h0).1
          have hrunT := runT_crowd_go (P := P) (sl := sl') (i := 0) h0 (show stepG P (0 == 0) g (w₁.at d) = _ from hgo)
          obtain ⟨N, x⟩ := ih (w₁.at d) g' w' es (hr.trans (Re.at _ _)) hgo ((gs.map (woken P g g' w')).setIfInBounds 0 g') sl' _ q (by simp [hlt]) (leavers_step hL hlt own_g (fun _ _ => rfl) (fun h => by omega)) (hP.own hev)
          obtain ⟨gs', a, b, c, d', e, hrn, rest⟩ := x
          exact ⟨N + 1, gs', a, b, c, d', e, by simp only [runNT, hst, hrunT]; exact hrn, rest⟩
        · omega
      | succ M ihM =>
        intro w₁ gs sl t q hr hM h0 hL hP
        rcases pick_leavers (P := P) (w := w₁) (sl := sl) h0 hs hL hP with ⟨d, sl', hst⟩ | ⟨d, sl', gs', t', q', ops, hst, rfl, h0', hL', hP', hlt⟩
        · obtain ⟨g', w', es, hgo, hev⟩ := h (w₁.at d) (hr.trans (Re.at _ _))
          have hlt : 0 < gs.size := (Array.getElem?_eq_some_iff.1 h0).1
          have hrunT := runT_crowd_go (P := P) (sl := sl') (i := 0) h0 (show stepG P (0 == 0) g (w₁.at d) = _ from hgo)
          obtain ⟨N, x⟩ := ih (w₁.at d) g' w' es (hr.trans (Re.at _ _)) hgo ((gs.map (woken P g g' w')).setIfInBounds 0 g') sl' _ q (by simp [hlt]) (leavers_step hL hlt own_g (fun _ _ => rfl) (fun h => by omega)) (hP.own hev)
          obtain ⟨gs', a, b, c, d', e, hrn, rest⟩ := x
          exact ⟨N + 1, gs', a, b, c, d', e, by simp only [runNT, hst, hrunT]; exact hrn, rest⟩
        · obtain ⟨N, gs₂, a, b, c, d', e, hrn, rest⟩ := ihM (w₁.at d) gs' sl' _ q' (hr.trans (Re.at _ _)) (by omega) h0' hL' hP'
          exact ⟨N + 1, gs₂, a, b, c, d', e, by simp only [runNT, hst]; exact hrn, rest⟩
    exact fun gs sl t q h0 hL hP => key _ w gs sl t q (Re.refl _) (Nat.le_refl _) h0 hL hP

/-- Goroutine 0 stands at the step that ends the run. -/
def AtFin (P : Program) (Post : Value → World → Prop) (g : Goroutine) (w : World) : Prop :=
  g.status = .running ∧ ∃ v es, stepG P true g w = .ended (.done v) w es ∧ (∀ e ∈ es, Hears e) ∧ Post v w

/-- The last step, beside leavers. -/
theorem fin_ends {Post : Value → World → Prop} : ∀ (M : Nat) {gs : Array Goroutine} {g : Goroutine} {w : World} {sl : Option (Nat × Nat)} {t : Trace} {q : Nat → Nat}, Go.ConcN.sumTo gs.size q ≤ M → gs[0]? = some g → Leavers P t gs q → Pst t →
    (∀ w₁, Re w w₁ → AtFin P Post g w₁) →
    ∃ N last o w' t', runNT P (N + 1) (crowd gs w sl) t = (.ended o w', t') ∧ runN P N (crowd gs w sl) = .next last ∧ step P last = .ended o w' ∧ Go.Conc.Good P Post last o w' t' := by
  intro M
  induction M with
  | zero =>
    intro gs g w sl t q hM h0 hL hP hS
    rcases pick_leavers (P := P) (w := w) (sl := sl) h0 (hS w (Re.refl _)).1 hL hP with ⟨d, sl', hst⟩ | ⟨_, _, _, _, _, _, _, _, _, _, _, hlt⟩
    · obtain ⟨_, v, es, hend, hes, hpost⟩ := hS (w.at d) (Re.at _ _)
      have hrunT := runT_many_ended (P := P) (sl := sl') (i := 0) h0 (show stepG P (0 == 0) g (w.at d) = _ from hend)
      have hP' := hP.own (fn := g.frame.fn) (pos := g.frame.place) hes
      have hst' := hst.trans hrunT
      refine ⟨0, crowd gs w sl, .done v, w.at d, _, by simp only [runNT, hst'], rfl, by simp only [step, hst'], v, rfl, hpost, hP'.clean, hP'.over, ⟨fun x hx => ?_, rfl⟩, fun j x hx hj => ?_⟩
      · obtain ⟨j, hj⟩ := List.mem_iff_getElem?.1 hx
        rw [List.getElem?_drop] at hj
        exact ⟨_, (hL.old (1 + j) x (by omega) (by simpa [crowd] using hj)).leaves⟩
      · have hq := hL.old j x (by omega) hx
        refine ⟨q j, ?_⟩
        have e : (t ++ MemOp.ofEvents 0 g.frame.fn g.frame.place es).deaf j (t ++ MemOp.ofEvents 0 g.frame.fn g.frame.place es).size = Deaf t j := Deaf_other t (g := j) (g' := 0) (by omega) _ own_g
        rw [e]
        exact hq.hears _
    · omega
  | succ M ih =>
    intro gs g w sl t q hM h0 hL hP hS
    rcases pick_leavers (P := P) (w := w) (sl := sl) h0 (hS w (Re.refl _)).1 hL hP with ⟨d, sl', hst⟩ | ⟨d, sl', gs', t', q', ops, hst, rfl, h0', hL', hP', hlt⟩
    · obtain ⟨_, v, es, hend, hes, hpost⟩ := hS (w.at d) (Re.at _ _)
      have hrunT := runT_many_ended (P := P) (sl := sl') (i := 0) h0 (show stepG P (0 == 0) g (w.at d) = _ from hend)
      have hP' := hP.own (fn := g.frame.fn) (pos := g.frame.place) hes
      have hst' := hst.trans hrunT
      refine ⟨0, crowd gs w sl, .done v, w.at d, _, by simp only [runNT, hst'], rfl, by simp only [step, hst'], v, rfl, hpost, hP'.clean, hP'.over, ⟨fun x hx => ?_, rfl⟩, fun j x hx hj => ?_⟩
      · obtain ⟨j, hj⟩ := List.mem_iff_getElem?.1 hx
        rw [List.getElem?_drop] at hj
        exact ⟨_, (hL.old (1 + j) x (by omega) (by simpa [crowd] using hj)).leaves⟩
      · have hq := hL.old j x (by omega) hx
        refine ⟨q j, ?_⟩
        have e : (t ++ MemOp.ofEvents 0 g.frame.fn g.frame.place es).deaf j (t ++ MemOp.ofEvents 0 g.frame.fn g.frame.place es).size = Deaf t j := Deaf_other t (g := j) (g' := 0) (by omega) _ own_g
        rw [e]
        exact hq.hears _
    · obtain ⟨N, last, o, w', t', h1, h2, h3, h4⟩ := ih (w := w.at d) (sl := sl') (by omega) h0' hL' hP' (fun w₁ h₁ => hS w₁ ((Re.at _ _).trans h₁))
      exact ⟨N + 1, last, o, w', t', by simp only [runNT, hst]; simpa only [runNT] using h1, by rw [runN_succ_next hst]; exact h2, h3, h4⟩

/-- FROM THE ENTRY TO THE RETURN. -/
theorem good_of_T {Post : Value → World → Prop} {g : Goroutine} {w : World} (h : T P (fun g w => ∀ w₁, Re w w₁ → AtFin P Post g w₁) g w) :
    ∃ N last o w' t', runNT P (N + 1) (solo g w) #[] = (.ended o w', t') ∧ runN P N (solo g w) = .next last ∧ step P last = .ended o w' ∧ Go.Conc.Good P Post last o w' t' := by
  obtain ⟨N, gs', g', w', sl', t', q', hr, h0', hS, hL', hP'⟩ := h.reach #[g] none #[] (fun _ => 0) rfl (leavers_one P g) pst_nil
  obtain ⟨N₂, last, o, w₂, t₂, h1, h2, h3, h4⟩ := fin_ends _ (sl := sl') (Nat.le_refl _) h0' hL' hP' hS
  refine ⟨N + N₂, last, o, w₂, t₂, ?_, ?_, h3, h4⟩
  · rw [solo_eq_crowd, Nat.add_assoc, runNT_add, hr]; exact h1
  · rw [solo_eq_crowd, runN_add, ← runNT_fst P N _ #[], hr]; exact h2
end

end Go.Proofs.Ytjphaphnmclbcaa

/- A goroutine that makes lists and sends them over a channel without a buffer and then closes it, and goroutine 0 that ranges over it and makes lists too: beside leavers, on whatever tape. No condition. -/
namespace Go.Proofs.Ytjphaphnmclbcaa
open Go Go.Conc Go.ConcN

/-- The blocks of one's own, grown by what a step has made. -/
def grow (M : Nat → Prop) (w w' : World) (k : Nat) : Prop := M k ∨ (w.heap.size ≤ k ∧ k < w'.heap.size)

/-- What the others may do: they leave the shared blocks and one's own. -/
structure Rl (Sh M : Nat → Prop) (w w₁ : World) : Prop where
  os : w₁.os = w.os
  output : w₁.output = w.output
  size : w.heap.size ≤ w₁.heap.size
  keep : ∀ k, Sh k ∨ M k → w₁.heap[k]? = w.heap[k]?

theorem Rl.refl (Sh M : Nat → Prop) (w : World) : Rl Sh M w w := ⟨rfl, rfl, Nat.le_refl _, fun _ _ => rfl⟩
theorem Rl.trans {Sh M : Nat → Prop} {a b c : World} (h : Rl Sh M a b) (k : Rl Sh M b c) : Rl Sh M a c :=
  ⟨k.os.trans h.os, k.output.trans h.output, Nat.le_trans h.size k.size, fun x hx => (k.keep x hx).trans (h.keep x hx)⟩
theorem Rl.mono {Sh M M' : Nat → Prop} {a b : World} (h : Rl Sh M a b) (hM : ∀ k, M' k → M k) : Rl Sh M' a b := ⟨h.os, h.output, h.size, fun x hx => h.keep x (hx.imp id (hM x))⟩
theorem Rl.at (Sh M : Nat → Prop) (w : World) (d : Nat) : Rl Sh M w (w.at d) := ⟨rfl, rfl, Nat.le_refl _, fun _ _ => rfl⟩

/-- What a step of one's own does: it writes one's own blocks and new ones, and touches those, and reads shared ones. -/
structure Gu (Sh M : Nat → Prop) (w w' : World) (es : Array Event) : Prop where
  os : w'.os = w.os
  output : w'.output = w.output
  size : w.heap.size ≤ w'.heap.size
  keep : ∀ k, k < w.heap.size → ¬ M k → w'.heap[k]? = w.heap[k]?
  evs : ∀ e ∈ es, EvM (grow M w w') Sh e

/-- The channel's own block beside the shared ones: nobody writes it as memory. -/
def ShC (Sh : Nat → Prop) (c : Nat) : Nat → Prop := fun k => Sh k ∨ k = c
theorem EvM.shc {M Sh : Nat → Prop} {e : Event} (h : EvM M Sh e) (c : Nat) : EvM M (ShC Sh c) e := ⟨h.1, fun a ha => (h.2 a ha).imp id fun x => ⟨.inl x.1, x.2⟩⟩
theorem evM_shc {M Sh : Nat → Prop} {es : Array Event} (h : ∀ e ∈ es, EvM M Sh e) (c : Nat) : ∀ e ∈ es, EvM M (ShC Sh c) e := fun e he => (h e he).shc c

/-- The walk of one of the two, with the blocks of its own. -/
inductive CoK (P : Program) (main : Bool) (Sh : Nat → Prop) (Stop : (Nat → Prop) → Goroutine → World → Prop) : (Nat → Prop) → Goroutine → World → Prop
  | stop {M : Nat → Prop} {g : Goroutine} {w : World} (h : Stop M g w) : CoK P main Sh Stop M g w
  | step {M : Nat → Prop} {g : Goroutine} {w : World} (hs : g.status = .running)
      (h : ∀ w₁, Rl Sh M w w₁ → ∃ g' w' es, stepG P main g w₁ = .go g' w' es ∧ Gu Sh M w₁ w' es)
      (k : ∀ w₁ g' w' es, Rl Sh M w w₁ → stepG P main g w₁ = .go g' w' es → CoK P main Sh Stop (grow M w₁ w') g' w') : CoK P main Sh Stop M g w

theorem CoK.rely {P : Program} {main : Bool} {Sh M : Nat → Prop} {Stop : (Nat → Prop) → Goroutine → World → Prop} (hS : ∀ M g w w₁, Stop M g w → Rl Sh M w w₁ → Stop M g w₁) {g : Goroutine} {w w₁ : World} (h : CoK P main Sh Stop M g w)
    (hr : Rl Sh M w w₁) : CoK P main Sh Stop M g w₁ := by
  cases h with
  | stop h => exact .stop (hS _ _ _ _ h hr)
  | step hs h k => exact .step hs (fun w₂ h₂ => h w₂ (hr.trans h₂)) fun w₂ g' w' es h₂ => k w₂ g' w' es (hr.trans h₂)

section
variable {α : Type} (P : Program) (c : Nat) (Sh : Nat → Prop) (Phi : α → Value → (Nat → Prop) → World → Prop)

def AtSend (x : α) (Next : (Nat → Prop) → Goroutine → World → Prop) (M : Nat → Prop) (g : Goroutine) (w : World) : Prop :=
  g.status = .running ∧ ∃ g₂ v z V, (∀ w₁, Rl Sh M w w₁ → ∃ es, stepG P false g w₁ = .comm g₂ #[scase c v z] true .send w₁ es ∧ ∀ e ∈ es, EvM M Sh e) ∧ (∀ k, V k → M k) ∧ Phi x v V w ∧
    ∀ w₂, Rl Sh (fun k => M k ∧ ¬ V k) w w₂ → Next (fun k => M k ∧ ¬ V k) (Go.Conc.served g₂ undef) w₂

def AtShut (M : Nat → Prop) (g : Goroutine) (w : World) : Prop :=
  g.status = .running ∧ mayWake P g = true ∧ ∃ (g₂ : Goroutine) (n : Nat), QuitsD P n 0 g₂ ∧ ∀ w₁ s r tm, Rl Sh M w w₁ → w₁.heap[c]? = some (.chan 0 #[] false s r tm) →
    ∃ es : Array Event, stepG P false g w₁ = .go g₂ (w₁.shut c s r tm) (es.push ⟨.obj c, true, true⟩) ∧ ∀ e ∈ es, EvM M (ShC Sh c) e

/-- The sender's script. -/
def Snd : List α → (Nat → Prop) → Goroutine → World → Prop
  | [], M, g, w => CoK P false Sh (AtShut P c Sh) M g w
  | x :: xs, M, g, w => CoK P false Sh (AtSend P c Sh Phi x (Snd xs)) M g w

variable (z : Value) (Fin : Goroutine → World → Prop)

def AtRecv0 (M : Nat → Prop) (g : Goroutine) (w : World) : Prop :=
  g.status = .running ∧ ∀ w₁, Rl Sh M w w₁ → ∃ es, stepG P true g w₁ = .comm (core g) #[rcase c z] true (.recv true) w₁ es ∧ ∀ e ∈ es, EvM M Sh e

/-- The receiver's script. -/
def Rcv : List α → (Nat → Prop) → Goroutine → World → Prop
  | [], M, g, w => CoK P true Sh (fun M g w => AtRecv0 P c Sh z M g w ∧ ∀ w₂, Rl Sh M w w₂ → Fin (Go.Conc.served (Go.Conc.core g) (.tuple #[z, .bool false])) w₂) M g w
  | x :: xs, M, g, w => CoK P true Sh (fun M g w => AtRecv0 P c Sh z M g w ∧ ∀ w₂ v V, Rl Sh M w w₂ → Phi x v V w₂ → (∀ k, V k → ¬ M k ∧ ¬ Sh k ∧ k ≠ c ∧ k < w₂.heap.size) →
      Rcv xs (fun k => M k ∨ V k) (Go.Conc.served (Go.Conc.core g) (.tuple #[v, .bool true])) w₂) M g w

end

/-- Who owns what. -/
structure Disj (Sh M0 M1 : Nat → Prop) (c B : Nat) : Prop where
  ch : c < B ∧ ¬ Sh c
  sh : ∀ k, Sh k → k < B
  m0 : ∀ k, M0 k → k < B ∧ k ≠ c ∧ ¬ Sh k ∧ ¬ M1 k
  m1 : ∀ k, M1 k → k < B ∧ k ≠ c ∧ ¬ Sh k

theorem Disj.shc {Sh M0 M1 : Nat → Prop} {c B : Nat} (h : Disj Sh M0 M1 c B) (k : Nat) (hk : ShC Sh c k) : k < B := hk.elim (h.sh k) fun e => e ▸ h.ch.1
theorem Disj.n0 {Sh M0 M1 : Nat → Prop} {c B : Nat} (h : Disj Sh M0 M1 c B) (k : Nat) (hk : M0 k) : ¬ ShC Sh c k := fun x => x.elim (h.m0 k hk).2.2.1 (h.m0 k hk).2.1
theorem Disj.n1 {Sh M0 M1 : Nat → Prop} {c B : Nat} (h : Disj Sh M0 M1 c B) (k : Nat) (hk : M1 k) : ¬ ShC Sh c k := fun x => x.elim (h.m1 k hk).2.2 (h.m1 k hk).2.1
theorem Disj.grow0 {Sh M0 M1 : Nat → Prop} {c : Nat} {w w' : World} (h : Disj Sh M0 M1 c w.heap.size) (hs : w.heap.size ≤ w'.heap.size) : Disj Sh (grow M0 w w') M1 c w'.heap.size := by
  refine ⟨⟨by have := h.ch.1; omega, h.ch.2⟩, fun k hk => by have := h.sh k hk; omega, fun k hk => ?_, fun k hk => ?_⟩
  · rcases hk with hk | ⟨h1, h2⟩
    · obtain ⟨a, b, c, d⟩ := h.m0 k hk
      exact ⟨by omega, b, c, d⟩
    · exact ⟨h2, by have := h.ch.1; omega, fun hk => by have := h.sh k hk; omega, fun hk => by have := (h.m1 k hk).1; omega⟩
  · obtain ⟨a, b, c⟩ := h.m1 k hk
    exact ⟨by omega, b, c⟩
theorem Disj.grow1 {Sh M0 M1 : Nat → Prop} {c : Nat} {w w' : World} (h : Disj Sh M0 M1 c w.heap.size) (hs : w.heap.size ≤ w'.heap.size) : Disj Sh M0 (grow M1 w w') c w'.heap.size := by
  refine ⟨⟨by have := h.ch.1; omega, h.ch.2⟩, fun k hk => by have := h.sh k hk; omega, fun k hk => ?_, fun k hk => ?_⟩
  · obtain ⟨a, b, c, d⟩ := h.m0 k hk
    refine ⟨by omega, b, c, fun hk' => ?_⟩
    rcases hk' with hk' | ⟨h1, h2⟩
    · exact d hk'
    · omega
  · rcases hk with hk | ⟨h1, h2⟩
    · obtain ⟨a, b, c⟩ := h.m1 k hk
      exact ⟨by omega, b, c⟩
    · exact ⟨h2, by have := h.ch.1; omega, fun hk => by have := h.sh k hk; omega⟩

/-- The machine while the channel is open: goroutine 0, the sender j, leavers. -/
structure Opn (P : Program) (c : Nat) (Sh : Nat → Prop) (j : Nat) (gs : Array Goroutine) (a b : Goroutine) (w : World) (t : Trace) (q : Nat → Nat) (M0 M1 : Nat → Prop) (s : Nat) (tm : Bool) : Prop where
  ga : gs[0]? = some a
  gb : gs[j]? = some b
  hj : 0 < j
  qj : q j = 0
  lv : ∀ i g, 0 < i → i ≠ j → gs[i]? = some g → QuitsD P (q i) (Deaf t i) g
  ab : ∀ i, gs.size ≤ i → Deaf t i = 0
  ch : w.heap[c]? = some (.chan 0 #[] false s s tm)
  dj : Disj Sh M0 M1 c w.heap.size
  tr : TwoG t 0 j M0 M1 (ShC Sh c) w.heap.size

section
variable {P : Program} {c : Nat} {Sh : Nat → Prop} {j : Nat} {gs : Array Goroutine} {a b : Goroutine} {w : World} {t : Trace} {q : Nat → Nat} {M0 M1 : Nat → Prop} {s : Nat} {tm : Bool} {sl : Option (Nat × Nat)}

theorem Opn.at (h : Opn P c Sh j gs a b w t q M0 M1 s tm) (d : Nat) : Opn P c Sh j gs a b (w.at d) t q M0 M1 s tm := ⟨h.ga, h.gb, h.hj, h.qj, h.lv, h.ab, h.ch, h.dj, h.tr⟩

/-- Who moves. -/
theorem Opn.pick (h : Opn P c Sh j gs a b w t q M0 M1 s tm) (ha : a.status = .running ∨ a.status = .blocked) (hb : b.status = .running ∨ b.status = .blocked) (hone : a.status = .running ∨ b.status = .running)
    (ka : ∀ g g' : Goroutine, ∀ w' : World, w'.heap = w.heap → woken P g g' w' a = a) (kb : ∀ g g' : Goroutine, ∀ w' : World, w'.heap = w.heap → woken P g g' w' b = b) :
    (a.status = .running ∧ ∃ d sl', stepT P (crowd gs w sl) = runT P (crowd gs (w.at d) sl') 0) ∨
    (b.status = .running ∧ ∃ d sl', stepT P (crowd gs w sl) = runT P (crowd gs (w.at d) sl') j) ∨
    ∃ (d : Nat) (sl' : Option (Nat × Nat)) (gs' : Array Goroutine) (q' : Nat → Nat) (ops : Array MemOp), stepT P (crowd gs w sl) = (.next (crowd gs' (w.at d) sl'), ops) ∧
      Opn P c Sh j gs' a b (w.at d) (t ++ ops) q' M0 M1 s tm ∧ Go.ConcN.sumTo gs'.size q' < Go.ConcN.sumTo gs.size q := by
  have haw : ∀ g ∈ gs, awake g := by
    intro x hx
    obtain ⟨i, hi, rfl⟩ := Array.mem_iff_getElem.1 hx
    have hg : gs[i]? = some gs[i] := Array.getElem?_eq_getElem hi
    rcases Nat.eq_zero_or_pos i with rfl | hpos
    · have : gs[0] = a := Option.some.inj (hg.symm.trans h.ga)
      rw [this]; exact awake_of (ha.imp id .inl)
    · by_cases hij : i = j
      · subst hij
        have : gs[i] = b := Option.some.inj (hg.symm.trans h.gb)
        rw [this]; exact awake_of (hb.imp id .inl)
      · exact awake_of ((h.lv i _ hpos hij hg).status.elim .inl fun x => .inr (.inr x))
  obtain ⟨i, x, d, sl', hi, hx, hst⟩ := crowd_pick (P := P) (w := w) (sl := sl) haw (hone.elim (fun x => ⟨0, a, h.ga, x⟩) fun x => ⟨j, b, h.gb, x⟩)
  rcases Nat.eq_zero_or_pos i with rfl | hpos
  · have : x = a := Option.some.inj (hi.symm.trans h.ga)
    exact .inl ⟨this ▸ hx, d, sl', hst⟩
  by_cases hij : i = j
  · subst hij
    have : x = b := Option.some.inj (hi.symm.trans h.gb)
    exact .inr (.inl ⟨this ▸ hx, d, sl', hst⟩)
  · refine .inr (.inr ?_)
    have hq := h.lv i x hpos hij hi
    have hi0 : (i == 0) = false := by simp; omega
    have hlt : i < gs.size := (Array.getElem?_eq_some_iff.1 hi).1
    cases hqi : q i with
    | zero => rw [hqi] at hq; rw [hq.1] at hx; cases hx
    | succ k =>
      rw [hqi] at hq
      rcases hq with ⟨hf, _⟩ | ⟨_, g', es, hm, hstp, hq'⟩
      · rw [hf] at hx; cases hx
      have hrunT := runT_crowd_go (P := P) (sl := sl') (i := i) hi (by rw [hi0]; exact hstp (w.at d))
      have hsum : Go.ConcN.sumTo gs.size (upd q i k) + (k + 1) = Go.ConcN.sumTo gs.size q + k := by
        have := sumTo_upd q k id hlt
        simpa [hqi] using this
      have hmute : ∀ op ∈ MemOp.ofEvents i x.frame.fn x.frame.place es, op.act.touch? = none := fun op hop => by obtain ⟨e, he, rfl⟩ := mem_ofEv hop; exact touch_mute (hm e he)
      refine ⟨d, sl', (gs.map (woken P x g' (w.at d))).setIfInBounds i g', upd q i k, _, hst.trans hrunT, ⟨?_, ?_, h.hj, by rw [upd_ne q k (Ne.symm hij)]; exact h.qj, fun l y hl hlj hy => ?_, fun l hl => ?_, h.ch, h.dj, ?_⟩, by simp only [Array.size_setIfInBounds, Array.size_map]; omega⟩
      · rw [Array.getElem?_setIfInBounds_ne (by omega), Array.getElem?_map, h.ga, Option.map_some, ka x g' (w.at d) rfl]
      · rw [Array.getElem?_setIfInBounds_ne hij, Array.getElem?_map, h.gb, Option.map_some, kb x g' (w.at d) rfl]
      · by_cases hli : i = l
        · subst hli
          rw [Array.getElem?_setIfInBounds_self_of_lt (by simpa using hlt)] at hy
          obtain rfl := Option.some.inj hy
          rw [upd_same, Deaf_own]
          exact hq'
        · rw [Array.getElem?_setIfInBounds_ne hli, Array.getElem?_map] at hy
          obtain ⟨u, hu, rfl⟩ := Option.map_eq_some_iff.1 hy
          have hqu := h.lv l u hl hlj hu
          rw [woken_quitsD hqu, upd_ne q k (Ne.symm hli), Deaf_other t hli _ own_g]
          exact hqu
      · have hli : i ≠ l := by simp at hl; omega
        rw [Deaf_other t hli _ own_g]
        exact h.ab l (by simpa using hl)
      · exact h.tr.mute (by omega) hij own_g hmute

theorem evM_ops {M Sh : Nat → Prop} {g : Nat} {fn : FuncId} {pos : String} {es : Array Event} (h : ∀ e ∈ es, EvM M Sh e) :
    ∀ op ∈ MemOp.ofEvents g fn pos es, op.g = g ∧ ∀ a, op.act.touch? = some a → a.loc.isMemory = true → M (blk a.loc) ∨ (Sh (blk a.loc) ∧ a.write = false) := fun op hop => by
  obtain ⟨e, he, rfl⟩ := mem_ofEv hop
  exact ⟨rfl, fun a ha _ => (h e he).2 a ha⟩
theorem evM_deaf {M Sh : Nat → Prop} {t : Trace} {g : Nat} {fn : FuncId} {pos : String} {es : Array Event} (h : ∀ e ∈ es, EvM M Sh e) : Deaf (t ++ MemOp.ofEvents g fn pos es) g = Deaf t g := by
  rw [Deaf_own]; exact deafBehind_still (fun e he => (h e he).hears) _

/-- A step of goroutine 0's own. -/
theorem Opn.own0 (h : Opn P c Sh j gs a b w t q M0 M1 s tm) {a' : Goroutine} {w' : World} {es : Array Event} (hgo : stepG P true a w = .go a' w' es) (hg : Gu Sh M0 w w' es)
    (kb : ∀ g g' : Goroutine, ∀ w' : World, w'.heap[c]? = some (.chan 0 #[] false s s tm) → woken P g g' w' b = b) :
    ∃ gs' ops, runT P (crowd gs w sl) 0 = (.next (crowd gs' w' sl), ops) ∧ Opn P c Sh j gs' a' b w' (t ++ ops) q (grow M0 w w') M1 s tm ∧ gs'.size = gs.size := by
  have hlt : 0 < gs.size := (Array.getElem?_eq_some_iff.1 h.ga).1
  have hch : w'.heap[c]? = some (.chan 0 #[] false s s tm) := (hg.keep c h.dj.ch.1 (fun hm => (h.dj.m0 c hm).2.1 rfl)).trans h.ch
  refine ⟨_, _, runT_crowd_go (P := P) (sl := sl) (i := 0) h.ga (show stepG P (0 == 0) a w = _ from hgo), ⟨by simp [hlt], ?_, h.hj, h.qj, fun l y hl hlj hy => ?_, fun l hl => ?_, hch, h.dj.grow0 hg.size, ?_⟩, by simp⟩
  · have hne : (0 : Nat) ≠ j := by have := h.hj; omega
    rw [Array.getElem?_setIfInBounds_ne hne, Array.getElem?_map, h.gb, Option.map_some, kb _ _ _ hch]
  · have hne : (0 : Nat) ≠ l := by omega
    rw [Array.getElem?_setIfInBounds_ne hne, Array.getElem?_map] at hy
    obtain ⟨u, hu, rfl⟩ := Option.map_eq_some_iff.1 hy
    have hqu := h.lv l u hl hlj hu
    rw [woken_quitsD hqu, Deaf_other t hne _ own_g]
    exact hqu
  · have hne : (0 : Nat) ≠ l := by simp at hl; omega
    rw [Deaf_other t hne _ own_g]
    exact h.ab l (by simpa using hl)
  · refine h.tr.app (by have := h.hj; omega) hg.size (fun k hk => hk.imp id fun x => x.1) (fun k hk => ?_) h.dj.shc (fun k hk => ⟨(h.dj.m1 k hk).1, fun hm => (h.dj.m0 k hm).2.2.2 hk⟩) h.dj.n1 h.dj.n0 (evM_ops (evM_shc hg.evs c)) (evM_deaf hg.evs)
    rcases hk with hk | hk
    · have := (h.dj.m0 k hk).1; have := hg.size; omega
    · exact hk.2

/-- A step of the sender's own. -/
theorem Opn.own1 (h : Opn P c Sh j gs a b w t q M0 M1 s tm) {b' : Goroutine} {w' : World} {es : Array Event} (hgo : stepG P false b w = .go b' w' es) (hg : Gu Sh M1 w w' es)
    (ka : ∀ g g' : Goroutine, ∀ w' : World, w'.heap[c]? = some (.chan 0 #[] false s s tm) → woken P g g' w' a = a) :
    ∃ gs' ops, runT P (crowd gs w sl) j = (.next (crowd gs' w' sl), ops) ∧ Opn P c Sh j gs' a b' w' (t ++ ops) q M0 (grow M1 w w') s tm ∧ gs'.size = gs.size := by
  have hlt : j < gs.size := (Array.getElem?_eq_some_iff.1 h.gb).1
  have hj0 : (j == 0) = false := by have := h.hj; simp; omega
  have hch : w'.heap[c]? = some (.chan 0 #[] false s s tm) := (hg.keep c h.dj.ch.1 (fun hm => (h.dj.m1 c hm).2.1 rfl)).trans h.ch
  refine ⟨_, _, runT_crowd_go (P := P) (sl := sl) (i := j) h.gb (by rw [hj0]; exact hgo), ⟨?_, by simp [hlt], h.hj, h.qj, fun l y hl hlj hy => ?_, fun l hl => ?_, hch, h.dj.grow1 hg.size, ?_⟩, by simp⟩
  · have hne : j ≠ 0 := by have := h.hj; omega
    rw [Array.getElem?_setIfInBounds_ne hne, Array.getElem?_map, h.ga, Option.map_some, ka _ _ _ hch]
  · have hne : j ≠ l := Ne.symm hlj
    rw [Array.getElem?_setIfInBounds_ne hne, Array.getElem?_map] at hy
    obtain ⟨u, hu, rfl⟩ := Option.map_eq_some_iff.1 hy
    have hqu := h.lv l u hl hlj hu
    rw [woken_quitsD hqu, Deaf_other t hne _ own_g]
    exact hqu
  · have hne : j ≠ l := by simp at hl; omega
    rw [Deaf_other t hne _ own_g]
    exact h.ab l (by simpa using hl)
  · refine (h.tr.flip.app (by have := h.hj; omega) hg.size (fun k hk => hk.imp id fun x => x.1) (fun k hk => ?_) h.dj.shc (fun k hk => ⟨(h.dj.m0 k hk).1, fun hm => (h.dj.m0 k hk).2.2.2 hm⟩) h.dj.n0 h.dj.n1 (evM_ops (evM_shc hg.evs c)) (evM_deaf hg.evs)).flip
    rcases hk with hk | hk
    · have := (h.dj.m1 k hk).1; have := hg.size; omega
    · exact hk.2

/-- What is listed ahead of a communication. -/
theorem Opn.tr0 (h : Opn P c Sh j gs a b w t q M0 M1 s tm) {fn : FuncId} {pos : String} {es : Array Event} (he : ∀ e ∈ es, EvM M0 (ShC Sh c) e) : TwoG (t ++ MemOp.ofEvents 0 fn pos es) 0 j M0 M1 (ShC Sh c) w.heap.size :=
  h.tr.app (by have := h.hj; omega) (Nat.le_refl _) (fun k hk => .inl hk) (fun k hk => (h.dj.m0 k hk).1) h.dj.shc (fun k hk => ⟨(h.dj.m1 k hk).1, fun hm => (h.dj.m0 k hm).2.2.2 hk⟩) h.dj.n1 h.dj.n0 (evM_ops he) (evM_deaf he)
theorem Opn.tr1 (h : Opn P c Sh j gs a b w t q M0 M1 s tm) {fn : FuncId} {pos : String} {es : Array Event} (he : ∀ e ∈ es, EvM M1 (ShC Sh c) e) : TwoG (t ++ MemOp.ofEvents j fn pos es) 0 j M0 M1 (ShC Sh c) w.heap.size :=
  (h.tr.flip.app (by have := h.hj; omega) (Nat.le_refl _) (fun k hk => .inl hk) (fun k hk => (h.dj.m1 k hk).1) h.dj.shc (fun k hk => ⟨(h.dj.m0 k hk).1, fun hm => (h.dj.m0 k hk).2.2.2 hm⟩) h.dj.n0 h.dj.n1 (evM_ops he) (evM_deaf he)).flip

theorem Opn.quiet (h : Opn P c Sh j gs a b w t q M0 M1 s tm) {l : Nat} {y : Goroutine} (hl : 0 < l) (hlj : l ≠ j) (hy : gs[l]? = some y) (r : Nat) (x : Bool) : offersAt y r x = [] :=
  offersAt_of_not_blocked (by rcases (h.lv l y hl hlj hy).status with e | e <;> rw [e] <;> simp) r x

/-- Goroutine 0 comes to receive and waits. -/
theorem Opn.recv_waits (h : Opn P c Sh j gs a b w t q M0 M1 s tm) {g : Goroutine} {z : Value} {es : Array Event} (hcm : stepG P true a w = .comm g #[rcase c z] true (.recv true) w es) (he : ∀ e ∈ es, EvM M0 Sh e) (hb : b.status ≠ .blocked) :
    ∃ gs' ops, runT P (crowd gs w sl) 0 = (.next (crowd gs' w sl), ops) ∧ Opn P c Sh j gs' (parked g #[rcase c z] (.recv true)) b w (t ++ ops) q M0 M1 s tm ∧ gs'.size = gs.size := by
  have hlt : 0 < gs.size := (Array.getElem?_eq_some_iff.1 h.ga).1
  have hp : partners (gs.setIfInBounds 0 ph) c true = [] := partners_nil fun l y hy => by
    by_cases hl : 0 = l
    · subst hl
      rw [Array.getElem?_setIfInBounds_self_of_lt hlt] at hy
      obtain rfl := Option.some.inj hy
      exact offersAt_ph _ _
    · rw [Array.getElem?_setIfInBounds_ne hl] at hy
      by_cases hlj : l = j
      · subst hlj
        have : y = b := Option.some.inj (hy.symm.trans h.gb)
        rw [this]; exact offersAt_of_not_blocked hb _ _
      · exact h.quiet (by omega) hlj hy _ _
  refine ⟨_, _, crowd_waits (P := P) (i := 0) h.ga (show stepG P (0 == 0) a w = _ from hcm) (fun cc hcc => by simp at hcc; subst hcc; exact ways_recv_none h.ch hp), ⟨by simp [hlt], ?_, h.hj, h.qj, fun l y hl hlj hy => ?_, fun l hl => ?_, h.ch, h.dj, h.tr0 (evM_shc he c)⟩, by simp⟩
  · rw [Array.getElem?_setIfInBounds_ne (by have := h.hj; omega)]; exact h.gb
  · rw [Array.getElem?_setIfInBounds_ne (by omega)] at hy
    rw [Deaf_other t (g' := 0) (by omega) _ own_g]
    exact h.lv l y hl hlj hy
  · have hne : (0 : Nat) ≠ l := by simp at hl; omega
    rw [Deaf_other t hne _ own_g]
    exact h.ab l (by simpa using hl)

/-- The sender comes and waits. -/
theorem Opn.send_waits (h : Opn P c Sh j gs a b w t q M0 M1 s tm) {g : Goroutine} {v z : Value} {es : Array Event} (hcm : stepG P false b w = .comm g #[scase c v z] true .send w es) (he : ∀ e ∈ es, EvM M1 Sh e) (ha : a.status ≠ .blocked) :
    ∃ gs' ops, runT P (crowd gs w sl) j = (.next (crowd gs' w sl), ops) ∧ Opn P c Sh j gs' a (parked g #[scase c v z] .send) w (t ++ ops) q M0 M1 s tm ∧ gs'.size = gs.size := by
  have hlt : j < gs.size := (Array.getElem?_eq_some_iff.1 h.gb).1
  have hj0 : (j == 0) = false := by have := h.hj; simp; omega
  have hp : partners (gs.setIfInBounds j ph) c false = [] := partners_nil fun l y hy => by
    by_cases hl : j = l
    · subst hl
      rw [Array.getElem?_setIfInBounds_self_of_lt hlt] at hy
      obtain rfl := Option.some.inj hy
      exact offersAt_ph _ _
    · rw [Array.getElem?_setIfInBounds_ne hl] at hy
      rcases Nat.eq_zero_or_pos l with rfl | hpos
      · have : y = a := Option.some.inj (hy.symm.trans h.ga)
        rw [this]; exact offersAt_of_not_blocked ha _ _
      · exact h.quiet hpos (Ne.symm hl) hy _ _
  refine ⟨_, _, crowd_waits (P := P) (i := j) h.gb (by rw [hj0]; exact hcm) (fun cc hcc => by simp at hcc; subst hcc; exact ways_send_none h.ch (by simp) hp), ⟨?_, by simp [hlt], h.hj, h.qj, fun l y hl hlj hy => ?_, fun l hl => ?_, h.ch, h.dj, h.tr1 (evM_shc he c)⟩, by simp⟩
  · rw [Array.getElem?_setIfInBounds_ne (by have := h.hj; omega)]; exact h.ga
  · rw [Array.getElem?_setIfInBounds_ne (Ne.symm hlj)] at hy
    rw [Deaf_other t (g' := j) (Ne.symm hlj) _ own_g]
    exact h.lv l y hl hlj hy
  · have hne : j ≠ l := by simp at hl; omega
    rw [Deaf_other t hne _ own_g]
    exact h.ab l (by simpa using hl)

theorem finish_send (g : Goroutine) (c : Nat) (v z : Value) : g.finishComm P #[scase c v z] .send 0 undef false = Go.Conc.served g undef := rfl
theorem finish_recv (g : Goroutine) (c : Nat) (z v : Value) : g.finishComm P #[rcase c z] (.recv true) 0 v true = Go.Conc.served g (.tuple #[v, .bool true]) := rfl
theorem finish_shut (g : Goroutine) (c : Nat) (z : Value) : g.finishComm P #[rcase c z] (.recv true) 0 z false = Go.Conc.served g (.tuple #[z, .bool false]) := rfl

theorem Disj.pass {Sh M0 M1 V : Nat → Prop} {c B : Nat} (h : Disj Sh M0 M1 c B) (hV : ∀ k, V k → M1 k) : Disj Sh (fun k => M0 k ∨ V k) (fun k => M1 k ∧ ¬ V k) c B := by
  refine ⟨h.ch, h.sh, fun k hk => ?_, fun k hk => h.m1 k hk.1⟩
  rcases hk with hk | hk
  · obtain ⟨a, b, c, d⟩ := h.m0 k hk
    exact ⟨a, b, c, fun x => d x.1⟩
  · obtain ⟨a, b, c⟩ := h.m1 k (hV k hk)
    exact ⟨a, b, c, fun x => x.2 hk⟩

/-- The state behind a meeting. -/
theorem Opn.met (h : Opn P c Sh j gs a b w t q M0 M1 s tm) {V : Nat → Prop} (hV : ∀ k, V k → M1 k) {a' b' : Goroutine} {gs' : Array Goroutine} {u : Trace} (hu : TwoG (t ++ u) 0 j M0 M1 (ShC Sh c) w.heap.size) (hug : (∀ op ∈ u, op.g = 0) ∨ ∀ op ∈ u, op.g = j)
    (h0 : gs'[0]? = some a') (h1 : gs'[j]? = some b') (hs : gs'.size = gs.size) (ho : ∀ l, l ≠ 0 → l ≠ j → gs'[l]? = gs[l]?) {x0 x1 x2 x3 : MemOp}
    (e0 : x0.g = j ∧ x0.act = .send c s) (e1 : x1.g = 0 ∧ x1.act = .recv c s 0) (e2 : x2.g = j ∧ x2.act = .sendDone c s) (e3 : x3.g = 0 ∧ x3.act = .recvDone c s) :
    Opn P c Sh j gs' a' b' (w.setChan c 0 #[] false (s + 1) (s + 1) tm) (t ++ (u ++ #[x0, x1, x2, x3])) q (fun k => M0 k ∨ V k) (fun k => M1 k ∧ ¬ V k) (s + 1) tm := by
  have hsz : (w.setChan c 0 #[] false (s + 1) (s + 1) tm).heap.size = w.heap.size := by simp [World.setChan]
  have hmem : ∀ op ∈ #[x0, x1, x2, x3], op.g = 0 ∨ op.g = j := fun op hop => by
    rcases (show op = x0 ∨ op = x1 ∨ op = x2 ∨ op = x3 by simpa using hop) with rfl | rfl | rfl | rfl
    · exact .inr e0.1
    · exact .inl e1.1
    · exact .inr e2.1
    · exact .inl e3.1
  have hdeaf : ∀ l, l ≠ 0 → l ≠ j → Deaf (t ++ (u ++ #[x0, x1, x2, x3])) l = Deaf t l := by
    intro l l0 lj
    have hu' : Deaf (t ++ u) l = Deaf t l := by
      rcases hug with hu | hu
      · exact Deaf_other t (g' := 0) (Ne.symm l0) u hu
      · exact Deaf_other t (g' := j) (Ne.symm lj) u hu
    rw [← Array.append_assoc, ← hu']
    refine Deaf_still fun op hop => ?_
    rcases (show op = x0 ∨ op = x1 ∨ op = x2 ∨ op = x3 by simpa using hop) with rfl | rfl | rfl | rfl
    · rw [e0.2]; simp
    · rw [e1.2]; simp
    · rw [e2.2]; simp
    · rw [e3.2]; simp
  refine ⟨h0, h1, h.hj, h.qj, fun l y hl hlj hy => ?_, fun l hl => ?_, ?_, by rw [hsz]; exact h.dj.pass hV, ?_⟩
  · rw [ho l (by omega) hlj] at hy
    rw [hdeaf l (by omega) hlj]
    exact h.lv l y hl hlj hy
  · rw [hs] at hl
    have l0 : l ≠ 0 := by have := (Array.getElem?_eq_some_iff.1 h.ga).1; omega
    have lj : l ≠ j := by have := (Array.getElem?_eq_some_iff.1 h.gb).1; omega
    rw [hdeaf l l0 lj]
    exact h.ab l hl
  · have := h.dj.ch.1
    simp [World.setChan, this]
  · rw [hsz, ← Array.append_assoc]
    exact hu.meets e0 e1 e2 e3 hV

/-- Goroutine 0 comes to receive and finds the sender waiting. -/
theorem Opn.recv_meets {gb : Goroutine} {v zb : Value} (h : Opn P c Sh j gs a (parked gb #[scase c v zb] .send) w t q M0 M1 s tm) {g : Goroutine} {z : Value} {es : Array Event}
    (hcm : stepG P true a w = .comm g #[rcase c z] true (.recv true) w es) (he : ∀ e ∈ es, EvM M0 Sh e) {V : Nat → Prop} (hV : ∀ k, V k → M1 k) :
    ∃ gs' ops, runT P (crowd gs w sl) 0 = (.next (crowd gs' (w.setChan c 0 #[] false (s + 1) (s + 1) tm) sl), ops) ∧
      Opn P c Sh j gs' (Go.Conc.served g (.tuple #[v, .bool true])) (Go.Conc.served gb undef) (w.setChan c 0 #[] false (s + 1) (s + 1) tm) (t ++ ops) q (fun k => M0 k ∨ V k) (fun k => M1 k ∧ ¬ V k) (s + 1) tm := by
  have hlt : 0 < gs.size := (Array.getElem?_eq_some_iff.1 h.ga).1
  have hltj : j < gs.size := (Array.getElem?_eq_some_iff.1 h.gb).1
  have hj := h.hj
  have hgb : (gs.setIfInBounds 0 ph)[j]? = some (parked gb #[scase c v zb] .send) := by rw [Array.getElem?_setIfInBounds_ne (by omega)]; exact h.gb
  have hp : partners (gs.setIfInBounds 0 ph) c true = [(j, 0)] := by
    rw [partners_one hgb fun l y hlj hy => ?_, offersAt_parked_send]
    · simp
    · by_cases hl : 0 = l
      · subst hl
        rw [Array.getElem?_setIfInBounds_self_of_lt hlt] at hy
        obtain rfl := Option.some.inj hy
        exact offersAt_ph _ _
      · rw [Array.getElem?_setIfInBounds_ne hl] at hy
        exact h.quiet (by omega) hlj hy _ _
  have hrun := crowd_recv_meets (P := P) (sl := sl) (i := 0) (j := j) h.ga (show stepG P (0 == 0) a w = _ from hcm) h.ch (by omega) h.gb hp
  refine ⟨_, _, hrun, h.met hV (h.tr0 (evM_shc he c)) (.inl own_g) ?_ ?_ (by simp) (fun l l0 lj => ?_) ⟨rfl, rfl⟩ ⟨rfl, rfl⟩ ⟨rfl, rfl⟩ ⟨rfl, rfl⟩⟩
  · rw [Array.getElem?_setIfInBounds_self_of_lt (by simpa using hlt)]; rfl
  · rw [Array.getElem?_setIfInBounds_ne (by omega), Array.getElem?_setIfInBounds_self_of_lt hltj]; rfl
  · rw [Array.getElem?_setIfInBounds_ne (Ne.symm l0), Array.getElem?_setIfInBounds_ne (Ne.symm lj)]

/-- The sender comes and finds goroutine 0 waiting. -/
theorem Opn.send_meets {ga : Goroutine} {z : Value} (h : Opn P c Sh j gs (parked ga #[rcase c z] (.recv true)) b w t q M0 M1 s tm) {g : Goroutine} {v zb : Value} {es : Array Event}
    (hcm : stepG P false b w = .comm g #[scase c v zb] true .send w es) (he : ∀ e ∈ es, EvM M1 Sh e) {V : Nat → Prop} (hV : ∀ k, V k → M1 k) :
    ∃ gs' ops, runT P (crowd gs w sl) j = (.next (crowd gs' (w.setChan c 0 #[] false (s + 1) (s + 1) tm) sl), ops) ∧
      Opn P c Sh j gs' (Go.Conc.served ga (.tuple #[v, .bool true])) (Go.Conc.served g undef) (w.setChan c 0 #[] false (s + 1) (s + 1) tm) (t ++ ops) q (fun k => M0 k ∨ V k) (fun k => M1 k ∧ ¬ V k) (s + 1) tm := by
  have hlt : 0 < gs.size := (Array.getElem?_eq_some_iff.1 h.ga).1
  have hltj : j < gs.size := (Array.getElem?_eq_some_iff.1 h.gb).1
  have hj := h.hj
  have hj0 : (j == 0) = false := by simp; omega
  have hga : (gs.setIfInBounds j ph)[0]? = some (parked ga #[rcase c z] (.recv true)) := by rw [Array.getElem?_setIfInBounds_ne (by omega)]; exact h.ga
  have hp : partners (gs.setIfInBounds j ph) c false = [(0, 0)] := by
    rw [partners_one hga fun l y hl0 hy => ?_, offersAt_parked_recv]
    · simp
    · by_cases hl : j = l
      · subst hl
        rw [Array.getElem?_setIfInBounds_self_of_lt hltj] at hy
        obtain rfl := Option.some.inj hy
        exact offersAt_ph _ _
      · rw [Array.getElem?_setIfInBounds_ne hl] at hy
        exact h.quiet (by omega) (Ne.symm hl) hy _ _
  have hrun := crowd_send_meets (P := P) (sl := sl) (i := j) (j := 0) h.gb (by rw [hj0]; exact hcm) h.ch (by omega) h.ga hp
  refine ⟨_, _, hrun, h.met hV (h.tr1 (evM_shc he c)) (.inr own_g) ?_ ?_ (by simp) (fun l l0 lj => ?_) ⟨rfl, rfl⟩ ⟨rfl, rfl⟩ ⟨rfl, rfl⟩ ⟨rfl, rfl⟩⟩
  · rw [Array.getElem?_setIfInBounds_ne (by omega), Array.getElem?_setIfInBounds_self_of_lt hlt]; rfl
  · rw [Array.getElem?_setIfInBounds_self_of_lt (by simpa using hltj)]; rfl
  · rw [Array.getElem?_setIfInBounds_ne (Ne.symm lj), Array.getElem?_setIfInBounds_ne (Ne.symm l0)]

end

end Go.Proofs.Ytjphaphnmclbcaa

/- The phase from the go statement to the closed channel found, beside leavers, on whatever tape. No condition. -/
namespace Go.Proofs.Ytjphaphnmclbcaa
open Go Go.Conc Go.ConcN

/-- What goroutine 0 holds of the trace once the channel is closed. -/
structure One (t : Trace) (g1 : Nat) (M0 Sh : Nat → Prop) (B : Nat) : Prop where
  clean : ∀ said, ¬ Race said t
  k0 : KB t 0 g1 M0 Sh B
  d0 : Deaf t 0 = 0

theorem One.app {t u : Trace} {g1 : Nat} {M0 M0' Sh : Nat → Prop} {B B' : Nat} (h : One t g1 M0 Sh B) (hB : B ≤ B') (hnew : ∀ k, M0' k → M0 k ∨ B ≤ k)
    (hu : ∀ op ∈ u, op.g = 0 ∧ ∀ a, op.act.touch? = some a → a.loc.isMemory = true → M0' (blk a.loc) ∨ (Sh (blk a.loc) ∧ a.write = false)) (hd : Deaf (t ++ u) 0 = Deaf t 0) : One (t ++ u) g1 M0' Sh B' := by
  refine ⟨fun said => noRace_append (h.clean said) (fun op hop => (hu op hop).1) fun i a ha op hop b hb hc => ?_, fun i a ha hm => ?_, hd.trans h.d0⟩
  · rcases h.k0 i a ha hc.2.1 with hk | ⟨_, hb', hn, hw⟩
    · exact hk
    · exfalso
      have hl : a.loc = b.loc := hc.1
      rcases (hu op hop).2 b hb (hl ▸ hc.2.1) with hm | ⟨hs, hbw⟩
      · rw [← hl] at hm
        rcases hnew _ hm with hm | hm
        · exact hn hm
        · omega
      · rw [← hl] at hs
        have haw := hw hs
        rcases hc.2.2.1 with hx | hx
        · rw [haw] at hx; cases hx
        · rw [hbw] at hx; cases hx
  · rcases touch_cases ha with ⟨hi, ha'⟩ | ⟨_, x, hx, hxu, _⟩
    · rcases h.k0 i a ha' hm with hk | ⟨hg, hb, hn, hw⟩
      · exact .inl (hk.app u)
      · refine .inr ⟨by rw [g?_old hi]; exact hg, by omega, fun hM => ?_, hw⟩
        rcases hnew _ hM with hM | hM
        · exact hn hM
        · omega
    · have := knows_own hx
      rw [(hu x hxu).1] at this
      exact .inl this

theorem One.mute {t u : Trace} {g1 g : Nat} {M0 Sh : Nat → Prop} {B : Nat} (h : One t g1 M0 Sh B) (n0 : g ≠ 0) (hu : ∀ op ∈ u, op.g = g) (hn : ∀ op ∈ u, op.act.touch? = none) : One (t ++ u) g1 M0 Sh B := by
  refine ⟨fun said => noRace_mute (h.clean said) hn, fun i a ha hm => ?_, (Deaf_other t n0 u hu).trans h.d0⟩
  obtain ⟨hi, ha'⟩ := touch_old_of_mute hn ha
  exact (h.k0 i a ha' hm).imp (·.app _) fun ⟨hg, hb, hn, hw⟩ => ⟨by rw [g?_old hi]; exact hg, hb, hn, hw⟩

theorem One.done {t : Trace} {g1 c : Nat} {M0 Sh : Nat → Prop} {B : Nat} (h : One t g1 M0 Sh B) (hs : Shut t g1 c) {x : MemOp} (hx : x.g = 0 ∧ x.act = .recvClosed c) : Pst (t ++ #[x]) := by
  have hmute : ∀ op ∈ #[x], op.act.touch? = none := by intro op hop; simp at hop; rw [hop, hx.2]; rfl
  have px : (t ++ #[x])[t.size]? = some x := by rw [Array.getElem?_append_right (Nat.le_refl _)]; simp
  refine ⟨fun said => noRace_mute (h.clean said) hmute, fun i a ha hm => ?_, (Deaf_still (by intro op hop; simp at hop; rw [hop, hx.2]; simp)).trans h.d0⟩
  obtain ⟨hi, ha'⟩ := touch_old_of_mute hmute ha
  rcases h.k0 i a ha' hm with hk | ⟨hg, _⟩
  · exact hk.app _
  · obtain ⟨pc, z, hz, hzg, hza, hh, hl⟩ := hs
    have hp := lt_size_of_getElem? hz
    have hz' : (t ++ #[x])[pc]? = some z := by rw [getElem?_append_old hp]; exact hz
    obtain ⟨y, hy, hyg⟩ := Option.map_eq_some_iff.1 hg
    have hy' : (t ++ #[x])[i]? = some y := by rw [getElem?_append_old hi]; exact hy
    have e1 : HappensBefore (t ++ #[x]) i pc := hb_po (hl i a ha' hg) hy' hz' (hyg.trans hzg.symm)
    have e2 : HappensBefore (t ++ #[x]) pc t.size := .single (.inr ⟨.closed (c := c) (by rw [act?_of hz', hza]) (by rw [act?_of px, hx.2]), (heard_old hp).2 hh,
      ⟨0, by simp [Trace.g?, hx.1], by rw [deaf_old (Nat.le_refl _)]; exact h.d0⟩⟩)
    exact ⟨t.size, x, px, hx.1, .inr (e1.trans e2)⟩

section
variable {P : Program} {c : Nat} {Sh : Nat → Prop} {j : Nat} {Fin : Goroutine → World → Prop}

/-- The phase comes to its end. -/
def Concl (P : Program) (Fin : Goroutine → World → Prop) (gs : Array Goroutine) (w : World) (sl : Option (Nat × Nat)) (t : Trace) : Prop :=
  ∃ (N : Nat) (gs' : Array Goroutine) (g' : Goroutine) (w' : World) (sl' : Option (Nat × Nat)) (t' : Trace) (q' : Nat → Nat),
    runNT P N (crowd gs w sl) t = (.next (crowd gs' w' sl'), t') ∧ gs'[0]? = some g' ∧ Fin g' w' ∧ Leavers P t' gs' q' ∧ Pst t'

theorem Concl.step {gs gs' : Array Goroutine} {w w' : World} {sl sl' : Option (Nat × Nat)} {t : Trace} {ops : Array MemOp} (h : stepT P (crowd gs w sl) = (.next (crowd gs' w' sl'), ops)) (hc : Concl P Fin gs' w' sl' (t ++ ops)) : Concl P Fin gs w sl t := by
  obtain ⟨N, gs₂, g₂, w₂, sl₂, t₂, q₂, hr, x⟩ := hc
  exact ⟨N + 1, gs₂, g₂, w₂, sl₂, t₂, q₂, by simp only [runNT, h]; exact hr, x⟩

/-- The machine once the channel is closed. -/
structure Clo (P : Program) (c : Nat) (Sh : Nat → Prop) (j : Nat) (gs : Array Goroutine) (a : Goroutine) (w : World) (t : Trace) (q : Nat → Nat) (M0 : Nat → Prop) (s r : Nat) (tm : Bool) : Prop where
  ga : gs[0]? = some a
  lv : Leavers P t gs q
  ch : w.heap[c]? = some (.chan 0 #[] true s r tm)
  cc : c < w.heap.size
  m0 : ∀ k, M0 k → k < w.heap.size ∧ k ≠ c
  one : One t j M0 (ShC Sh c) w.heap.size
  shut : Shut t j c
  hj : 0 < j

/-- Who moves beside leavers, while goroutine 0 runs: nothing asked of the trace. -/
theorem pick_gen {gs : Array Goroutine} {g : Goroutine} {w : World} {sl : Option (Nat × Nat)} {t : Trace} {q : Nat → Nat} (h0 : gs[0]? = some g) (hrun : g.status = .running) (hL : Leavers P t gs q) :
    (∃ d sl', stepT P (crowd gs w sl) = runT P (crowd gs (w.at d) sl') 0) ∨
    ∃ (d : Nat) (sl' : Option (Nat × Nat)) (gs' : Array Goroutine) (q' : Nat → Nat) (i : Nat) (fn : FuncId) (pos : String) (es : Array Event), stepT P (crowd gs w sl) = (.next (crowd gs' (w.at d) sl'), MemOp.ofEvents i fn pos es) ∧ i ≠ 0 ∧
      (∀ e ∈ es, e.mute = true) ∧ gs'[0]? = some g ∧ Leavers P (t ++ MemOp.ofEvents i fn pos es) gs' q' ∧ Go.ConcN.sumTo gs'.size q' < Go.ConcN.sumTo gs.size q := by
  have haw : ∀ g ∈ gs, awake g := by
    intro x hx
    obtain ⟨i, hi, rfl⟩ := Array.mem_iff_getElem.1 hx
    rcases Nat.eq_zero_or_pos i with rfl | hpos
    · have : gs[0] = g := by simpa [Array.getElem?_eq_getElem hi] using h0
      rw [this]; exact awake_of (.inl hrun)
    · exact awake_of ((hL.old i _ hpos (Array.getElem?_eq_getElem hi)).status.elim .inl fun x => .inr (.inr x))
  obtain ⟨i, x, d, sl', hi, hx, hst⟩ := crowd_pick (P := P) (w := w) (sl := sl) haw ⟨0, g, h0, hrun⟩
  rcases Nat.eq_zero_or_pos i with rfl | hpos
  · exact .inl ⟨d, sl', hst⟩
  · refine .inr ?_
    have hq := hL.old i x hpos hi
    have hi0 : (i == 0) = false := by simp; omega
    have hlt : i < gs.size := (Array.getElem?_eq_some_iff.1 hi).1
    cases hqi : q i with
    | zero => rw [hqi] at hq; rw [hq.1] at hx; cases hx
    | succ k =>
      rw [hqi] at hq
      rcases hq with ⟨hf, _⟩ | ⟨_, g', es, hm, hstp, hq'⟩
      · rw [hf] at hx; cases hx
      have hrunT := runT_crowd_go (P := P) (sl := sl') (i := i) hi (by rw [hi0]; exact hstp (w.at d))
      have hsum : Go.ConcN.sumTo gs.size (upd q i k) + (k + 1) = Go.ConcN.sumTo gs.size q + k := by
        have := sumTo_upd q k id hlt
        simpa [hqi] using this
      refine ⟨d, sl', (gs.map (woken P x g' (w.at d))).setIfInBounds i g', upd q i k, i, _, _, es, hst.trans hrunT, by omega, hm, ?_, leavers_step hL hlt own_g (fun j hj => upd_ne q k hj) (fun _ => ?_), by simp only [Array.size_setIfInBounds, Array.size_map]; omega⟩
      · have hne : i ≠ 0 := by omega
        rw [Array.getElem?_setIfInBounds_ne hne, Array.getElem?_map, h0]
        simp [woken_run hrun]
      · rw [upd_same, Deaf_own]
        exact hq'

theorem Clo.slip {gs gs' : Array Goroutine} {a : Goroutine} {w : World} {t : Trace} {q q' : Nat → Nat} {M0 : Nat → Prop} {s r : Nat} {tm : Bool} (h : Clo P c Sh j gs a w t q M0 s r tm) (d : Nat) {i : Nat} {fn : FuncId} {pos : String} {es : Array Event}
    (hi : i ≠ 0) (hm : ∀ e ∈ es, e.mute = true) (h0 : gs'[0]? = some a) (hL : Leavers P (t ++ MemOp.ofEvents i fn pos es) gs' q') : Clo P c Sh j gs' a (w.at d) (t ++ MemOp.ofEvents i fn pos es) q' M0 s r tm := by
  have hmute : ∀ op ∈ MemOp.ofEvents i fn pos es, op.act.touch? = none := fun op hop => by obtain ⟨e, he, rfl⟩ := mem_ofEv hop; exact touch_mute (hm e he)
  exact ⟨h0, hL, h.ch, h.cc, h.m0, h.one.mute hi own_g hmute, h.shut.app fun op hop => .inr (hmute op hop), h.hj⟩

variable {z : Value}
/-- Where the receiver stands that will find the channel closed. -/
def StEnd (P : Program) (c : Nat) (Sh : Nat → Prop) (z : Value) (Fin : Goroutine → World → Prop) (M : Nat → Prop) (g : Goroutine) (w : World) : Prop :=
  AtRecv0 P c Sh z M g w ∧ ∀ w₂, Rl Sh M w w₂ → Fin (Go.Conc.served (Go.Conc.core g) (.tuple #[z, .bool false])) w₂

theorem AtRecv0.rely {M : Nat → Prop} {g : Goroutine} {w w₁ : World} (h : AtRecv0 P c Sh z M g w) (hr : Rl Sh M w w₁) : AtRecv0 P c Sh z M g w₁ := ⟨h.1, fun w₂ h₂ => h.2 w₂ (hr.trans h₂)⟩
theorem StEnd.rely {M : Nat → Prop} {g : Goroutine} {w w₁ : World} (h : StEnd P c Sh z Fin M g w) (hr : Rl Sh M w w₁) : StEnd P c Sh z Fin M g w₁ := ⟨h.1.rely hr, fun w₂ h₂ => h.2 w₂ (hr.trans h₂)⟩

theorem Clo.recv {gs : Array Goroutine} {g : Goroutine} {w : World} {sl : Option (Nat × Nat)} {t : Trace} {q : Nat → Nat} {M : Nat → Prop} {s r : Nat} {tm : Bool} (hC : Clo P c Sh j gs g w t q M s r tm) (hst : StEnd P c Sh z Fin M g w) :
    ∃ gs' ops, runT P (crowd gs w sl) 0 = (.next (crowd gs' w sl), ops) ∧ gs'[0]? = some (Go.Conc.served (Go.Conc.core g) (.tuple #[z, .bool false])) ∧ Leavers P (t ++ ops) gs' q ∧ Pst (t ++ ops) := by
  obtain ⟨es, hcm, he⟩ := hst.1.2 w (Rl.refl _ _ _)
  have hlt : 0 < gs.size := (Array.getElem?_eq_some_iff.1 hC.ga).1
  have hp : partners (gs.setIfInBounds 0 ph) c true = [] := partners_nil fun l y hy => by
    by_cases hl : 0 = l
    · subst hl
      rw [Array.getElem?_setIfInBounds_self_of_lt hlt] at hy
      obtain rfl := Option.some.inj hy
      exact offersAt_ph _ _
    · rw [Array.getElem?_setIfInBounds_ne hl] at hy
      exact offersAt_of_not_blocked (by rcases (hC.lv.old l y (by omega) hy).status with e | e <;> rw [e] <;> simp) _ _
  have hrun := crowd_recv_closed (P := P) (sl := sl) (i := 0) hC.ga (show stepG P (0 == 0) g w = _ from hcm) hC.ch hp
  have hone : One (t ++ MemOp.ofEvents 0 g.frame.fn g.frame.place es) j M (ShC Sh c) w.heap.size := hC.one.app (Nat.le_refl _) (fun k hk => .inl hk) (evM_ops (evM_shc he c)) (evM_deaf he)
  have hsh : Shut (t ++ MemOp.ofEvents 0 g.frame.fn g.frame.place es) j c := hC.shut.app fun op hop => .inl (by rw [own_g op hop]; have := hC.hj; omega)
  have hug : ∀ op ∈ MemOp.ofEvents 0 g.frame.fn g.frame.place es ++ #[({ g := 0, fn := (Go.Conc.core g).frame.fn, pos := (Go.Conc.core g).frame.place, act := .recvClosed c } : MemOp)], op.g = 0 := fun op hop => by
    rcases Array.mem_append.1 hop with h | h
    · exact own_g op h
    · simp at h; rw [h]
  refine ⟨_, _, hrun, by rw [Array.getElem?_setIfInBounds_self_of_lt hlt]; rfl, ⟨fun l y hl hy => ?_, fun l hl => ?_⟩, ?_⟩
  · rw [Array.getElem?_setIfInBounds_ne (by omega)] at hy
    rw [Deaf_other t (g' := 0) (by omega) _ hug]
    exact hC.lv.old l y hl hy
  · have hne : (0 : Nat) ≠ l := by simp at hl; omega
    rw [Deaf_other t hne _ hug]
    exact hC.lv.above l (by simpa using hl)
  · rw [← Array.append_assoc]
    exact hone.done hsh ⟨rfl, rfl⟩

theorem Clo.own {gs : Array Goroutine} {a a' : Goroutine} {w w' : World} {sl : Option (Nat × Nat)} {t : Trace} {q : Nat → Nat} {M0 : Nat → Prop} {s r : Nat} {tm : Bool} {es : Array Event} (h : Clo P c Sh j gs a w t q M0 s r tm)
    (hgo : stepG P true a w = .go a' w' es) (hg : Gu Sh M0 w w' es) :
    ∃ gs' ops, runT P (crowd gs w sl) 0 = (.next (crowd gs' w' sl), ops) ∧ Clo P c Sh j gs' a' w' (t ++ ops) q (grow M0 w w') s r tm := by
  have hlt : 0 < gs.size := (Array.getElem?_eq_some_iff.1 h.ga).1
  refine ⟨_, _, runT_crowd_go (P := P) (sl := sl) (i := 0) h.ga (show stepG P (0 == 0) a w = _ from hgo), ⟨by simp [hlt], leavers_step h.lv hlt own_g (fun _ _ => rfl) (fun h => by omega), ?_, by have := h.cc; have := hg.size; omega, fun k hk => ?_, h.one.app hg.size (fun k hk => hk.imp id fun x => x.1) (evM_ops (evM_shc hg.evs c)) (evM_deaf hg.evs), h.shut.app fun op hop => .inl (by rw [own_g op hop]; have := h.hj; omega), h.hj⟩⟩
  · exact (hg.keep c h.cc fun hm => (h.m0 c hm).2 rfl).trans h.ch
  · rcases hk with hk | ⟨h1, h2⟩
    · obtain ⟨x, y⟩ := h.m0 k hk
      exact ⟨by have := hg.size; omega, y⟩
    · exact ⟨h2, by have := h.cc; omega⟩

theorem Clo.at {gs : Array Goroutine} {a : Goroutine} {w : World} {t : Trace} {q : Nat → Nat} {M0 : Nat → Prop} {s r : Nat} {tm : Bool} (h : Clo P c Sh j gs a w t q M0 s r tm) (d : Nat) : Clo P c Sh j gs a (w.at d) t q M0 s r tm := ⟨h.ga, h.lv, h.ch, h.cc, h.m0, h.one, h.shut, h.hj⟩

/-- THE CHANNEL IS CLOSED: goroutine 0 goes on, and finds it. -/
theorem clo_concl {M0 : Nat → Prop} {a : Goroutine} {w : World} (hA : CoK P true Sh (StEnd P c Sh z Fin) M0 a w) :
    ∀ (w₁ : World) (gs : Array Goroutine) (sl : Option (Nat × Nat)) (t : Trace) (q : Nat → Nat) (s r : Nat) (tm : Bool), Rl Sh M0 w w₁ → Clo P c Sh j gs a w₁ t q M0 s r tm → Concl P Fin gs w₁ sl t := by
  -- leavers may slip first
  have slip : ∀ {M : Nat → Prop} {g : Goroutine} {w : World}, g.status = .running →
      (∀ (w₁ : World) (gs : Array Goroutine) (sl sl' : Option (Nat × Nat)) (t : Trace) (q : Nat → Nat) (s r : Nat) (tm : Bool) (d : Nat), Rl Sh M w w₁ → Clo P c Sh j gs g w₁ t q M s r tm → stepT P (crowd gs w₁ sl) = runT P (crowd gs (w₁.at d) sl') 0 → Concl P Fin gs w₁ sl t) →
      ∀ (m : Nat) (w₁ : World) (gs : Array Goroutine) (sl : Option (Nat × Nat)) (t : Trace) (q : Nat → Nat) (s r : Nat) (tm : Bool), Go.ConcN.sumTo gs.size q ≤ m → Rl Sh M w w₁ → Clo P c Sh j gs g w₁ t q M s r tm → Concl P Fin gs w₁ sl t := by
    intro M g w hrun hmv m
    induction m with
    | zero =>
      intro w₁ gs sl t q s r tm hm hr hC
      rcases pick_gen (P := P) (w := w₁) (sl := sl) hC.ga hrun hC.lv with ⟨d, sl', hs⟩ | ⟨_, _, _, _, _, _, _, _, _, _, _, _, _, hlt⟩
      · exact hmv w₁ gs sl sl' t q s r tm d hr hC hs
      · omega
    | succ m ih =>
      intro w₁ gs sl t q s r tm hm hr hC
      rcases pick_gen (P := P) (w := w₁) (sl := sl) hC.ga hrun hC.lv with ⟨d, sl', hs⟩ | ⟨d, sl', gs', q', i, fn, pos, es, hs, hi, hmu, h0, hL, hlt⟩
      · exact hmv w₁ gs sl sl' t q s r tm d hr hC hs
      · exact .step hs (ih _ _ _ _ _ _ _ _ (by omega) (hr.trans (Rl.at _ _ _ d)) (hC.slip d hi hmu h0 hL))
  induction hA with
  | @stop M g w hst =>
    refine fun w₁ gs sl t q s r tm => slip hst.1.1 (fun w₁ gs sl sl' t q s r tm d hr hC hs => ?_) _ w₁ gs sl t q s r tm (Nat.le_refl _)
    have hst' := hst.rely (hr.trans (Rl.at _ _ _ d))
    obtain ⟨gs', ops, hrun, h0, hL, hP⟩ := (hC.at d).recv (sl := sl') hst'
    exact ⟨1, gs', _, w₁.at d, sl', t ++ ops, q, by simp only [runNT, hs, hrun], h0, hst'.2 _ (Rl.refl _ _ _), hL, hP⟩
  | @step M g w hs h _ ih =>
    refine fun w₁ gs sl t q s r tm => slip hs (fun w₁ gs sl sl' t q s r tm d hr hC hst => ?_) _ w₁ gs sl t q s r tm (Nat.le_refl _)
    have hr' := hr.trans (Rl.at _ _ _ d)
    obtain ⟨g', w', es, hgo, hg⟩ := h (w₁.at d) hr'
    obtain ⟨gs', ops, hrun, hC'⟩ := (hC.at d).own (sl := sl') hgo hg
    exact .step (hst.trans hrun) (ih (w₁.at d) g' w' es hr' hgo w' gs' sl' _ q s r tm (Rl.refl _ _ _) hC')

end

end Go.Proofs.Ytjphaphnmclbcaa

/- The theorem of the phase: a sender that makes what it sends, a receiver that ranges. No condition. -/
namespace Go.Proofs.Ytjphaphnmclbcaa
open Go Go.Conc Go.ConcN

theorem evM_close (M Sh : Nat → Prop) (c : Nat) : EvM M Sh ⟨.obj c, true, true⟩ := ⟨fun m h => by simp at h, fun a ha => by simp [MemAct.ofEvent, MemAct.touch?] at ha⟩

theorem Gu.rl {Sh M M' : Nat → Prop} {w w' : World} {es : Array Event} (h : Gu Sh M w w' es) (hM : ∀ k, Sh k ∨ M' k → k < w.heap.size ∧ ¬ M k) : Rl Sh M' w w' :=
  ⟨h.os, h.output, h.size, fun k hk => h.keep k (hM k hk).1 (hM k hk).2⟩

section
variable {α : Type} {P : Program} {c : Nat} {Sh : Nat → Prop} {Phi : α → Value → (Nat → Prop) → World → Prop} {z : Value} {Fin : Goroutine → World → Prop} {j : Nat}
variable {gs : Array Goroutine} {a b : Goroutine} {w : World} {t : Trace} {q : Nat → Nat} {M0 M1 : Nat → Prop} {s : Nat} {tm : Bool} {sl : Option (Nat × Nat)}

theorem Opn.rl0 (h : Opn P c Sh j gs a b w t q M0 M1 s tm) {w' : World} {es : Array Event} (hg : Gu Sh M0 w w' es) : Rl Sh M1 w w' := hg.rl fun k hk => by
  rcases hk with hk | hk
  · exact ⟨h.dj.sh k hk, fun hm => (h.dj.m0 k hm).2.2.1 hk⟩
  · exact ⟨(h.dj.m1 k hk).1, fun hm => (h.dj.m0 k hm).2.2.2 hk⟩
theorem Opn.rl1 (h : Opn P c Sh j gs a b w t q M0 M1 s tm) {w' : World} {es : Array Event} (hg : Gu Sh M1 w w' es) : Rl Sh M0 w w' := hg.rl fun k hk => by
  rcases hk with hk | hk
  · exact ⟨h.dj.sh k hk, fun hm => (h.dj.m1 k hm).2.2 hk⟩
  · exact ⟨(h.dj.m0 k hk).1, fun hm => (h.dj.m0 k hk).2.2.2 hm⟩

/-- The channel's block alone has changed. -/
theorem rl_chan {M : Nat → Prop} (h : ∀ k, Sh k ∨ M k → k ≠ c) (w : World) (o : Obj) : Rl Sh M w { w with heap := w.heap.setIfInBounds c o } :=
  ⟨rfl, rfl, by simp, fun k hk => by simp [Array.getElem?_setIfInBounds_ne (Ne.symm (h k hk))]⟩
theorem Opn.chan0 (h : Opn P c Sh j gs a b w t q M0 M1 s tm) (o : Obj) : Rl Sh M0 w { w with heap := w.heap.setIfInBounds c o } :=
  rl_chan (fun k hk e => by subst e; exact hk.elim h.dj.ch.2 fun hm => (h.dj.m0 k hm).2.1 rfl) w o
theorem Opn.chan1 (h : Opn P c Sh j gs a b w t q M0 M1 s tm) (o : Obj) : Rl Sh M1 w { w with heap := w.heap.setIfInBounds c o } :=
  rl_chan (fun k hk e => by subst e; exact hk.elim h.dj.ch.2 fun hm => (h.dj.m1 k hm).2.1 rfl) w o

/-- THE SENDER CLOSES. -/
theorem Opn.close (h : Opn P c Sh j gs a b w t q M0 M1 s tm) (hst : AtShut P c Sh M1 b w) :
    ∃ gs' ops q', runT P (crowd gs w sl) j = (.next (crowd gs' (w.shut c s s tm) sl), ops) ∧ Clo P c Sh j gs' (a.again (w.shut c s s tm)) (w.shut c s s tm) (t ++ ops) q' M0 s s tm := by
  obtain ⟨hrun, hwake, g₂, n, hq, hcl⟩ := hst
  obtain ⟨es, hgo, he⟩ := hcl w s s tm (Rl.refl _ _ _) h.ch
  have hlt : j < gs.size := (Array.getElem?_eq_some_iff.1 h.gb).1
  have hj := h.hj
  have hj0 : (j == 0) = false := by simp; omega
  have hwk : ∀ o, woken P b g₂ (w.shut c s s tm) o = o.again (w.shut c s s tm) := by
    intro o; unfold Go.Conc.woken; rcases hq.status with h | h <;> simp [hwake, h]
  have he' : ∀ e ∈ es.push ⟨.obj c, true, true⟩, EvM M1 (ShC Sh c) e := fun e hx => by
    rcases Array.mem_push.1 hx with hx | rfl
    · exact he e hx
    · exact evM_close _ _ _
  have hT := h.tr1 (fn := b.frame.fn) (pos := b.frame.place) he'
  have hsz : (w.shut c s s tm).heap.size = w.heap.size := by simp [World.shut]
  refine ⟨_, _, upd q j n, runT_crowd_go (P := P) (sl := sl) (i := j) h.gb (by rw [hj0]; exact hgo), ⟨?_, ⟨fun l y hl hy => ?_, fun l hl => ?_⟩, ?_, by rw [hsz]; exact h.dj.ch.1, fun k hk => by rw [hsz]; exact ⟨(h.dj.m0 k hk).1, (h.dj.m0 k hk).2.1⟩, by rw [hsz]; exact ⟨hT.clean, hT.k0, hT.d0⟩, ?_, hj⟩⟩
  · rw [Array.getElem?_setIfInBounds_ne (by omega), Array.getElem?_map, h.ga, Option.map_some, hwk]
  · by_cases hlj : j = l
    · subst hlj
      rw [Array.getElem?_setIfInBounds_self_of_lt (by simpa using hlt)] at hy
      obtain rfl := Option.some.inj hy
      rw [upd_same, hT.d1]
      exact hq
    · rw [Array.getElem?_setIfInBounds_ne hlj, Array.getElem?_map] at hy
      obtain ⟨u, hu, rfl⟩ := Option.map_eq_some_iff.1 hy
      have hqu := h.lv l u hl (Ne.symm hlj) hu
      rw [woken_quitsD hqu, upd_ne q n (Ne.symm hlj), Deaf_other t hlj _ own_g]
      exact hqu
  · have hne : j ≠ l := by simp at hl; omega
    rw [Deaf_other t hne _ own_g]
    exact h.ab l (by simpa using hl)
  · have := h.dj.ch.1
    simp [World.shut, this]
  · rw [ofEvents_push]
    refine Shut.new rfl rfl ?_
    have := h.tr1 (fn := b.frame.fn) (pos := b.frame.place) he
    exact this.d1

def StRecv (P : Program) (c : Nat) (Sh : Nat → Prop) (Phi : α → Value → (Nat → Prop) → World → Prop) (z : Value) (Fin : Goroutine → World → Prop) (x : α) (xs : List α) (M : Nat → Prop) (g : Goroutine) (w : World) : Prop :=
  AtRecv0 P c Sh z M g w ∧ ∀ w₂ v V, Rl Sh M w w₂ → Phi x v V w₂ → (∀ k, V k → ¬ M k ∧ ¬ Sh k ∧ k ≠ c ∧ k < w₂.heap.size) → Rcv P c Sh Phi z Fin xs (fun k => M k ∨ V k) (Go.Conc.served (Go.Conc.core g) (.tuple #[v, .bool true])) w₂

/-- Where the receiver stands that has these to receive. -/
def StA (P : Program) (c : Nat) (Sh : Nat → Prop) (Phi : α → Value → (Nat → Prop) → World → Prop) (z : Value) (Fin : Goroutine → World → Prop) : List α → (Nat → Prop) → Goroutine → World → Prop
  | [] => StEnd P c Sh z Fin
  | x :: xs => StRecv P c Sh Phi z Fin x xs
def StB (P : Program) (c : Nat) (Sh : Nat → Prop) (Phi : α → Value → (Nat → Prop) → World → Prop) : List α → (Nat → Prop) → Goroutine → World → Prop
  | [] => AtShut P c Sh
  | x :: xs => AtSend P c Sh Phi x (Snd P c Sh Phi xs)

theorem rcv_co {xs : List α} {M : Nat → Prop} {g : Goroutine} {w : World} : Rcv P c Sh Phi z Fin xs M g w ↔ CoK P true Sh (StA P c Sh Phi z Fin xs) M g w := by cases xs <;> exact Iff.rfl
theorem snd_co {xs : List α} {M : Nat → Prop} {g : Goroutine} {w : World} : Snd P c Sh Phi xs M g w ↔ CoK P false Sh (StB P c Sh Phi xs) M g w := by cases xs <;> exact Iff.rfl

theorem StA.recv0 {xs : List α} {M : Nat → Prop} {g : Goroutine} {w : World} (h : StA P c Sh Phi z Fin xs M g w) : AtRecv0 P c Sh z M g w := by cases xs <;> exact h.1
theorem StA.rely {xs : List α} {M : Nat → Prop} {g : Goroutine} {w w₁ : World} (h : StA P c Sh Phi z Fin xs M g w) (hr : Rl Sh M w w₁) : StA P c Sh Phi z Fin xs M g w₁ := by
  cases xs with
  | nil => exact StEnd.rely h hr
  | cons x xs => exact ⟨h.1.rely hr, fun w₂ v V h₂ => h.2 w₂ v V (hr.trans h₂)⟩
theorem StB.running {xs : List α} {M : Nat → Prop} {g : Goroutine} {w : World} (h : StB P c Sh Phi xs M g w) : g.status = .running := by cases xs <;> exact h.1
theorem StB.rely (hPhi : ∀ x v V w w₁, (∀ k, V k → w₁.heap[k]? = w.heap[k]?) → Phi x v V w → Phi x v V w₁) {xs : List α} {M : Nat → Prop} {g : Goroutine} {w w₁ : World} (h : StB P c Sh Phi xs M g w) (hr : Rl Sh M w w₁) : StB P c Sh Phi xs M g w₁ := by
  cases xs with
  | nil =>
    obtain ⟨h1, h2, g₂, n, h3, h4⟩ := h
    exact ⟨h1, h2, g₂, n, h3, fun w₂ s r tm h₂ => h4 w₂ s r tm (hr.trans h₂)⟩
  | cons x xs =>
    obtain ⟨h1, g₂, v, z, V, h2, h3, h4, h5⟩ := h
    exact ⟨h1, g₂, v, z, V, fun w₂ h₂ => h2 w₂ (hr.trans h₂), h3, hPhi _ _ _ _ _ (fun k hk => hr.keep k (.inr (h3 k hk))) h4, fun w₂ h₂ => h5 w₂ ((hr.mono fun k hk => hk.1).trans h₂)⟩

theorem CoK.running {main : Bool} {Stop : (Nat → Prop) → Goroutine → World → Prop} (hS : ∀ M g w, Stop M g w → g.status = .running) {M : Nat → Prop} {g : Goroutine} {w : World} (h : CoK P main Sh Stop M g w) : g.status = .running := by
  cases h with
  | stop h => exact hS _ _ _ h
  | step hs _ _ => exact hs

theorem kept_running {a : Goroutine} (h : a.status = .running) (g g' : Goroutine) (w' : World) (_ : w'.heap[c]? = some (.chan 0 #[] false s s tm)) : woken P g g' w' a = a := Go.Conc.woken_running h
theorem kept_parked {g₀ : Goroutine} {k : CommCase} {sh : CommShape} (hk : k.chan = .chan (some c)) (g g' : Goroutine) (w' : World) (hc : w'.heap[c]? = some (.chan 0 #[] false s s tm)) : woken P g g' w' (parked g₀ #[k] sh) = parked g₀ #[k] sh := by
  unfold Go.Conc.woken
  split
  · exact again_parked_open hk hc
  · rfl

/-- Leavers may slip first. -/
theorem Opn.slip {Inv : World → Prop} (hInv : ∀ w d, Inv w → Inv (w.at d)) (ha : a.status = .running ∨ a.status = .blocked) (hb : b.status = .running ∨ b.status = .blocked) (hone : a.status = .running ∨ b.status = .running)
    (ka : ∀ g g' : Goroutine, ∀ w' : World, w'.heap[c]? = some (.chan 0 #[] false s s tm) → woken P g g' w' a = a) (kb : ∀ g g' : Goroutine, ∀ w' : World, w'.heap[c]? = some (.chan 0 #[] false s s tm) → woken P g g' w' b = b)
    (mvA : a.status = .running → ∀ (w : World) (gs : Array Goroutine) (sl sl' : Option (Nat × Nat)) (t : Trace) (q : Nat → Nat) (d : Nat), Inv (w.at d) → Opn P c Sh j gs a b (w.at d) t q M0 M1 s tm → stepT P (crowd gs w sl) = runT P (crowd gs (w.at d) sl') 0 → Concl P Fin gs w sl t)
    (mvB : b.status = .running → ∀ (w : World) (gs : Array Goroutine) (sl sl' : Option (Nat × Nat)) (t : Trace) (q : Nat → Nat) (d : Nat), Inv (w.at d) → Opn P c Sh j gs a b (w.at d) t q M0 M1 s tm → stepT P (crowd gs w sl) = runT P (crowd gs (w.at d) sl') j → Concl P Fin gs w sl t) :
    ∀ (m : Nat) (w : World) (gs : Array Goroutine) (sl : Option (Nat × Nat)) (t : Trace) (q : Nat → Nat), Go.ConcN.sumTo gs.size q ≤ m → Inv w → Opn P c Sh j gs a b w t q M0 M1 s tm → Concl P Fin gs w sl t := by
  intro m
  induction m with
  | zero =>
    intro w gs sl t q hm hI hO
    rcases hO.pick (sl := sl) ha hb hone (fun g g' w' e => ka g g' w' (by rw [e]; exact hO.ch)) (fun g g' w' e => kb g g' w' (by rw [e]; exact hO.ch)) with ⟨hr, d, sl', hs⟩ | ⟨hr, d, sl', hs⟩ | ⟨_, _, _, _, _, _, _, hlt⟩
    · exact mvA hr w gs sl sl' t q d (hInv _ _ hI) (hO.at d) hs
    · exact mvB hr w gs sl sl' t q d (hInv _ _ hI) (hO.at d) hs
    · omega
  | succ m ih =>
    intro w gs sl t q hm hI hO
    rcases hO.pick (sl := sl) ha hb hone (fun g g' w' e => ka g g' w' (by rw [e]; exact hO.ch)) (fun g g' w' e => kb g g' w' (by rw [e]; exact hO.ch)) with ⟨hr, d, sl', hs⟩ | ⟨hr, d, sl', hs⟩ | ⟨d, sl', gs', q', ops, hs, hO', hlt⟩
    · exact mvA hr w gs sl sl' t q d (hInv _ _ hI) (hO.at d) hs
    · exact mvB hr w gs sl sl' t q d (hInv _ _ hI) (hO.at d) hs
    · exact .step hs (ih _ _ _ _ _ (by omega) (hInv _ _ hI) hO')

/-- What follows a meeting. -/
def Later (P : Program) (c : Nat) (Sh : Nat → Prop) (Phi : α → Value → (Nat → Prop) → World → Prop) (z : Value) (Fin : Goroutine → World → Prop) (j : Nat) (xs : List α) : Prop :=
  ∀ x xs', xs = x :: xs' → ∀ (gs : Array Goroutine) (a b : Goroutine) (w : World) (sl : Option (Nat × Nat)) (t : Trace) (q : Nat → Nat) (M0 M1 : Nat → Prop) (s : Nat) (tm : Bool), Opn P c Sh j gs a b w t q M0 M1 s tm →
    Rcv P c Sh Phi z Fin xs' M0 a w → Snd P c Sh Phi xs' M1 b w → Concl P Fin gs w sl t

theorem Opn.taken (h : Opn P c Sh j gs a b w t q M0 M1 s tm) {V : Nat → Prop} (hV : ∀ k, V k → M1 k) (k : Nat) (hk : V k) (o : Obj) : ¬ M0 k ∧ ¬ Sh k ∧ k ≠ c ∧ k < ({ w with heap := w.heap.setIfInBounds c o } : World).heap.size := by
  obtain ⟨x, y, u⟩ := h.dj.m1 k (hV k hk)
  exact ⟨fun hm => (h.dj.m0 k hm).2.2.2 (hV k hk), u, y, by simpa using x⟩

/-- Goroutine 0 waits; the sender is under way. -/
theorem phase1 (hPhi : ∀ x v V w w₁, (∀ k, V k → w₁.heap[k]? = w.heap[k]?) → Phi x v V w → Phi x v V w₁) {xs : List α} (IH : Later P c Sh Phi z Fin j xs) {M1 : Nat → Prop} {b : Goroutine} {wB : World} (hB : CoK P false Sh (StB P c Sh Phi xs) M1 b wB) :
    ∀ (w : World) (gs : Array Goroutine) (sl : Option (Nat × Nat)) (t : Trace) (q : Nat → Nat) (M0 : Nat → Prop) (s : Nat) (tm : Bool) (g : Goroutine), Rl Sh M1 wB w → StA P c Sh Phi z Fin xs M0 g w →
      Opn P c Sh j gs (parked (Go.Conc.core g) #[rcase c z] (.recv true)) b w t q M0 M1 s tm → Concl P Fin gs w sl t := by
  have blocked : ∀ (g : Goroutine), (parked (Go.Conc.core g) #[rcase c z] (.recv true)).status = .blocked := fun _ => rfl
  induction hB with
  | @stop M1 b wB hst =>
    intro w gs sl t q M0 s tm g hr hA hO
    have hrun := hst.running
    refine Opn.slip (Inv := fun w => Rl Sh M1 wB w ∧ StA P c Sh Phi z Fin xs M0 g w) (fun w d h => ⟨h.1.trans (Rl.at _ _ _ d), h.2.rely (Rl.at _ _ _ d)⟩) (.inr rfl) (.inl hrun) (.inr hrun)
      (fun g g' w' hc => kept_parked rfl g g' w' hc) (kept_running hrun) (fun h => by rw [blocked] at h; cases h) (fun _ w gs sl sl' t q d hI hO hs => ?_) _ w gs sl t q (Nat.le_refl _) ⟨hr, hA⟩ hO
    obtain ⟨hr, hA⟩ := hI
    have hst' := hst.rely hPhi hr
    cases xs with
    | nil =>
      obtain ⟨gs', ops, q', hrn, hC⟩ := hO.close (sl := sl') hst'
      have ea : (parked (Go.Conc.core g) #[rcase c z] (.recv true)).again ((w.at d).shut c s s tm) = { parked (Go.Conc.core g) #[rcase c z] (.recv true) with status := .running } := again_parked_shut rfl hC.ch
      rw [ea] at hC
      have hA' : StEnd P c Sh z Fin M0 g ((w.at d).shut c s s tm) := StEnd.rely hA (hO.chan0 _)
      refine .step (hs.trans hrn) (clo_concl (z := z) (.stop ?_) _ gs' sl' _ q' s s tm (Rl.refl _ _ _) hC)
      refine ⟨⟨rfl, fun w₁ h₁ => ?_⟩, hA'.2⟩
      obtain ⟨es, h1, h2⟩ := hA'.1.2 w₁ h₁
      exact ⟨es, (stepG_same rfl rfl rfl w₁).trans h1, h2⟩
    | cons x xs =>
      obtain ⟨_, g₂, v, z', V, hcm, hV, hP, hn⟩ := hst'
      obtain ⟨es, hcm, he⟩ := hcm _ (Rl.refl _ _ _)
      obtain ⟨gs', ops, hrn, hO'⟩ := hO.send_meets (sl := sl') hcm he hV
      refine .step (hs.trans hrn) (IH x xs rfl _ _ _ _ _ _ _ _ _ _ _ hO' (hA.2 _ v V (hO.chan0 _) (hPhi _ _ _ _ _ (fun k hk => ?_) hP) (fun k hk => hO.taken hV k hk _)) (hn _ ((hO.chan1 _).mono fun k hk => hk.1)))
      exact (hO.chan1 _).keep k (.inr (hV k hk))
  | @step M1 b wB hs h _ ih =>
    intro w gs sl t q M0 s tm g hr hA hO
    refine Opn.slip (Inv := fun w => Rl Sh M1 wB w ∧ StA P c Sh Phi z Fin xs M0 g w) (fun w d h => ⟨h.1.trans (Rl.at _ _ _ d), h.2.rely (Rl.at _ _ _ d)⟩) (.inr rfl) (.inl hs) (.inr hs)
      (fun g g' w' hc => kept_parked rfl g g' w' hc) (kept_running hs) (fun h => by rw [blocked] at h; cases h) (fun _ w gs sl sl' t q d hI hO hst => ?_) _ w gs sl t q (Nat.le_refl _) ⟨hr, hA⟩ hO
    obtain ⟨hr, hA⟩ := hI
    obtain ⟨b', w', es, hgo, hg⟩ := h _ hr
    obtain ⟨gs', ops, hrn, hO', _⟩ := hO.own1 (sl := sl') hgo hg (fun g g' w' hc => kept_parked rfl g g' w' hc)
    exact .step (hst.trans hrn) (ih _ b' w' es hr hgo w' gs' sl' _ q M0 s tm g (Rl.refl _ _ _) (hA.rely (hO.rl1 hg)) hO')

/-- The sender waits; goroutine 0 is under way. -/
theorem phase2 (hPhi : ∀ x v V w w₁, (∀ k, V k → w₁.heap[k]? = w.heap[k]?) → Phi x v V w → Phi x v V w₁) {x : α} {xs : List α} (IH : Later P c Sh Phi z Fin j (x :: xs)) {M0 : Nat → Prop} {a : Goroutine} {wA : World} (hA : CoK P true Sh (StA P c Sh Phi z Fin (x :: xs)) M0 a wA) :
    ∀ (w : World) (gs : Array Goroutine) (sl : Option (Nat × Nat)) (t : Trace) (q : Nat → Nat) (M1 : Nat → Prop) (s : Nat) (tm : Bool) (g : Goroutine) (v z' : Value) (V : Nat → Prop), Rl Sh M0 wA w → (∀ k, V k → M1 k) → Phi x v V w →
      (∀ w₂, Rl Sh (fun k => M1 k ∧ ¬ V k) w w₂ → Snd P c Sh Phi xs (fun k => M1 k ∧ ¬ V k) (Go.Conc.served g undef) w₂) →
      Opn P c Sh j gs a (parked g #[scase c v z'] .send) w t q M0 M1 s tm → Concl P Fin gs w sl t := by
  have blocked : ∀ (g : Goroutine) (v z' : Value), (parked g #[scase c v z'] .send).status = .blocked := fun _ _ _ => rfl
  induction hA with
  | @stop M0 a wA hst =>
    intro w gs sl t q M1 s tm g v z' V hr hV hP hn hO
    have hrun := hst.recv0.1
    refine Opn.slip (Inv := fun w => Rl Sh M0 wA w ∧ Phi x v V w ∧ ∀ w₂, Rl Sh (fun k => M1 k ∧ ¬ V k) w w₂ → Snd P c Sh Phi xs (fun k => M1 k ∧ ¬ V k) (Go.Conc.served g undef) w₂)
      (fun w d h => ⟨h.1.trans (Rl.at _ _ _ d), hPhi x v V w (w.at d) (fun _ _ => rfl) h.2.1, fun w₂ h₂ => h.2.2 w₂ ((Rl.at _ _ _ d).trans h₂)⟩) (.inl hrun) (.inr rfl) (.inl hrun)
      (kept_running hrun) (fun g g' w' hc => kept_parked rfl g g' w' hc) (fun _ w gs sl sl' t q d hI hO hs => ?_) (fun h => by rw [blocked] at h; cases h) _ w gs sl t q (Nat.le_refl _) ⟨hr, hP, hn⟩ hO
    obtain ⟨hr, hP, hn⟩ := hI
    have hst' := hst.rely hr
    obtain ⟨es, hcm, he⟩ := hst'.recv0.2 _ (Rl.refl _ _ _)
    obtain ⟨gs', ops, hrn, hO'⟩ := hO.recv_meets (sl := sl') hcm he hV
    refine .step (hs.trans hrn) (IH x xs rfl _ _ _ _ _ _ _ _ _ _ _ hO' (hst'.2 _ v V (hO.chan0 _) (hPhi _ _ _ _ _ (fun k hk => ?_) hP) (fun k hk => hO.taken hV k hk _)) (hn _ ((hO.chan1 _).mono fun k hk => hk.1)))
    exact (hO.chan1 _).keep k (.inr (hV k hk))
  | @step M0 a wA hs h _ ih =>
    intro w gs sl t q M1 s tm g v z' V hr hV hP hn hO
    refine Opn.slip (Inv := fun w => Rl Sh M0 wA w ∧ Phi x v V w ∧ ∀ w₂, Rl Sh (fun k => M1 k ∧ ¬ V k) w w₂ → Snd P c Sh Phi xs (fun k => M1 k ∧ ¬ V k) (Go.Conc.served g undef) w₂)
      (fun w d h => ⟨h.1.trans (Rl.at _ _ _ d), hPhi x v V w (w.at d) (fun _ _ => rfl) h.2.1, fun w₂ h₂ => h.2.2 w₂ ((Rl.at _ _ _ d).trans h₂)⟩) (.inl hs) (.inr rfl) (.inl hs)
      (kept_running hs) (fun g g' w' hc => kept_parked rfl g g' w' hc) (fun _ w gs sl sl' t q d hI hO hst => ?_) (fun h => by rw [blocked] at h; cases h) _ w gs sl t q (Nat.le_refl _) ⟨hr, hP, hn⟩ hO
    obtain ⟨hr, hP, hn⟩ := hI
    obtain ⟨a', w', es, hgo, hg⟩ := h _ hr
    obtain ⟨gs', ops, hrn, hO', _⟩ := hO.own0 (sl := sl') hgo hg (fun g g' w' hc => kept_parked rfl g g' w' hc)
    have hrl := hO.rl0 hg
    exact .step (hst.trans hrn) (ih _ a' w' es hr hgo w' gs' sl' _ q M1 s tm g v z' V (Rl.refl _ _ _) hV (hPhi _ _ _ _ _ (fun k hk => hrl.keep k (.inr (hV k hk))) hP) (fun w₂ h₂ => hn w₂ ((hrl.mono fun k hk => hk.1).trans h₂)) hO')

theorem phase_inner (hPhi : ∀ x v V w w₁, (∀ k, V k → w₁.heap[k]? = w.heap[k]?) → Phi x v V w → Phi x v V w₁) {xs : List α} (IH : Later P c Sh Phi z Fin j xs) {M0 : Nat → Prop} {a : Goroutine} {wA : World} (hA : CoK P true Sh (StA P c Sh Phi z Fin xs) M0 a wA)
    (mvA : ∀ {M1 : Nat → Prop} {b : Goroutine} {wB : World}, CoK P false Sh (StB P c Sh Phi xs) M1 b wB → ∀ (w : World) (gs : Array Goroutine) (sl sl' : Option (Nat × Nat)) (t : Trace) (q : Nat → Nat) (s : Nat) (tm : Bool) (d : Nat), Rl Sh M0 wA (w.at d) → Rl Sh M1 wB (w.at d) →
      Opn P c Sh j gs a b (w.at d) t q M0 M1 s tm → stepT P (crowd gs w sl) = runT P (crowd gs (w.at d) sl') 0 → Concl P Fin gs w sl t) :
    ∀ {M1 : Nat → Prop} {b : Goroutine} {wB : World}, CoK P false Sh (StB P c Sh Phi xs) M1 b wB → ∀ (w : World) (gs : Array Goroutine) (sl : Option (Nat × Nat)) (t : Trace) (q : Nat → Nat) (s : Nat) (tm : Bool), Rl Sh M0 wA w → Rl Sh M1 wB w →
      Opn P c Sh j gs a b w t q M0 M1 s tm → Concl P Fin gs w sl t := by
  have relA : ∀ M g w w₁, StA P c Sh Phi z Fin xs M g w → Rl Sh M w w₁ → StA P c Sh Phi z Fin xs M g w₁ := fun _ _ _ _ h hr => h.rely hr
  have hra : a.status = .running := hA.running fun _ _ _ h => h.recv0.1
  intro M1 b wB hB
  induction hB with
  | @stop M1 b wB hstB =>
    intro w gs sl t q s tm hr hrB hO
    have hrb := hstB.running
    refine Opn.slip (Inv := fun w => Rl Sh M0 wA w ∧ Rl Sh M1 wB w) (fun w d h => ⟨h.1.trans (Rl.at _ _ _ d), h.2.trans (Rl.at _ _ _ d)⟩) (.inl hra) (.inl hrb) (.inl hra) (kept_running hra) (kept_running hrb)
      (fun _ w gs sl sl' t q d hI hO hs => mvA (.stop hstB) w gs sl sl' t q s tm d hI.1 hI.2 hO hs) (fun _ w gs sl sl' t q d hI hO hs => ?_) _ w gs sl t q (Nat.le_refl _) ⟨hr, hrB⟩ hO
    have hst' := hstB.rely hPhi hI.2
    cases xs with
    | nil =>
      obtain ⟨gs', ops, q', hrn, hC⟩ := hO.close (sl := sl') hst'
      have ea : a.again ((w.at d).shut c s s tm) = a := again_running _ (.inl hra)
      rw [ea] at hC
      exact .step (hs.trans hrn) (clo_concl (z := z) hA _ gs' sl' _ q' s s tm (hI.1.trans (hO.chan0 _)) hC)
    | cons x xs =>
      obtain ⟨_, g₂, v, z', V, hcm, hV, hP, hn⟩ := hst'
      obtain ⟨es, hcm, he⟩ := hcm _ (Rl.refl _ _ _)
      obtain ⟨gs', ops, hrn, hO', _⟩ := hO.send_waits (sl := sl') hcm he (by rw [hra]; simp)
      exact .step (hs.trans hrn) (phase2 hPhi IH hA _ gs' sl' _ q M1 s tm g₂ v z' V hI.1 hV hP hn hO')
  | @step M1 b wB hs h hk ih =>
    intro w gs sl t q s tm hr hrB hO
    refine Opn.slip (Inv := fun w => Rl Sh M0 wA w ∧ Rl Sh M1 wB w) (fun w d h => ⟨h.1.trans (Rl.at _ _ _ d), h.2.trans (Rl.at _ _ _ d)⟩) (.inl hra) (.inl hs) (.inl hra) (kept_running hra) (kept_running hs)
      (fun _ w gs sl sl' t q d hI hO hst => mvA (.step hs h hk) w gs sl sl' t q s tm d hI.1 hI.2 hO hst) (fun _ w gs sl sl' t q d hI hO hst => ?_) _ w gs sl t q (Nat.le_refl _) ⟨hr, hrB⟩ hO
    obtain ⟨b', w', es, hgo, hg⟩ := h _ hI.2
    obtain ⟨gs', ops, hrn, hO', _⟩ := hO.own1 (sl := sl') hgo hg (kept_running hra)
    exact .step (hst.trans hrn) (ih _ b' w' es hI.2 hgo w' gs' sl' _ q s tm (hI.1.trans (hO.rl1 hg)) (Rl.refl _ _ _) hO')

/-- Both are under way. -/
theorem phase3 (hPhi : ∀ x v V w w₁, (∀ k, V k → w₁.heap[k]? = w.heap[k]?) → Phi x v V w → Phi x v V w₁) {xs : List α} (IH : Later P c Sh Phi z Fin j xs) {M0 : Nat → Prop} {a : Goroutine} {wA : World} (hA : CoK P true Sh (StA P c Sh Phi z Fin xs) M0 a wA) :
    ∀ {M1 : Nat → Prop} {b : Goroutine} {wB : World}, CoK P false Sh (StB P c Sh Phi xs) M1 b wB → ∀ (w : World) (gs : Array Goroutine) (sl : Option (Nat × Nat)) (t : Trace) (q : Nat → Nat) (s : Nat) (tm : Bool), Rl Sh M0 wA w → Rl Sh M1 wB w →
      Opn P c Sh j gs a b w t q M0 M1 s tm → Concl P Fin gs w sl t := by
  have relB : ∀ M g w w₁, StB P c Sh Phi xs M g w → Rl Sh M w w₁ → StB P c Sh Phi xs M g w₁ := fun _ _ _ _ h hr => h.rely hPhi hr
  induction hA with
  | @stop M0 a wA hstA =>
    refine fun {M1 b wB} hB => phase_inner hPhi IH (.stop hstA) (fun {M1 b wB} hB w gs sl sl' t q s tm d hr hrB hO hs => ?_) hB
    have hrb : b.status = .running := hB.running fun _ _ _ h => h.running
    obtain ⟨es, hcm, he⟩ := (hstA.rely hr).recv0.2 _ (Rl.refl _ _ _)
    obtain ⟨gs', ops, hrn, hO', _⟩ := hO.recv_waits (sl := sl') hcm he (by rw [hrb]; simp)
    exact .step (hs.trans hrn) (phase1 hPhi IH hB _ gs' sl' _ q M0 s tm a hrB (hstA.rely hr) hO')
  | @step M0 a wA hs h hk ih =>
    refine fun {M1 b wB} hB => phase_inner hPhi IH (.step hs h hk) (fun {M1 b wB} hB w gs sl sl' t q s tm d hr hrB hO hst => ?_) hB
    have hrb : b.status = .running := hB.running fun _ _ _ h => h.running
    obtain ⟨a', w', es, hgo, hg⟩ := h _ hr
    obtain ⟨gs', ops, hrn, hO', _⟩ := hO.own0 (sl := sl') hgo hg (kept_running hrb)
    exact .step (hst.trans hrn) (ih _ a' w' es hr hgo hB w' gs' sl' _ q s tm (Rl.refl _ _ _) (hrB.trans (hO.rl0 hg)) hO')

/-- THE THEOREM: a sender that makes what it sends, and a receiver that ranges, come to the end. -/
theorem phase (hPhi : ∀ x v V w w₁, (∀ k, V k → w₁.heap[k]? = w.heap[k]?) → Phi x v V w → Phi x v V w₁) : ∀ (xs : List α) {gs : Array Goroutine} {a b : Goroutine} {w : World} {sl : Option (Nat × Nat)} {t : Trace} {q : Nat → Nat} {M0 M1 : Nat → Prop} {s : Nat} {tm : Bool},
    Opn P c Sh j gs a b w t q M0 M1 s tm → Rcv P c Sh Phi z Fin xs M0 a w → Snd P c Sh Phi xs M1 b w → Concl P Fin gs w sl t
  | [], gs, a, b, w, sl, t, q, M0, M1, s, tm, hO, hA, hB => phase3 hPhi (fun x xs e => by cases e) (rcv_co.1 hA) (snd_co.1 hB) w gs sl t q s tm (Rl.refl _ _ _) (Rl.refl _ _ _) hO
  | x :: xs, gs, a, b, w, sl, t, q, M0, M1, s, tm, hO, hA, hB =>
    phase3 hPhi (fun y ys e => by cases e; exact fun gs a b w sl t q M0 M1 s tm hO hA hB => phase hPhi xs hO hA hB) (rcv_co.1 hA) (snd_co.1 hB) w gs sl t q s tm (Rl.refl _ _ _) (Rl.refl _ _ _) hO

end

end Go.Proofs.Ytjphaphnmclbcaa

/- Pieces of code, operations and calls of one of the two goroutines under way, whatever family of scripts the walk belongs to: rules. No condition. -/
namespace Go.Proofs.Ytjphaphnmclbcaa
open Go Go.Conc

theorem grow_self (M : Nat → Prop) (w w' : World) (h : w'.heap.size = w.heap.size) : grow M w w' = M := by
  funext k
  apply propext
  unfold grow
  constructor
  · rintro (h | ⟨h1, h2⟩)
    · exact h
    · omega
  · exact .inl

/-- What a walk bears with it: where its script stands, and the blocks of its own. -/
abbrev Gh (ι : Type) : Type := ι × (Nat → Prop)

/-- A family of scripts that bears one's own steps and the others' doing. -/
structure Fam (P : Program) (main : Bool) (Sh : Nat → Prop) {ι : Type} (C : Gh ι → Goroutine → World → Prop) : Prop where
  step : ∀ {M : Gh ι} {g : Goroutine} {w : World}, g.status = .running → (∀ w₁, Rl Sh M.2 w w₁ → ∃ g' w' es, stepG P main g w₁ = .go g' w' es ∧ Gu Sh M.2 w₁ w' es) →
    (∀ w₁ g' w' es, Rl Sh M.2 w w₁ → stepG P main g w₁ = .go g' w' es → C (M.1, grow M.2 w₁ w') g' w') → C M g w
  rely : ∀ {M : Gh ι} {g : Goroutine} {w w₁ : World}, C M g w → Rl Sh M.2 w w₁ → C M g w₁

section
variable {P : Program} {main : Bool} {Sh : Nat → Prop} {ι : Type} {C : Gh ι → Goroutine → World → Prop}

def AfterC {ι : Type} (C : Gh ι → Goroutine → World → Prop) (b : Frame) (k : List Item) (cs : List Frame) : Exit → Act → World → Gh ι → Prop
  | .normal, a, w, M => C M (G (b.at a k) cs) w
  | .exit id, a, w, M => ∃ k', exitTo id k = some k' ∧ C M (G (b.at a k') cs) w
  | .ret, a, w, M => ∀ todo, C M (G { b.at a todo with mode := .returning } cs) w
  | _, _, _, _ => False

def WpC {ι : Type} (C : Gh ι → Goroutine → World → Prop) (fn : FuncId) (c : Code) (Q : Exit → Act → World → Gh ι → Prop) (a : Act) (w : World) (M : Gh ι) : Prop :=
  ∀ (b : Frame) (k : List Item) (cs : List Frame), b.fn = fn → b.kind ≠ .early →
    (∀ e a' w' M', Q e a' w' M' → AfterC C b k cs e a' w' M') → C M (G (b.at a (.code c :: k)) cs) w

def OpsC {ι : Type} (C : Gh ι → Goroutine → World → Prop) (fn : FuncId) (ops : Array Oper) (todo : List Nat) (Q : Exit → Act → World → Gh ι → Prop) (a : Act) (w : World) (M : Gh ι) : Prop :=
  ∀ (b : Frame) (k : List Item) (cs : List Frame), b.fn = fn → b.kind ≠ .early →
    (∀ e a' w' M', Q e a' w' M' → AfterC C b k cs e a' w' M') → C M (G (b.at a (.inRegion ops todo :: k)) cs) w

def CallsC (P : Program) {ι : Type} (C : Gh ι → Goroutine → World → Prop) (f : FuncId) (args : Array Value) (w : World) (M : Gh ι) (R : Value → World → Gh ι → Prop) : Prop :=
  ∀ (c : Frame) (cs : List Frame), (∀ v w' M', R v w' M' → C M' (G (c.finish v) cs) w') → C M (G (Frame.enter P f args .normal) (c :: cs)) w

theorem Fam.ctl (hS : Fam P main Sh C) {g g' : Goroutine} {w : World} {M : Gh ι} (hs : g.status = .running) (h : ∀ w, stepG P main g w = .go g' w) (hT : C M g' w) : C M g w :=
  hS.step hs (fun w₁ _ => ⟨_, _, _, h w₁, rfl, rfl, Nat.le_refl _, fun _ _ _ => rfl, by simp⟩) fun w₁ g₂ w₂ es h₁ h₂ => by
    rw [h w₁] at h₂; cases h₂; rw [grow_self M.2 w₁ w₁ rfl]; exact hS.rely hT h₁

theorem AfterC.push {b : Frame} {x : Item} {k : List Item} {cs : List Frame} {e : Exit} {a : Act} {w : World} {M : Gh ι} (hx : x.plain = true) (he : e ≠ .normal) (h : AfterC C b k cs e a w M) : AfterC C b (x :: k) cs e a w M := by
  cases e with
  | normal => exact absurd rfl he
  | exit id => obtain ⟨k', hk, hg⟩ := h; exact ⟨k', by cases x <;> simp_all [exitTo, Item.plain], hg⟩
  | ret => exact h
  | goto l => exact h
  | panic ch => exact h
  | outgrown => exact h

variable {fn : FuncId} {Q : Exit → Act → World → Gh ι → Prop} {a : Act} {w : World} {M : Gh ι}

/-- What follows, laid between. -/
def ThenC (next : Act → World → Gh ι → Prop) (Q : Exit → Act → World → Gh ι → Prop) : Exit → Act → World → Gh ι → Prop
  | .normal, a, w, M => next a w M
  | e, a, w, M => Q e a w M
def InBlockC (id : Nat) (Q : Exit → Act → World → Gh ι → Prop) : Exit → Act → World → Gh ι → Prop
  | .exit id', a, w, M => if id' = id then Q .normal a w M else Q (.exit id') a w M
  | e, a, w, M => Q e a w M

theorem wpC_mono {c : Code} {Q' : Exit → Act → World → Gh ι → Prop} (h : WpC C fn c Q a w M) (hq : ∀ e a w M, Q e a w M → Q' e a w M) : WpC C fn c Q' a w M :=
  fun b k cs hb hk hc => h b k cs hb hk fun e a' w' M' q => hc e a' w' M' (hq e a' w' M' q)
theorem wpC_rely (hS : Fam P main Sh C) {c : Code} {w₁ : World} (h : WpC C fn c Q a w M) (hr : Rl Sh M.2 w w₁) : WpC C fn c Q a w₁ M := fun b k cs hb hk hc => hS.rely (h b k cs hb hk hc) hr
theorem opsC_rely (hS : Fam P main Sh C) {ops : Array Oper} {todo : List Nat} {w₁ : World} (h : OpsC C fn ops todo Q a w M) (hr : Rl Sh M.2 w w₁) : OpsC C fn ops todo Q a w₁ M := fun b k cs hb hk hc => hS.rely (h b k cs hb hk hc) hr

theorem wpC_skip (hS : Fam P main Sh C) (h : Q .normal a w M) : WpC C fn .skip Q a w M := fun _ _ _ _ _ hc => hS.ctl rfl (fun _ => stepG_skip) (hc _ _ _ _ h)
theorem wpC_ret (hS : Fam P main Sh C) (h : Q .ret a w M) : WpC C fn .ret Q a w M := fun _ _ _ _ _ hc => hS.ctl rfl (fun _ => stepG_ret') (hc _ _ _ _ h _)
theorem wpC_exit (hS : Fam P main Sh C) {id : Nat} (h : Q (.exit id) a w M) : WpC C fn (.exit id) Q a w M := fun _ _ _ _ _ hc => by
  obtain ⟨k', hk', hg⟩ := hc _ _ _ _ h
  exact hS.ctl rfl (fun _ => stepG_exit hk') hg

theorem wpC_seq (hS : Fam P main Sh C) {x y : Code} (h : WpC C fn x (ThenC (fun a' w' M' => WpC C fn y Q a' w' M') Q) a w M) : WpC C fn (.seq x y) Q a w M := by
  intro b k cs hb hk hc
  refine hS.ctl rfl (fun _ => stepG_seq) (h b (.code y :: k) cs hb hk fun e a' w' M' q => ?_)
  cases e with
  | normal => exact q b k cs hb hk hc
  | exit id => exact (hc _ _ _ _ q).push rfl (by simp)
  | ret => exact (hc _ _ _ _ q).push (x := .code y) rfl (by simp)
  | goto l => exact hc _ _ _ _ q
  | panic ch => exact hc _ _ _ _ q
  | outgrown => exact hc _ _ _ _ q

theorem wpC_cond (hS : Fam P main Sh C) {c : Operand} {x y : Code} {t : Bool} (hc : a.eval c = .bool t) (h : WpC C fn (if t then x else y) Q a w M) : WpC C fn (.cond c x y) Q a w M :=
  fun b k cs hb hk hq => hS.ctl rfl (fun _ => stepG_cond hc) (h b k cs hb hk hq)

theorem wpC_block (hS : Fam P main Sh C) {id : Nat} {c : Code} (h : WpC C fn c (InBlockC id Q) a w M) : WpC C fn (.block id c) Q a w M := by
  intro b k cs hb hk hc
  refine hS.ctl rfl (fun _ => stepG_block) (h b (.inBlock id :: k) cs hb hk fun e a' w' M' q => ?_)
  cases e with
  | normal => exact hS.ctl rfl (fun _ => stepG_inBlock) (hc _ _ _ _ q)
  | exit id' =>
    by_cases hid : id' = id
    · simp only [InBlockC, hid, if_true] at q
      exact ⟨k, by simp [exitTo, hid], hc _ _ _ _ q⟩
    · simp only [InBlockC, hid, if_false] at q
      obtain ⟨k', hk', hg⟩ := hc _ _ _ _ q
      have : (id == id') = false := by simp; exact fun h => hid h.symm
      exact ⟨k', by simp [exitTo, this, hk'], hg⟩
  | ret => exact hc _ _ _ _ q
  | goto l => exact hc _ _ _ _ q
  | panic ch => exact hc _ _ _ _ q
  | outgrown => exact hc _ _ _ _ q

/-- A loop: an invariant and a measure. -/
theorem wpC_loop (hS : Fam P main Sh C) {c : Code} (I : Act → World → Gh ι → Prop) (μ : Act → Nat) (h₀ : I a w M)
    (round : ∀ a w M, I a w M → WpC C fn c (ThenC (fun a' w' M' => I a' w' M' ∧ μ a' < μ a) Q) a w M) : WpC C fn (.loop c) Q a w M := by
  intro b k cs hb hk hc
  have key : ∀ n a w M, μ a = n → I a w M → C M (G (b.at a (.code c :: .inLoop c :: k)) cs) w := by
    intro n
    induction n using Nat.strongRecOn with
    | _ n ih =>
      intro a w M hn hI
      refine round a w M hI b (.inLoop c :: k) cs hb hk fun e a' w' M' q => ?_
      cases e with
      | normal => exact hS.ctl rfl (fun _ => stepG_inLoop) (ih _ (hn ▸ q.2) a' w' M' rfl q.1)
      | exit id => exact (hc _ _ _ _ q).push rfl (by simp)
      | ret => exact (hc _ _ _ _ q).push (x := .inLoop c) rfl (by simp)
      | goto l => exact hc _ _ _ _ q
      | panic ch => exact hc _ _ _ _ q
      | outgrown => exact hc _ _ _ _ q
  exact hS.ctl rfl (fun _ => stepG_loop) (key _ a w M rfl h₀)

theorem wpC_region (hS : Fam P main Sh C) {id : Nat} {ops : Array Oper} (h : OpsC C fn ops (List.range ops.size) Q a w M) : WpC C fn (.region id ops false) Q a w M :=
  fun b k cs hb hk hc => hS.ctl rfl (fun _ => stepG_region) (h b k cs hb hk hc)
theorem opsC_nil (hS : Fam P main Sh C) {ops : Array Oper} (h : Q .normal a w M) : OpsC C fn ops [] Q a w M := fun _ _ _ _ _ hc => hS.ctl rfl (fun _ => stepG_region_end) (hc _ _ _ _ h)
theorem opsC_unwanted (hS : Fam P main Sh C) {ops : Array Oper} {i : Nat} {rest : List Nat} {o : Oper} (ho : ops[i]? = some o) (hw : Region.wanted o (yielded ops a.tmps) = false)
    (h : OpsC C fn ops rest Q (a.put o.dst undef) w M) : OpsC C fn ops (i :: rest) Q a w M := fun b k cs hb hk hc => hS.ctl rfl (fun _ => stepG_unwanted ho hw) (h b k cs hb hk hc)

/-- An operation, in every world that the others may leave. -/
theorem opsC_cons (hS : Fam P main Sh C) {ops : Array Oper} {i : Nat} {rest : List Nat} {o : Oper} (ho : ops[i]? = some o) (hw : Region.wanted o (yielded ops a.tmps) = true)
    (h : ∀ w₁, Rl Sh M.2 w w₁ → uponK o a (fun a' w' => Gu Sh M.2 w₁ w' (listed P fn a o w₁) ∧ OpsC C fn ops rest Q a' w' (M.1, grow M.2 w₁ w')) ((execOp a.eval o).run P w₁)) : OpsC C fn ops (i :: rest) Q a w M := by
  intro b k cs hb hk hc
  have hke : b.kind ≠ .early := hk
  have key : ∀ w₁, Rl Sh M.2 w w₁ → ∃ a' w', stepG P main (G (b.at a (.inRegion ops (i :: rest) :: k)) cs) w₁ = .go (G (b.at a' (.inRegion ops rest :: k)) cs) w' (listed P fn a o w₁) ∧ Gu Sh M.2 w₁ w' (listed P fn a o w₁) ∧ OpsC C fn ops rest Q a' w' (M.1, grow M.2 w₁ w') := by
    intro w₁ h₁
    have := h w₁ h₁
    revert this
    cases hr : (execOp a.eval o).run P w₁ with
    | ok x w' =>
      cases x <;> first | exact fun h => h.elim | skip
      · exact fun hx => ⟨_, _, hb ▸ stepG_value ho hw hke hr, hx⟩
      · exact fun hx => ⟨_, _, hb ▸ stepG_none ho hw hke hr, hx⟩
    | halt _ _ => exact fun h => h.elim
  refine hS.step rfl (fun w₁ h₁ => ?_) fun w₁ g' w' es h₁ hs => ?_
  · obtain ⟨a', w', hs, hg, _⟩ := key w₁ h₁
    exact ⟨_, _, _, hs, hg⟩
  · obtain ⟨a', w₂, hs', _, hx⟩ := key w₁ h₁
    rw [hs'] at hs
    cases hs
    exact hx b k cs hb hk hc

/-- An operation that looks at no memory. -/
theorem opsC_pure (hS : Fam P main Sh C) {ops : Array Oper} {i : Nat} {rest : List Nat} {o : Oper} {v : Value} (ho : ops[i]? = some o) (hw : Region.wanted o (yielded ops a.tmps) = true)
    (hr : ∀ w, (execOp a.eval o).runT P w #[] = (.ok (.value v) w, #[])) (h : OpsC C fn ops rest Q (a.put o.dst v) w M) : OpsC C fn ops (i :: rest) Q a w M := by
  refine opsC_cons hS ho hw fun w₁ h₁ => ?_
  have h1 : (execOp a.eval o).run P w₁ = .ok (.value v) w₁ := by rw [← Sem.runT_fst P _ w₁ #[], hr]
  have h2 : listed P fn a o w₁ = #[] := by unfold listed Sem.events; rw [hr]; exact seen_none P fn
  rw [h1, h2]
  refine ⟨⟨rfl, rfl, Nat.le_refl _, fun _ _ _ => rfl, by simp⟩, ?_⟩
  rw [grow_self M.2 w₁ w₁ rfl]
  exact opsC_rely hS h h₁

/-- A call. -/
theorem opsC_call (hS : Fam P main Sh C) {ops : Array Oper} {i : Nat} {rest : List Nat} {o : Oper} {f : FuncId} {args : Array Value} {R : Value → World → Gh ι → Prop} (ho : ops[i]? = some o) (hw : Region.wanted o (yielded ops a.tmps) = true)
    (hrun : ∀ w es, (execOp a.eval o).runT P w es = (.ok (.enter f args) w, es)) (hf : CallsC P C f args w M R)
    (h : ∀ v w' M', R v w' M' → OpsC C fn ops rest Q (a.put o.dst v) w' M') : OpsC C fn ops (i :: rest) Q a w M := by
  intro b k cs hb hk hc
  have hk' : (b.kind == CallKind.early) = false := by simpa using hk
  refine hS.ctl (g' := G (Frame.enter P f args .normal) (b.at a (.inRegion ops (i :: rest) :: k) :: cs)) rfl (fun w => ?_) ?_
  · rw [stepG_oper ho hw]
    unfold stepG.apply
    simp only [if_true, hrun]
    have e1 : (b.at a (.inRegion ops (i :: rest) :: k)).kind = b.kind := rfl
    have e2 : (b.at a (.inRegion ops (i :: rest) :: k)).todo = .inRegion ops (i :: rest) :: k := rfl
    simp only [e1, e2, hk', Bool.false_eq_true, if_false]
    simp [GStep.after, seen, G]
  · refine hf _ cs fun v w' M' hv => ?_
    have := Frame.finish_at b a ops i rest k v
    rw [ho] at this
    rw [this]
    exact h v w' M' hv b k cs hb hk hc

/-- A call of a Go function, by its contract. -/
theorem opsC_callF (hS : Fam P main Sh C) {ops : Array Oper} {i : Nat} {rest : List Nat} {o : Oper} {f : FuncId} {fd : Func} {args : Array Operand} {vs : Array Value} {ats : Array TypeId} {R : Value → World → Gh ι → Prop} (ho : ops[i]? = some o) (hw : Region.wanted o (yielded ops a.tmps) = true)
    (hop : o.op = .call { callee := .value (.func f), args, argTypes := ats }) (hf : P.funcs[f]? = some fd) (hname : (fd.name == "runtime.NumGoroutine") = false) (hb : fd.body.isNone = false) (hargs : args.map a.eval = vs) (hcall : CallsC P C f vs w M R)
    (h : ∀ v w' M', R v w' M' → OpsC C fn ops rest Q (a.put o.dst v) w' M') : OpsC C fn ops (i :: rest) Q a w M := by
  intro b k cs hbf hk hc
  have hke : b.kind ≠ .early := hk
  refine hS.ctl (g' := G (Frame.enter P f vs .normal) (b.at a (.inRegion ops (i :: rest) :: k) :: cs)) rfl (fun w => ?_) ?_
  · rw [stepG_enter ho hw hke (run_call_body hop hf hname hb), hargs]
    have : listed P b.fn a o w = #[] := by unfold listed; rw [events_call_body hop hf hname hb]; exact seen_none P _
    rw [this]
  · refine hcall _ cs fun v w' M' hv => ?_
    have := Frame.finish_at b a ops i rest k v
    rw [ho] at this
    rw [this]
    exact h v w' M' hv b k cs hbf hk hc

/-- What the body of a callee must achieve. -/
def BodyC (P : Program) (f : Func) (R : Value → World → Gh ι → Prop) : Exit → Act → World → Gh ι → Prop
  | .normal, a, w, M | .ret, a, w, M => a.defers = [] ∧ ∃ v, ResultsC P f a.tmps v ∧ R v w M
  | _, _, _, _ => False

theorem callsC_of_wpC (hS : Fam P main Sh C) {f : FuncId} {fc : Func} {c : Code} {args : Array Value} {R : Value → World → Gh ι → Prop} (hf : P.funcs[f]? = some fc) (hb : fc.body = some c)
    (h : WpC C f c (BodyC P fc R) { tmps := args ++ Array.replicate (fc.ntmps - args.size) undef, defers := [] } w M) : CallsC P C f args w M R := by
  intro cf cs hR
  rw [enter_at args hf hb]
  have hleave : ∀ (a' : Act) (w' : World) (M' : Gh ι) (todo : List Item), (a'.defers = [] ∧ ∃ v, ResultsC P fc a'.tmps v ∧ R v w' M') → C M' (G { (base f).at a' todo with mode := .returning } (cf :: cs)) w' := by
    rintro a' w' M' todo ⟨hd, v, hr, hp⟩
    exact hS.ctl rfl (fun w => stepG_leave (b := base f) rfl hd hf (hr w).1 (hr w).2) (hR v w' M' hp)
  refine h (base f) [] (cf :: cs) rfl (by simp [base]) fun e a' w' M' q => ?_
  cases e with
  | normal => exact hS.ctl rfl (fun _ => stepG_end) (hleave a' w' M' [] q)
  | ret => exact fun todo => hleave a' w' M' todo q
  | exit id => exact q.elim
  | goto l => exact q.elim
  | panic ch => exact q.elim
  | outgrown => exact q.elim

/-- A piece of code that comes to its end, where the frame is known. -/
theorem WpC.at {c : Code} {b : Frame} {k : List Item} {cs : List Frame} {R : Act → World → Gh ι → Prop} (h : WpC C fn c (fun e a w M => e = .normal ∧ R a w M) a w M) (hb : b.fn = fn) (hk : b.kind ≠ .early) (hR : ∀ a w M, R a w M → C M (G (b.at a k) cs) w) :
    C M (G (b.at a (.code c :: k)) cs) w := h b k cs hb hk fun e a' w' M' ⟨he, q⟩ => by subst he; exact hR a' w' M' q

/-- In a loop, ahead of a round. -/
def LoopC {ι : Type} (C : Gh ι → Goroutine → World → Prop) (fn : FuncId) (c : Code) (Q : Exit → Act → World → Gh ι → Prop) (a : Act) (w : World) (M : Gh ι) : Prop :=
  ∀ (b : Frame) (k : List Item) (cs : List Frame), b.fn = fn → b.kind ≠ .early →
    (∀ e a' w' M', Q e a' w' M' → AfterC C b k cs e a' w' M') → C M (G (b.at a (.code c :: .inLoop c :: k)) cs) w

theorem wpC_loop_of (hS : Fam P main Sh C) {c : Code} (h : LoopC C fn c Q a w M) : WpC C fn (.loop c) Q a w M :=
  fun b k cs hb hk hc => hS.ctl rfl (fun _ => stepG_loop) (h b k cs hb hk hc)

theorem loopC_round (hS : Fam P main Sh C) {c : Code} (h : WpC C fn c (ThenC (fun a' w' M' => LoopC C fn c Q a' w' M') Q) a w M) : LoopC C fn c Q a w M := by
  intro b k cs hb hk hc
  refine h b (.inLoop c :: k) cs hb hk fun e a' w' M' q => ?_
  cases e with
  | normal => exact hS.ctl rfl (fun _ => stepG_inLoop) (q b k cs hb hk hc)
  | exit id => exact (hc _ _ _ _ q).push rfl (by simp)
  | ret => exact (hc _ _ _ _ q).push (x := .inLoop c) rfl (by simp)
  | goto l => exact hc _ _ _ _ q
  | panic ch => exact hc _ _ _ _ q
  | outgrown => exact hc _ _ _ _ q

/-- A loop of n rounds. -/
theorem loopC_count {c : Code} (Inv : Nat → Act → World → Gh ι → Prop) (n : Nat)
    (round : ∀ k a w M, k < n → Inv k a w M → (∀ a' w' M', Inv (k + 1) a' w' M' → LoopC C fn c Q a' w' M') → LoopC C fn c Q a w M) (last : ∀ a w M, Inv n a w M → LoopC C fn c Q a w M) :
    ∀ k, k ≤ n → ∀ a w M, Inv k a w M → LoopC C fn c Q a w M := by
  have key : ∀ j k, k + j = n → ∀ a w M, Inv k a w M → LoopC C fn c Q a w M := by
    intro j
    induction j with
    | zero => intro k hk a w M h; obtain rfl : k = n := by omega
              exact last a w M h
    | succ j ih => intro k hk a w M h; exact round k a w M (by omega) h fun a' w' M' h' => ih (k + 1) (by omega) a' w' M' h'
  exact fun k hk => key (n - k) k (by omega)

/-- A loop with a round for each item of a list. -/
theorem loopC_list {β : Type} {c : Code} (Inv : List β → Act → World → Gh ι → Prop)
    (round : ∀ x xs a w M, Inv (x :: xs) a w M → (∀ a' w' M', Inv xs a' w' M' → LoopC C fn c Q a' w' M') → LoopC C fn c Q a w M) (last : ∀ a w M, Inv [] a w M → LoopC C fn c Q a w M) :
    ∀ xs a w M, Inv xs a w M → LoopC C fn c Q a w M
  | [], a, w, M, h => last a w M h
  | x :: xs, a, w, M, h => round x xs a w M h fun a' w' M' h' => loopC_list Inv round last xs a' w' M' h'

theorem loopC_rely (hS : Fam P main Sh C) {c : Code} {w₁ : World} (h : LoopC C fn c Q a w M) (hr : Rl Sh M.2 w w₁) : LoopC C fn c Q a w₁ M := fun b k cs hb hk hc => hS.rely (h b k cs hb hk hc) hr

end

end Go.Proofs.Ytjphaphnmclbcaa

/- What operations on memory do and list, for one of the two goroutines under way, whatever its family of scripts. No condition. -/
namespace Go.Proofs.Ytjphaphnmclbcaa
open Go Go.Conc

/-- The type is neither a struct nor an array. -/
def scal (P : Program) (t : TypeId) : Bool :=
  match P.underlying t with
  | some (.struct _) | some (.array _ _) | none => false
  | _ => true

theorem isAgg_scal {P : Program} {t : TypeId} (h : scal P t = true) (w : World) : (isAgg t).run P w = .ok false w := by
  unfold scal at h
  cases hu : P.underlying t with
  | none => rw [hu] at h; cases h
  | some d =>
    rw [hu] at h
    unfold isAgg underlying
    cases d <;> first
      | exact Bool.noConfusion h
      | simp [hu]

theorem loadVar_scal {P : Program} {t : TypeId} (h : scal P t = true) {w : World} {ad : Addr} {v : Value} (hc : w.cell? ad = some v) : (loadVar t ad).run P w = .ok v w ∧ (loadVar t ad).events P w #[] = #[⟨.cell ad, false, false⟩] := by
  unfold loadVar
  refine ⟨?_, ?_⟩
  · simp [isAgg_scal h, hc]
  · simp [isAgg_scal h, hc]

section
variable {P : Program} {main : Bool} {Sh : Nat → Prop} {ι : Type} {C : Gh ι → Goroutine → World → Prop} {fn : FuncId} {Q : Exit → Act → World → Gh ι → Prop} {a : Act} {w : World} {M : Gh ι}

theorem events_cap_slice (P : Program) (w : World) (es : Array Event) (t ty : TypeId) (base : Option Addr) (n c : Nat) (h : P.underlying t = some (.slice (P.elem t))) :
    (Builtin.cap_ #[t] ty #[.slice base n c]).events P w es = es := by simp [Builtin.cap_, run_underlying h]

theorem events_slice_hi (P : Program) (w : World) (es : Array Event) (t : TypeId) (base : Option Addr) (l c : Nat) (k : IntKind) (i : Int) (h : P.underlying t = some (.slice (P.elem t))) (hi : 0 ≤ i ∧ i ≤ (c : Int)) :
    (Instr.sliceAt t (.slice base l c) none (some (.int k i)) none).events P w es = es := by
  simp [Instr.sliceAt, Instr.slice, Instr.sliceBounds, Instr.sliceBound, asIntOf, run_underlying h, hi]

theorem evM_read {M Sh : Nat → Prop} {ad : Addr} (h : Sh ad.block ∨ M ad.block) : EvM M Sh ⟨.cell ad, false, false⟩ :=
  ⟨fun m h => by simp at h, fun a ha => by simp [MemAct.ofEvent, MemAct.touch?] at ha; subst ha; exact h.elim (fun x => .inr ⟨x, rfl⟩) .inl⟩
theorem evM_write {M Sh : Nat → Prop} {ad : Addr} (h : M ad.block) : EvM M Sh ⟨.cell ad, true, false⟩ :=
  ⟨fun m h => by simp at h, fun a ha => by simp [MemAct.ofEvent, MemAct.touch?] at ha; subst ha; exact .inl h⟩

theorem cell_eq {w w₁ : World} {ad : Addr} (h : w₁.heap[ad.block]? = w.heap[ad.block]?) : w₁.cell? ad = w.cell? ad := by unfold World.cell?; rw [h]

/-- An operation that leaves the world, and reads cells of one's own or shared ones. -/
theorem opsC_look (hS : Fam P main Sh C) {ops : Array Oper} {i : Nat} {rest : List Nat} {o : Oper} {v : Value} (ho : ops[i]? = some o) (hw : Region.wanted o (yielded ops a.tmps) = true)
    (hr : ∀ w₁, Rl Sh M.2 w w₁ → (execOp a.eval o).run P w₁ = .ok (.value v) w₁ ∧ ∀ e ∈ (execOp a.eval o).events P w₁ #[], EvM M.2 Sh e)
    (h : OpsC C fn ops rest Q (a.put o.dst v) w M) : OpsC C fn ops (i :: rest) Q a w M := by
  refine opsC_cons hS ho hw fun w₁ h₁ => ?_
  obtain ⟨h1, h2⟩ := hr w₁ h₁
  rw [h1]
  refine ⟨⟨rfl, rfl, Nat.le_refl _, fun _ _ _ => rfl, fun e he => ?_⟩, ?_⟩
  · rw [grow_self M.2 w₁ w₁ rfl]; exact h2 e (mem_listed he)
  · rw [grow_self M.2 w₁ w₁ rfl]; exact opsC_rely hS h h₁

/-- An operation that looks at no memory: what it yields is found by running it behind a variable. -/
theorem opsC_plain (hS : Fam P main Sh C) {ops : Array Oper} {i : Nat} {rest : List Nat} {o : Oper} (ho : ops[i]? = some o) (hw : Region.wanted o (yielded ops a.tmps) = true)
    (h : ∀ (w₁ : World) (K : Act → World → Prop), (∀ a', (execOp a.eval o).events P w₁ #[] = #[] → OpsC C fn ops rest Q a' w M → K a' w₁) → uponK o a K ((execOp a.eval o).run P w₁)) :
    OpsC C fn ops (i :: rest) Q a w M := by
  refine opsC_cons hS ho hw fun w₁ h₁ => ?_
  have := h w₁ (fun a' w' => w' = w₁ ∧ (execOp a.eval o).events P w₁ #[] = #[] ∧ OpsC C fn ops rest Q a' w M) fun a' e x => ⟨rfl, e, x⟩
  refine uponK_mono (fun a' w' hx => ?_) this
  obtain ⟨rfl, he, hx⟩ := hx
  have hl : listed P fn a o w' = #[] := by unfold listed; rw [he]; exact seen_none P fn
  rw [hl, grow_self M.2 w' w' rfl]
  exact ⟨⟨rfl, rfl, Nat.le_refl _, fun _ _ _ => rfl, by simp⟩, opsC_rely hS hx h₁⟩

/-- A load of one cell. -/
theorem opsC_load (hS : Fam P main Sh C) {ops : Array Oper} {i : Nat} {rest : List Nat} {o : Oper} {t : TypeId} {x : Operand} {ad : Addr} {v : Value} (ho : ops[i]? = some o) (hw : Region.wanted o (yielded ops a.tmps) = true)
    (hop : o.op = .load t x) (ht : scal P t = true) (hx : a.eval x = .pointer (some ad)) (hm : Sh ad.block ∨ M.2 ad.block) (hc : w.cell? ad = some v)
    (h : OpsC C fn ops rest Q (a.put o.dst v) w M) : OpsC C fn ops (i :: rest) Q a w M := by
  refine opsC_look hS ho hw (fun w₁ h₁ => ?_) h
  have hc' : w₁.cell? ad = some v := (cell_eq (h₁.keep _ hm)).trans hc
  obtain ⟨h1, h2⟩ := loadVar_scal ht hc'
  unfold execOp
  simp only [hop]
  refine ⟨?_, fun e he => ?_⟩
  · simp [Instr.loadAt, Instr.sureAddr, hx, h1]
  · simp [Instr.loadAt, Instr.sureAddr, hx, h2] at he
    subst he
    exact evM_read hm

theorem setCell_other (w : World) (ad : Addr) (v : Value) {k : Nat} (h : k ≠ ad.block) : (w.setCell ad v).heap[k]? = w.heap[k]? := by
  unfold World.setCell
  simp [Array.getElem?_modify, Ne.symm h]
theorem setCell_size (w : World) (ad : Addr) (v : Value) : (w.setCell ad v).heap.size = w.heap.size := by unfold World.setCell; simp

/-- A store of one cell in a block of one's own. -/
theorem opsC_store (hS : Fam P main Sh C) {ops : Array Oper} {i : Nat} {rest : List Nat} {o : Oper} {t : TypeId} {x y : Operand} {ad : Addr} {v u : Value} (ho : ops[i]? = some o) (hw : Region.wanted o (yielded ops a.tmps) = true)
    (hop : o.op = .store t x y) (hi : (P.info? t).map (·.size) = some 1) (hv : v.cells = #[v]) (h1 : v.oneCell' = true) (hx : a.eval x = .pointer (some ad)) (hy : a.eval y = v) (hm : M.2 ad.block) (hc : w.cell? ad = some u) (hf : w.frozen? ad = false)
    (h : ∀ w₁, Rl Sh M.2 w w₁ → OpsC C fn ops rest Q (a.put o.dst undef) (w₁.setCell ad v) M) : OpsC C fn ops (i :: rest) Q a w M := by
  refine opsC_cons hS ho hw fun w₁ h₁ => ?_
  have hh := h₁.keep ad.block (.inr hm)
  have hc' : w₁.cell? ad = some u := (cell_eq hh).trans hc
  have hf' : w₁.frozen? ad = false := by unfold World.frozen? at hf ⊢; rw [hh]; exact hf
  obtain ⟨inf, hinf, hsz⟩ := Option.map_eq_some_iff.1 hi
  have e0 : ad.add 0 = ad := by simp [Addr.add]
  have hst : (store ad v).run P w₁ = .ok () (w₁.setCell ad v) := by rw [run_store P w₁ ad v .plain h1]; simp [hc', hf']
  have hev : (store ad v).events P w₁ #[] = #[⟨.cell ad, true, false⟩] := by rw [events_store P w₁ #[] ad v .plain h1]; simp [hc', hf']
  have hrun : (execOp a.eval o).run P w₁ = .ok .skip (w₁.setCell ad v) := by
    unfold execOp
    simp [hop, Instr.storeAt, Instr.sureAddr, hx, hy, storeVar, sizeOf, hv, storeCells, typeInfo, hinf, hsz, e0, hst]
  have hevs : ∀ e ∈ (execOp a.eval o).events P w₁ #[], e = ⟨.cell ad, true, false⟩ := by
    unfold execOp
    simp [hop, Instr.storeAt, Instr.sureAddr, hx, hy, storeVar, sizeOf, hv, storeCells, typeInfo, hinf, hsz, e0, hev]
  rw [hrun]
  refine ⟨⟨rfl, rfl, by rw [setCell_size]; exact Nat.le_refl _, fun k _ hk => setCell_other _ _ _ fun e => hk (e ▸ hm), fun e he => ?_⟩, ?_⟩
  · rw [grow_self M.2 _ _ (setCell_size _ _ _), hevs e (mem_listed he)]; exact evM_write hm
  · rw [grow_self M.2 _ _ (setCell_size _ _ _)]; exact h w₁ h₁

/-- A block is made. -/
theorem opsC_new (hS : Fam P main Sh C) {ops : Array Oper} {i : Nat} {rest : List Nat} {o : Oper} {ob : World → Obj} {v : World → Value} (ho : ops[i]? = some o) (hw : Region.wanted o (yielded ops a.tmps) = true)
    (hr : ∀ w₁, Rl Sh M.2 w w₁ → (execOp a.eval o).run P w₁ = .ok (.value (v w₁)) (w₁.alloc (ob w₁)) ∧ ∀ e ∈ (execOp a.eval o).events P w₁ #[], EvM M.2 Sh e)
    (h : ∀ w₁, Rl Sh M.2 w w₁ → OpsC C fn ops rest Q (a.put o.dst (v w₁)) (w₁.alloc (ob w₁)) (M.1, grow M.2 w₁ (w₁.alloc (ob w₁)))) : OpsC C fn ops (i :: rest) Q a w M := by
  refine opsC_cons hS ho hw fun w₁ h₁ => ?_
  obtain ⟨h1, h2⟩ := hr w₁ h₁
  rw [h1]
  have eh : (w₁.alloc (ob w₁)).heap = w₁.heap.push (ob w₁) := rfl
  refine ⟨⟨rfl, rfl, by rw [eh]; simp, fun k hk _ => by rw [eh, Array.getElem?_push_lt hk, Array.getElem?_eq_getElem hk], fun e he => ?_⟩, h w₁ h₁⟩
  obtain ⟨x, y⟩ := h2 e (mem_listed he)
  exact ⟨x, fun a ha => (y a ha).imp .inl id⟩

/-- Nothing that was there has changed. -/
structure Only (w w' : World) : Prop where
  os : w'.os = w.os
  output : w'.output = w.output
  size : w.heap.size ≤ w'.heap.size
  keep : ∀ k, k < w.heap.size → w'.heap[k]? = w.heap[k]?
theorem Only.of_below {w w' : World} (h : Go.RowKit.Below w.heap.size w w') : Only w w' := ⟨h.os, h.output, h.size, h.block⟩

/-- An operation that makes blocks and leaves what was there. -/
theorem opsC_make (hS : Fam P main Sh C) {ops : Array Oper} {i : Nat} {rest : List Nat} {o : Oper} (ho : ops[i]? = some o) (hw : Region.wanted o (yielded ops a.tmps) = true)
    (hr : ∀ w₁, Rl Sh M.2 w w₁ → ∃ v w', (execOp a.eval o).run P w₁ = .ok (.value v) w' ∧ Only w₁ w' ∧ (∀ e ∈ (execOp a.eval o).events P w₁ #[], EvM M.2 Sh e) ∧ OpsC C fn ops rest Q (a.put o.dst v) w' (M.1, grow M.2 w₁ w')) :
    OpsC C fn ops (i :: rest) Q a w M := by
  refine opsC_cons hS ho hw fun w₁ h₁ => ?_
  obtain ⟨v, w', h1, h2, h3, h4⟩ := hr w₁ h₁
  rw [h1]
  refine ⟨⟨h2.os, h2.output, h2.size, fun k hk _ => h2.keep k hk, fun e he => ?_⟩, h4⟩
  obtain ⟨x, y⟩ := h3 e (mem_listed he)
  exact ⟨x, fun a ha => (y a ha).imp .inl id⟩

end

end Go.Proofs.Ytjphaphnmclbcaa

/- Appends, and arrays read and written, for one of the two goroutines under way. No condition. -/
namespace Go.Proofs.Ytjphaphnmclbcaa
open Go Go.Conc

theorem evM_mark {M Sh : Nat → Prop} {m : Mark} (h : Neutral m) : EvM M Sh ⟨.mark m, false, true⟩ := by
  unfold Neutral at h
  subst h
  exact ⟨fun m h => by simp at h; exact h.symm, fun a ha => by simp [MemAct.ofEvent, MemAct.touch?] at ha⟩
theorem evM_cell {M Sh : Nat → Prop} {e : Event} {ad : Addr} (hl : e.loc = .cell ad) (h : M ad.block ∨ (Sh ad.block ∧ e.write = false)) : EvM M Sh e := by
  obtain ⟨loc, wr, sy⟩ := e
  simp only at hl
  subst hl
  refine ⟨fun m h => by simp at h, fun a ha => ?_⟩
  have : (MemAct.ofEvent ⟨.cell ad, wr, sy⟩) = .access ⟨.cell ad, wr, sy⟩ := by cases wr <;> cases sy <;> rfl
  rw [this] at ha
  simp [MemAct.touch?] at ha
  subst ha
  exact h

/-- The block of what comes out of append: the old one or a new one. -/
theorem app_blk {P : Program} (w : World) (base : Nat) (t ty e : TypeId) (i : TypeInfo) (z : Value) (ht : P.underlying t = some (.slice e)) (hi : P.info? e = some i) (hz : i.zero = some z) (h1s : i.size = 1)
    (v : Value) (n : Nat) (xs : List Value) (hown : w.ownsRow base e 1 v n xs) (a : Addr) (m c : Nat) (news : List Value) (hln : news.length = m) (hnews : ∀ j u, news[j]? = some u → w.cell? (a.add j) = some u) (hone : ∀ u ∈ news, u.oneCell' = true) (hl : n + m ≤ 2000000) (hb : i.bytes ≤ 100)
    {v' : Value} {w' : World} (hr : (Builtin.append_ #[t, t] ty #[v, .slice (some a) m c]).run P w = .ok v' w') : v'.ownBlock = v.ownBlock ∨ v'.ownBlock = some w.heap.size := by
  have hln' : news.length = m * i.size := by rw [h1s]; omega
  have hby : (n + m) * i.bytes ≤ 140737488355328 := Nat.le_trans (Nat.mul_le_mul hl hb) (by decide)
  rcases hown.2 with ⟨rfl, rfl⟩ | ⟨g, cap, cur, rfl, hbg, hg, hnc, hcm, hcs, htake⟩
  · by_cases hm : m = 0
    · subst hm
      have hf := run_firstCells_some (P := P) w i.size 0 a 0 c news hln' hnews
      simp [Builtin.append_, run_underlying ht, sizeOf, typeInfo, hi, Builtin.lenOf, hf] at hr
      exact .inl (by rw [← hr.1])
    · rw [run_append_nil (P := P) w t ty e i z ht hi hz a m c news hln' hnews (by omega) (by omega) (by have := hby; rw [Nat.zero_add] at this; omega)] at hr
      simp only [Result.ok.injEq] at hr
      exact Or.inr (by rw [← hr.1]; rfl)
  · by_cases hroom : n + m ≤ cap
    · rw [run_append_room (P := P) w t ty e i ht hi g n cap cur hg a m c news hln' hnews hone hroom (by rw [h1s]; omega)] at hr
      simp only [Result.ok.injEq] at hr
      exact Or.inl (by rw [← hr.1]; rfl)
    · rw [run_append_grow (P := P) w t ty e i z ht hi hz ⟨g, 0, none⟩ n cap xs (by rw [h1s]; exact hown.1) (hown.cells (g := g) rfl) a m c news hln' hnews (by omega) (by omega) (growslice_fits (by omega) hby)] at hr
      simp only [Result.ok.injEq] at hr
      exact Or.inr (by rw [← hr.1]; rfl)

section
variable {P : Program} {main : Bool} {Sh : Nat → Prop} {ι : Type} {C : Gh ι → Goroutine → World → Prop} {fn : FuncId} {Q : Exit → Act → World → Gh ι → Prop} {a : Act} {w : World} {M : Gh ι}

/-- append(s, list...), s one's own. -/
theorem opsC_append (hS : Fam P main Sh C) {ops : Array Oper} {i : Nat} {rest : List Nat} {o : Oper} (ho : ops[i]? = some o) (hw : Region.wanted o (yielded ops a.tmps) = true)
    (s x : Operand) (t : TypeId) (hop : o.op = .call { callee := .builtin .append, args := #[s, x], argTypes := #[t, t] }) (base : Nat) (e : TypeId) (ti : TypeInfo) (z : Value)
    (ht : P.underlying t = some (.slice e)) (hi : P.info? e = some ti) (hz : ti.zero = some z) (h1s : ti.size = 1) (hb : ti.bytes ≤ 100) (hzs : z.cells.size = 1)
    (v : Value) (n : Nat) (xs : List Value) (hs : a.eval s = v) (hown : w.ownsRow base e 1 v n xs) (hvM : ∀ k, v.ownBlock = some k → M.2 k) (ad : Addr) (m c : Nat) (news : List Value) (hx : a.eval x = .slice (some ad) m c)
    (had : Sh ad.block ∨ M.2 ad.block) (hln : news.length = m) (hnews : ∀ j u, news[j]? = some u → w.cell? (ad.add j) = some u) (hone : ∀ u ∈ news, u.oneCell' = true) (hl : n + m ≤ 2000000) (hbase : base ≤ w.heap.size)
    (h : ∀ w₁ v' w', Rl Sh M.2 w w₁ → w'.ownsRow base e 1 v' (n + m) (xs ++ news) → v'.ownBlock = v.ownBlock ∨ v'.ownBlock = some w₁.heap.size → w₁.grownBy w' v.ownBlock → (∀ k, v'.ownBlock = some k → (grow M.2 w₁ w') k) →
      OpsC C fn ops rest Q (a.put o.dst v') w' (M.1, grow M.2 w₁ w')) : OpsC C fn ops (i :: rest) Q a w M := by
  refine opsC_cons hS ho hw fun w₁ h₁ => ?_
  have hown₁ : w₁.ownsRow base e 1 v n xs := by
    refine ⟨hown.1, ?_⟩
    rcases hown.2 with h2 | ⟨g, cap, cur, hv, hg, hh, r⟩
    · exact .inl h2
    · exact .inr ⟨g, cap, cur, hv, hg, (h₁.keep g (.inr (hvM g (by rw [hv]; rfl)))).trans hh, r⟩
  have hblk : ∀ j, (ad.add j).block = ad.block := fun j => addBlock ad j
  have hnews₁ : ∀ j u, news[j]? = some u → w₁.cell? (ad.add j) = some u := fun j u hj => (cell_eq (by rw [hblk]; exact h₁.keep _ had)).trans (hnews j u hj)
  have hby : (n + m) * ti.bytes ≤ 140737488355328 := Nat.le_trans (Nat.mul_le_mul hl hb) (by decide)
  have hbase₁ : base ≤ w₁.heap.size := Nat.le_trans hbase h₁.size
  have h63 : n + m ≤ maxLen := by unfold maxLen; omega
  obtain ⟨v', w', hr, h2, h3, _⟩ := run_append_own (P := P) w₁ base t o.type e ti z 1 ti.bytes ht hi hz h1s rfl hzs (by decide) v n xs hown₁ ad m c news (by omega) hnews₁ hone h63 hby hbase₁
  have hk := app_blk w₁ base t o.type e ti z ht hi hz h1s v n xs hown₁ ad m c news hln hnews₁ hone hl hb hr
  have hev := events_append_where (P := P) w₁ base t o.type e ti z 1 ti.bytes ht hi hz h1s rfl v n xs hown₁ ad m c news (by omega) hnews₁ hone h63 hby
  have hrun : (execOp a.eval o).run P w₁ = .ok (.value v') w' := by
    unfold execOp
    simp only [hop, resolve, invoke, builtin, Sem.run_bind, Sem.run_pure, Result.andThen_ok, List.map_toArray, List.map_cons, List.map_nil, hs, hx, hr]
  have hevs : (execOp a.eval o).events P w₁ #[] = (Builtin.append_ #[t, t] o.type #[v, .slice (some ad) m c]).events P w₁ #[] := by
    unfold execOp
    simp [hop, resolve, invoke, builtin, hs, hx]
  rw [hrun]
  have hgrow : ∀ k, v'.ownBlock = some k → grow M.2 w₁ w' k := by
    intro k hk'
    rcases hk with e' | e'
    · exact .inl (hvM k (e' ▸ hk'))
    · rw [e'] at hk'
      obtain rfl := Option.some.inj hk'
      have := (World.ownsRow.lt h2 _ e').2
      exact .inr ⟨Nat.le_refl _, this⟩
  refine ⟨⟨h3.os, h3.output, h3.size, fun k hk1 hk2 => h3.block k hk1 fun e' => hk2 (hvM k e'.symm), fun ev he => ?_⟩, h w₁ v' w' h₁ h2 hk h3 hgrow⟩
  have he' := mem_listed he
  rw [hevs] at he'
  rcases hev ev he' with ⟨ad', hl', hx'⟩ | ⟨mk, rfl, hn⟩
  · refine evM_cell hl' ?_
    rcases hx' with ⟨hw', hb'⟩ | hb'
    · rcases had with h4 | h4
      · exact .inr ⟨hb' ▸ h4, hw'⟩
      · exact .inl (.inl (hb' ▸ h4))
    · exact .inl (.inl (hvM _ hb'.symm))
  · exact evM_mark hn

/-- append(nil, make([]T, n)...). -/
theorem opsC_appzeros (hS : Fam P main Sh C) {ops : Array Oper} {i : Nat} {rest : List Nat} {o : Oper} (ho : ops[i]? = some o) (hw : Region.wanted o (yielded ops a.tmps) = true)
    (s x : Operand) (t tn : TypeId) (hop : o.op = .call { callee := .builtin .append, args := #[s, x], argTypes := #[t, tn] }) (e : TypeId) (ti : TypeInfo) (z : Value) (kq kn : IntKind)
    (ht : P.underlying t = some (.slice e)) (htn : P.underlying tn = some (.int kn)) (hi : P.info? e = some ti) (hz : ti.zero = some z) (h1s : ti.size = 1) (hb : ti.bytes ≤ 100)
    (n : Nat) (h0 : 0 < n) (hn : n ≤ 2000000) (hs : a.eval s = .slice none 0 0) (hx : a.eval x = .int kq (n : Int))
    (h : ∀ w₁ (c : Nat) w', Rl Sh M.2 w w₁ → n ≤ c → c ≤ 9223372036854775807 → w' = w₁.drew.alloc (.cells (Builtin.zeroCells z.cells n ++ Builtin.zeroCells z.cells (c - n)) e) →
      OpsC C fn ops rest Q (a.put o.dst (.slice (some ⟨w₁.heap.size, 0, none⟩) n c)) w' (M.1, grow M.2 w₁ w')) : OpsC C fn ops (i :: rest) Q a w M := by
  refine opsC_cons hS ho hw fun w₁ h₁ => ?_
  have hf := run_firstCells_none (P := P) w₁.drew ti.size 0 0 0
  have hfit : Builtin.nextslicecap (0 + n) 0 * ti.bytes ≤ 281474976710656 := growslice_fits (by omega) (Nat.le_trans (Nat.mul_le_mul (show 0 + n ≤ 2000000 by omega) hb) (by decide))
  have h48 : n * ti.bytes ≤ 281474976710656 := Nat.le_trans (Nat.mul_le_mul hn hb) (by decide)
  have hr := Lib.run_append_grow_zeros (P := P) w₁ t tn o.type e ti z kq kn ht htn hi hz none 0 0 [] hf n h0 (by omega) (by omega) (by omega) h48 hfit
  have hG := grownCap_ge w₁ (0 + n) 0 e
  have hG2 := grownCap_le_maxLen w₁ (0 + n) 0 e (by unfold maxLen; omega)
  rw [Nat.zero_add] at hr hG hG2
  obtain ⟨c, hc⟩ : ∃ c, c = grownCap w₁ n 0 e := ⟨_, rfl⟩
  rw [← hc] at hr hG hG2
  have hrun : (execOp a.eval o).run P w₁ = .ok (.value (.slice (some ⟨w₁.heap.size, 0, none⟩) n c)) (w₁.drew.alloc (.cells (Builtin.zeroCells z.cells n ++ Builtin.zeroCells z.cells (c - n)) e)) := by
    unfold execOp
    simp only [hop, resolve, invoke, builtin, Sem.run_bind, Sem.run_pure, Result.andThen_ok, List.map_toArray, List.map_cons, List.map_nil, hs, hx, hr]
    simp
  have hevs : ∀ ev ∈ (execOp a.eval o).events P w₁ #[], ∃ m, ev = ⟨.mark m, false, true⟩ ∧ Neutral m := by
    have e1 : (execOp a.eval o).events P w₁ #[] = (Builtin.append_ #[t, tn] o.type #[.slice none 0 0, .int kq n]).events P w₁ #[] := by
      unfold execOp
      simp [hop, resolve, invoke, builtin, hs, hx]
    rw [e1]
    intro ev hev
    have hk : n ≠ 0 := by omega
    have hw' : IntKind.i64.wrap (n : Int) = n := by rw [IntKind.wrap_i64]; omega
    have hneg : ¬ ((n : Int) < 0) := by omega
    have h63' : ¬ (9223372036854775807 < (n : Int)) := by omega
    have h48' : ¬ (281474976710656 < Builtin.nextslicecap n 0 * ti.bytes) := by rw [Nat.zero_add] at hfit; omega
    have h48i : ¬ (281474976710656 < (n : Int) * (ti.bytes : Int)) := by
      rw [← Int.natCast_mul]
      omega
    simp [Builtin.append_, run_underlying ht, run_underlying htn, sizeOf, typeInfo, zeroValue, hi, hz, asInt, asIntOf, hw', hneg, hk, h63', h48', h48i, Question.forced, hf, newRow] at hev
    rcases events_firstCells_in (P := P) (fun _ => False) _ _ _ _ _ (fun a' l' c' e => by cases e) ev hev with h2 | ⟨_, _, _, h2⟩
    · rcases events_askRoom _ _ _ ev h2 with h3 | h3
      · simp at h3
      · exact h3
    · exact h2.elim
  rw [hrun]
  refine ⟨⟨rfl, rfl, by rw [World.size_alloc]; exact Nat.le_succ _, fun k hk1 _ => heap_alloc_old w₁.drew _ hk1, fun ev he => ?_⟩, h w₁ c _ h₁ hG (by unfold maxLen at hG2; omega) rfl⟩
  obtain ⟨m, rfl, hm⟩ := hevs ev (mem_listed he)
  exact evM_mark hm

/-- The type is a struct or an array. -/
def aggT (P : Program) (t : TypeId) : Bool :=
  match P.underlying t with
  | some (.struct _) | some (.array _ _) => true
  | _ => false
theorem aggT_out {P : Program} {t : TypeId} (h : aggT P t = true) : ∃ d, P.underlying t = some d ∧ (match d with | .struct _ | .array _ _ => true | _ => false) = true := by
  unfold aggT at h
  cases hu : P.underlying t with
  | none => rw [hu] at h; cases h
  | some d => rw [hu] at h; exact ⟨d, rfl, by cases d <;> first | rfl | cases h⟩
theorem isAgg_agg {P : Program} {t : TypeId} (h : aggT P t = true) (w : World) : (isAgg t).run P w = .ok true w := by
  unfold aggT at h
  cases hu : P.underlying t with
  | none => rw [hu] at h; cases h
  | some d =>
    rw [hu] at h
    unfold isAgg underlying
    cases d <;> first
      | (exfalso; exact Bool.noConfusion h)
      | simp [hu]

/-- A whole array is read. -/
theorem opsC_loadrow (hS : Fam P main Sh C) {ops : Array Oper} {i : Nat} {rest : List Nat} {o : Oper} (ho : ops[i]? = some o) (hw : Region.wanted o (yielded ops a.tmps) = true) {ty t : TypeId} {x : Operand} {g : Nat} {cs : Array Value} {fr : Nat × Nat}
    (hop : o.op = .load ty x) (hd : aggT P ty = true) (hi : (P.info? ty).map (·.size) = some cs.size) (hx : a.eval x = .pointer (some ⟨g, 0, none⟩)) (hm : Sh g ∨ M.2 g) (hc : w.heap[g]? = some (.cells cs t fr))
    (h : OpsC C fn ops rest Q (a.put o.dst (.agg cs)) w M) : OpsC C fn ops (i :: rest) Q a w M := by
  refine opsC_look hS ho hw (fun w₁ h₁ => ?_) h
  have hc' : w₁.heap[g]? = some (.cells cs t fr) := (h₁.keep g hm).trans hc
  obtain ⟨d, hu, hdd⟩ := aggT_out hd
  have hr := run_loadVar_row (P := P) w₁ g t ty cs fr d hc' hu (by cases d <;> first | rfl | exact hdd) hi
  obtain ⟨ti, hinf, hsz⟩ := Option.map_eq_some_iff.1 hi
  unfold execOp
  simp only [hop]
  refine ⟨?_, fun ev he => ?_⟩
  · simp [Instr.loadAt, Instr.sureAddr, hx, hr]
  · simp [Instr.loadAt, Instr.sureAddr, hx, loadVar, isAgg_agg hd, sizeOf, typeInfo, hinf, loadCells] at he
    have hcell : ∀ j, j < ti.size → (w₁.cell? ((⟨g, 0, none⟩ : Addr).add (0 + j))).isSome := by
      intro j hj
      have hadd : (⟨g, 0, none⟩ : Addr).add (0 + j) = ⟨g, j, none⟩ := by unfold Addr.add; split <;> simp_all
      have hlt : j < cs.size := by omega
      rw [hadd, cell_of_row w₁ g j cs t fr hc']
      simp [hlt]
    rcases events_loadCellsFrom_at (P := P) ⟨g, 0, none⟩ (fun k => k = g) rfl _ _ _ _ _ hcell ev he with h2 | ⟨ad, h2, h3, h4⟩
    · simp at h2
    · refine evM_cell h2 ?_
      rw [h4]
      exact hm.elim (fun x => .inr ⟨x, h3⟩) .inl

/-- A whole array is written. -/
theorem opsC_storerow (hS : Fam P main Sh C) {ops : Array Oper} {i : Nat} {rest : List Nat} {o : Oper} (ho : ops[i]? = some o) (hw : Region.wanted o (yielded ops a.tmps) = true) {ty t : TypeId} {x y : Operand} {g : Nat} {old cs : Array Value}
    (hop : o.op = .store ty x y) (hi : (P.info? ty).map (·.size) = some cs.size) (hos : old.size = cs.size) (h1 : cs.all (·.oneCell') = true) (hx : a.eval x = .pointer (some ⟨g, 0, none⟩)) (hy : a.eval y = .agg cs) (hm : M.2 g) (hc : w.heap[g]? = some (.cells old t (0, 0)))
    (h : ∀ w₁, Rl Sh M.2 w w₁ → OpsC C fn ops rest Q (a.put o.dst undef) (w₁.setRow g cs) M) : OpsC C fn ops (i :: rest) Q a w M := by
  refine opsC_cons hS ho hw fun w₁ h₁ => ?_
  have hc' : w₁.heap[g]? = some (.cells old t (0, 0)) := (h₁.keep g (.inr hm)).trans hc
  have hr := run_storeVar_row (P := P) w₁ g t ty old cs hc' hi hos h1
  obtain ⟨ti, hinf, hsz⟩ := Option.map_eq_some_iff.1 hi
  have hrun : (execOp a.eval o).run P w₁ = .ok .skip (w₁.setRow g cs) := by
    unfold execOp
    simp [hop, Instr.storeAt, Instr.sureAddr, hx, hy, hr]
  have hsize : (w₁.setRow g cs).heap.size = w₁.heap.size := by unfold World.setRow; simp
  rw [hrun]
  refine ⟨⟨rfl, rfl, by rw [hsize]; exact Nat.le_refl _, fun k _ hk => ?_, fun ev he => ?_⟩, ?_⟩
  · unfold World.setRow
    have : k ≠ g := fun e => hk (e ▸ hm)
    simp [Array.getElem?_modify, Ne.symm this]
  · rw [grow_self M.2 _ _ hsize]
    have he' := mem_listed he
    unfold execOp at he'
    simp [hop, Instr.storeAt, Instr.sureAddr, hx, hy, storeVar, sizeOf, typeInfo, hinf, hsz, Value.cells] at he'
    rcases events_storeCells_at (P := P) g 0 t cs.toList 0 old w₁ _ hc' (by simp; omega) (fun v hv => (Array.all_eq_true_iff_forall_mem.1 h1) v (by simpa using hv)) ev he' with h2 | ⟨ad, h2, h3⟩
    · simp at h2
    · exact evM_cell h2 (.inl (by rw [h3]; exact hm))
  · rw [grow_self M.2 _ _ hsize]; exact h w₁ h₁

/-- A variable is made of a value. -/
theorem opsC_box (hS : Fam P main Sh C) {ops : Array Oper} {i : Nat} {rest : List Nat} {o : Oper} (ho : ops[i]? = some o) (hw : Region.wanted o (yielded ops a.tmps) = true) {t : TypeId} {x : Operand} {v : Value} (hop : o.op = .box t x) (hx : a.eval x = v)
    (h : ∀ w₁, Rl Sh M.2 w w₁ → OpsC C fn ops rest Q (a.put o.dst (.pointer (some ⟨w₁.heap.size, 0, none⟩))) (w₁.alloc (.cells v.cells t)) (M.1, grow M.2 w₁ (w₁.alloc (.cells v.cells t)))) : OpsC C fn ops (i :: rest) Q a w M := by
  refine opsC_new (ob := fun _ => .cells v.cells t) (v := fun w₁ => .pointer (some ⟨w₁.heap.size, 0, none⟩)) hS ho hw (fun w₁ _ => ?_) h
  unfold execOp
  simp [hop, hx, Instr.box, newVar, newRow]

/-- A variable is made, zero. -/
theorem opsC_alloc (hS : Fam P main Sh C) {ops : Array Oper} {i : Nat} {rest : List Nat} {o : Oper} (ho : ops[i]? = some o) (hw : Region.wanted o (yielded ops a.tmps) = true) {t : TypeId} {ti : TypeInfo} {z : Value} (hop : o.op = .alloc t)
    (hi : P.info? t = some ti) (hz : ti.zero = some z)
    (h : ∀ w₁, Rl Sh M.2 w w₁ → OpsC C fn ops rest Q (a.put o.dst (.pointer (some ⟨w₁.heap.size, 0, none⟩))) (w₁.alloc (.cells z.cells t)) (M.1, grow M.2 w₁ (w₁.alloc (.cells z.cells t)))) : OpsC C fn ops (i :: rest) Q a w M := by
  refine opsC_new (ob := fun _ => .cells z.cells t) (v := fun w₁ => .pointer (some ⟨w₁.heap.size, 0, none⟩)) hS ho hw (fun w₁ _ => ?_) h
  unfold execOp
  simp [hop, Instr.alloc, newVar, newRow, zeroValue, typeInfo, hi, hz]

/-- A slice is made of its parts. -/
theorem opsC_buildSlice (hS : Fam P main Sh C) {ops : Array Oper} {i : Nat} {rest : List Nat} {o : Oper} (ho : ops[i]? = some o) (hw : Region.wanted o (yielded ops a.tmps) = true) {t e : TypeId} {len : Nat} {parts : Array (Nat × Operand)} {ti : TypeInfo} {z : Value} {cells : Array Value}
    (hop : o.op = .buildSlice t len parts) (hu : P.underlying t = some (.slice e)) (hi : P.info? e = some ti) (hz : ti.zero = some z) (h1 : ti.size = 1) (hl : len ≤ 1000)
    (hf : Instr.fill (fun i => some (i * 1, 1)) ((Array.range (len * 1)).map (fun j => (if len = 0 then #[] else z.cells)[j % (if len = 0 then #[] else z.cells).size]!)) (parts.map fun (i, x) => (i, a.eval x)).toList = some cells)
    (h : ∀ w₁, Rl Sh M.2 w w₁ → OpsC C fn ops rest Q (a.put o.dst (.slice (some ⟨w₁.heap.size, 0, none⟩) len len)) (w₁.alloc (.cells cells e)) (M.1, grow M.2 w₁ (w₁.alloc (.cells cells e)))) : OpsC C fn ops (i :: rest) Q a w M := by
  refine opsC_new (ob := fun _ => .cells cells e) (v := fun w₁ => .slice (some ⟨w₁.heap.size, 0, none⟩) len len) hS ho hw (fun w₁ _ => ?_) h
  have hs : ¬ 16777216 < len * 1 := by omega
  unfold execOp
  by_cases h0 : len = 0
  · subst h0
    simp only [if_true] at hf
    simp [hop, Instr.buildSlice, run_underlying hu, sizeOf, typeInfo, hi, h1, newRow] at hf ⊢
    rw [hf]
    simp
  · simp only [if_neg h0] at hf
    simp [hop, Instr.buildSlice, run_underlying hu, sizeOf, typeInfo, zeroValue, hi, hz, h1, newRow, h0, show ¬ 16777216 < len by omega] at hf ⊢
    rw [hf]
    simp

end

/-- From here to there: the script stands where it stood, what is one's own has grown by new blocks alone, and what was one's own or shared is as it was. -/
structure Fwd (Sh : Nat → Prop) {ι : Type} (w : World) (M : Gh ι) (w' : World) (M' : Gh ι) : Prop where
  ix : M'.1 = M.1
  up : ∀ k, M.2 k → M'.2 k
  new : ∀ k, M'.2 k → M.2 k ∨ w.heap.size ≤ k
  rl : Rl Sh M.2 w w'
theorem Fwd.refl (Sh : Nat → Prop) {ι : Type} (w : World) (M : Gh ι) : Fwd Sh w M w M := ⟨rfl, fun _ h => h, fun _ h => .inl h, Rl.refl _ _ _⟩
theorem Fwd.trans {Sh : Nat → Prop} {ι : Type} {a b c : World} {M N L : Gh ι} (h : Fwd Sh a M b N) (k : Fwd Sh b N c L) : Fwd Sh a M c L :=
  ⟨k.ix.trans h.ix, fun x hx => k.up x (h.up x hx), fun x hx => (k.new x hx).elim (h.new x) fun e => .inr (Nat.le_trans h.rl.size e), h.rl.trans (k.rl.mono h.up)⟩
theorem Fwd.rely {Sh : Nat → Prop} {ι : Type} {w w' w₁ : World} {M M' : Gh ι} (h : Fwd Sh w M w' M') (hr : Rl Sh M'.2 w' w₁) : Fwd Sh w M w₁ M' :=
  ⟨h.ix, h.up, h.new, h.rl.trans (hr.mono h.up)⟩
/-- All that is one's own or shared is there. -/
def There (Sh : Nat → Prop) {ι : Type} (w : World) (M : Gh ι) : Prop := ∀ k, Sh k ∨ M.2 k → k < w.heap.size
theorem There.rely {Sh : Nat → Prop} {ι : Type} {w w₁ : World} {M : Gh ι} (h : There Sh w M) (hr : Rl Sh M.2 w w₁) : There Sh w₁ M := fun k hk => Nat.lt_of_lt_of_le (h k hk) hr.size
theorem There.grown {Sh : Nat → Prop} {ι : Type} {w w₁ w' : World} {M : Gh ι} (h : There Sh w M) (hr : Rl Sh M.2 w w₁) (hs : w₁.heap.size ≤ w'.heap.size) : There Sh w' ((M.1, grow M.2 w₁ w') : Gh ι) := fun k hk => by
  rcases hk with hk | hk | hk
  · have := h k (.inl hk); have := hr.size; omega
  · have := h k (.inr hk); have := hr.size; omega
  · exact hk.2
/-- A step that writes one block of one's own that is new since w, and makes blocks. -/
theorem Fwd.grown {Sh : Nat → Prop} {ι : Type} {w0 w w₁ w' : World} {M0 M : Gh ι} (h : Fwd Sh w0 M0 w M) (hr : Rl Sh M.2 w w₁) {row : Option Nat} (hg : w₁.grownBy w' row) (hrow : ∀ k, row = some k → w0.heap.size ≤ k) (hok : There Sh w0 M0) :
    Fwd Sh w0 M0 w' ((M.1, grow M.2 w₁ w') : Gh ι) := by
  have hs := h.rl.size
  have hs1 := hr.size
  refine ⟨h.ix, fun k hk => .inl (h.up k hk), fun k hk => ?_, ⟨hg.os.trans (hr.os.trans h.rl.os), hg.output.trans (hr.output.trans h.rl.output), by have := hg.size; omega, fun k hk => ?_⟩⟩
  · rcases hk with hk | ⟨hk, _⟩
    · exact h.new k hk
    · exact .inr (by omega)
  · have hlt := hok k hk
    have hne : some k ≠ row := fun e => by have := hrow k e.symm; omega
    rw [hg.block k (by omega) hne, hr.keep k (hk.imp id (h.up k)), h.rl.keep k hk]
theorem grownBy_refl (w : World) (row : Option Nat) : w.grownBy w row := ⟨rfl, rfl, rfl, Nat.le_refl _, fun _ _ _ => rfl⟩
theorem grownBy_drew {w w' : World} {row : Option Nat} (h : w.drew.grownBy w' row) : w.grownBy w' row := ⟨h.os, h.tape, h.output, h.size, h.block⟩
theorem grownBy_setRow (w : World) (g : Nat) (cs : Array Value) : w.grownBy (w.setRow g cs) (some g) := by
  refine ⟨rfl, rfl, rfl, by simp [World.setRow], fun k _ hk => ?_⟩
  have hne : k ≠ g := fun e => hk (by rw [e])
  simp [World.setRow, Array.getElem?_modify, Ne.symm hne]
theorem grownBy_setCell (w : World) (ad : Addr) (v : Value) : w.grownBy (w.setCell ad v) (some ad.block) := by
  refine ⟨rfl, rfl, rfl, by rw [setCell_size]; exact Nat.le_refl _, fun k _ hk => setCell_other _ _ _ fun e => hk (by rw [e])⟩
theorem grow_same {ι : Type} (M : Gh ι) {w w' : World} (h : w'.heap.size = w.heap.size) : ((M.1, grow M.2 w w') : Gh ι) = M := by rw [grow_self M.2 w w' h]

end Go.Proofs.Ytjphaphnmclbcaa

/- Quick rules for operations that look at no memory, for one of the two goroutines under way. No condition. -/
namespace Go.Proofs.Ytjphaphnmclbcaa
open Go Go.Conc

section
variable {P : Program} {main : Bool} {Sh : Nat → Prop} {ι : Type} {C : Gh ι → Goroutine → World → Prop} {fn : FuncId} {Q : Exit → Act → World → Gh ι → Prop} {a a' : Act} {w : World} {M : Gh ι} {ops : Array Oper} {i : Nat} {rest : List Nat} {o : Oper}

theorem opsC_move (hS : Fam P main Sh C) (ho : ops[i]? = some o) (hw : Region.wanted o (yielded ops a.tmps) = true) {x : Operand} (hop : o.op = .move x ∨ o.op = .assign x) (ha : a.put o.dst (a.eval x) = a')
    (h : OpsC C fn ops rest Q a' w M) : OpsC C fn ops (i :: rest) Q a w M := by
  refine opsC_pure hS ho hw (v := a.eval x) (fun w => ?_) (ha ▸ h)
  unfold execOp
  rcases hop with hop | hop <;> simp [hop] <;> rfl

/-- Two ints, compared or reckoned with. -/
def int2 : BinOp → Int → Int → Option Value
  | .lss, m, n => some (.bool (decide (m < n)))
  | .gtr, m, n => some (.bool (decide (m > n)))
  | .leq, m, n => some (.bool (decide (m ≤ n)))
  | .geq, m, n => some (.bool (decide (m ≥ n)))
  | .eql, m, n => some (.bool (m == n))
  | .neq, m, n => some (.bool (m != n))
  | .add, m, n => some (.int .i64 (IntKind.i64.wrap (m + n)))
  | .sub, m, n => some (.int .i64 (IntKind.i64.wrap (m - n)))
  | _, _, _ => none

theorem opsC_val (hS : Fam P main Sh C) (ho : ops[i]? = some o) (hw : Region.wanted o (yielded ops a.tmps) = true) {v : Value} (hr : ∀ w, (execOp a.eval o).run P w = .ok (.value v) w) (he : ∀ w, (execOp a.eval o).events P w #[] = #[]) (ha : a.put o.dst v = a')
    (h : OpsC C fn ops rest Q a' w M) : OpsC C fn ops (i :: rest) Q a w M := by
  refine opsC_plain hS ho hw fun w₁ K hK => ?_
  rw [hr]
  exact hK _ (he _) (ha ▸ h)

theorem opsC_bin (hS : Fam P main Sh C) (ho : ops[i]? = some o) (hw : Region.wanted o (yielded ops a.tmps) = true) {b : BinOp} {t ty : TypeId} {x y : Operand} {m n : Int} {v : Value} (hop : o.op = .binOp b t x y ty) (hx : a.eval x = .int .i64 m) (hy : a.eval y = .int .i64 n)
    (hv : int2 b m n = some v) (ha : a.put o.dst v = a') (h : OpsC C fn ops rest Q a' w M) : OpsC C fn ops (i :: rest) Q a w M := by
  refine opsC_val hS ho hw (v := v) (fun w => ?_) (fun w => ?_) ha h <;> unfold execOp <;> cases b <;> simp [int2] at hv <;> subst hv <;> simp only [hop, hx, hy] <;> simp [go_sem]

theorem opsC_len (hS : Fam P main Sh C) (ho : ops[i]? = some o) (hw : Region.wanted o (yielded ops a.tmps) = true) {t : TypeId} {x : Operand} {b : Option Addr} {n c : Nat} (hop : o.op = .call { callee := .builtin .len, args := #[x], argTypes := #[t] }) (ht : P.underlying t = some (.slice (P.elem t))) (hx : a.eval x = .slice b n c)
    (ha : a.put o.dst (.int .i64 n) = a') (h : OpsC C fn ops rest Q a' w M) : OpsC C fn ops (i :: rest) Q a w M := by
  refine opsC_val hS ho hw (v := .int .i64 n) (fun w => ?_) (fun w => ?_) ha h
  · unfold execOp
    simp only [hop, resolve, invoke, builtin, Sem.run_bind, Sem.run_pure, Result.andThen_ok, List.map_toArray, List.map_cons, List.map_nil, hx]
    rw [run_len_slice _ _ _ _ _ _ ht]
    rfl
  · unfold execOp
    simp only [hop, resolve, invoke, builtin, Sem.events_bind, Sem.events_pure, Sem.run_pure, Result.evThen_ok, List.map_toArray, List.map_cons, List.map_nil, hx]
    rw [events_len_slice _ _ _ _ _ ht]
    simp [run_len_slice _ _ _ _ _ _ ht]
theorem opsC_moveA (hS : Fam P main Sh C) (ho : ops[i]? = some o) (hw : Region.wanted o (yielded ops a.tmps) = true) {x : Operand} (hop : o.op = .move x ∨ o.op = .assign x)
    (h : OpsC C fn ops rest Q a' w M) (ha : a.put o.dst (a.eval x) = a' := by (with_reducible simp only [Act.put, Act.eval, Array.getD_eq_getD_getElem?, List.getElem?_toArray, List.getElem_toArray, List.getElem_cons_zero, List.getElem_cons_succ, List.getElem?_cons_zero, List.getElem?_cons_succ, Option.getD_some, List.setIfInBounds_toArray, List.set_cons_zero, List.set_cons_succ]); exact rfl) : OpsC C fn ops (i :: rest) Q a w M := opsC_move hS ho hw hop ha h
theorem opsC_binA (hS : Fam P main Sh C) (ho : ops[i]? = some o) (hw : Region.wanted o (yielded ops a.tmps) = true) {b : BinOp} {t ty : TypeId} {x y : Operand} {m n : Int} {v : Value} (hop : o.op = .binOp b t x y ty) (hx : a.eval x = .int .i64 m) (hy : a.eval y = .int .i64 n)
    (hv : int2 b m n = some v) (h : OpsC C fn ops rest Q a' w M) (ha : a.put o.dst v = a' := by (with_reducible simp only [Act.put, Act.eval, Array.getD_eq_getD_getElem?, List.getElem?_toArray, List.getElem_toArray, List.getElem_cons_zero, List.getElem_cons_succ, List.getElem?_cons_zero, List.getElem?_cons_succ, Option.getD_some, List.setIfInBounds_toArray, List.set_cons_zero, List.set_cons_succ]); exact rfl) : OpsC C fn ops (i :: rest) Q a w M := opsC_bin hS ho hw hop hx hy hv ha h
theorem opsC_lenA (hS : Fam P main Sh C) (ho : ops[i]? = some o) (hw : Region.wanted o (yielded ops a.tmps) = true) {t : TypeId} {x : Operand} {b : Option Addr} {n c : Nat} (hop : o.op = .call { callee := .builtin .len, args := #[x], argTypes := #[t] }) (ht : P.underlying t = some (.slice (P.elem t))) (hx : a.eval x = .slice b n c)
    (h : OpsC C fn ops rest Q a' w M) (ha : a.put o.dst (.int .i64 n) = a' := by (with_reducible simp only [Act.put, Act.eval, Array.getD_eq_getD_getElem?, List.getElem?_toArray, List.getElem_toArray, List.getElem_cons_zero, List.getElem_cons_succ, List.getElem?_cons_zero, List.getElem?_cons_succ, Option.getD_some, List.setIfInBounds_toArray, List.set_cons_zero, List.set_cons_succ]); exact rfl) : OpsC C fn ops (i :: rest) Q a w M := opsC_len hS ho hw hop ht hx ha h
end

end Go.Proofs.Ytjphaphnmclbcaa

/- slices.Grow of nothing, for one of the two goroutines under way. No condition. -/
namespace Go.Proofs.Ytjphaphnmclbcaa
open Go Go.Conc Go.RowKit

/-- What is made in company: the value u owns the numbers ys, in blocks of one's own that are new. -/
structure MadeC (Sh : Nat → Prop) {ι : Type} (w : World) (M : Gh ι) (ys : List Int) (u : Value) (w' : World) (M' : Gh ι) : Prop where
  fwd : Fwd Sh w M w' M'
  own : Own w' w.heap.size u ys
  mine : ∀ k, u.ownBlock = some k → M'.2 k
  there : There Sh w' M'

set_option linter.unusedSimpArgs false in
set_option maxHeartbeats 2000000 in
theorem growC {main : Bool} {Sh : Nat → Prop} {ι : Type} {C : Gh ι → Goroutine → World → Prop} (hS : Fam Try.prog main Sh C) (n : Nat) (h0 : 0 < n) (hn : n ≤ 2000) (w : World) (M : Gh ι) (hM : There Sh w M) :
    CallsC Try.prog C 112 #[.slice none 0 0, .int .i64 n] w M (MadeC Sh w M []) := by
  have h1 : ¬ (n : Int) < 0 := by omega
  have h2 : 0 < (n : Int) := by omega
  refine callsC_of_wpC hS Try.func112 rfl ?_
  simp only [Try.ntmps112, List.size_toArray, List.length_cons, List.length_nil, Nat.reduceAdd, Nat.reduceSub, Array.replicate_succ,
     Array.replicate_zero, List.push_toArray, List.append_toArray, List.nil_append, List.cons_append]
  refine wpC_seq hS ?_
  refine wpC_region hS ?_
  simp only [List.size_toArray, List.length_cons, List.length_nil, Nat.reduceAdd, Nat.zero_add, List.range, List.range.loop]
  repeat first
    | refine opsC_moveA hS rfl rfl (.inl rfl) ?_
    | refine opsC_moveA hS rfl rfl (.inr rfl) ?_
    | refine opsC_binA hS rfl rfl rfl rfl rfl rfl ?_
    | refine opsC_lenA hS rfl rfl rfl (by kernel_rfl) rfl ?_
    | (refine opsC_plain hS rfl rfl fun _ K hK => ?_; go_simp; refine hK _ (by simp [go_sem, events_cap_slice, events_slice_hi, *]) ?_; clear hK K; try walk_nrm)
  refine opsC_nil hS ?_
  show WpC _ _ _ _ _ _ _
  refine wpC_seq hS ?_
  refine wpC_seq hS ?_
  refine wpC_region hS ?_
  simp only [List.size_toArray, List.length_cons, List.length_nil, Nat.reduceAdd, Nat.zero_add, List.range, List.range.loop]
  repeat first
    | refine opsC_moveA hS rfl rfl (.inl rfl) ?_
    | refine opsC_moveA hS rfl rfl (.inr rfl) ?_
    | refine opsC_binA hS rfl rfl rfl rfl rfl rfl ?_
    | refine opsC_lenA hS rfl rfl rfl (by kernel_rfl) rfl ?_
    | (refine opsC_plain hS rfl rfl fun _ K hK => ?_; go_simp; refine hK _ (by simp [go_sem, events_cap_slice, events_slice_hi, *]) ?_; clear hK K; try walk_nrm)
  refine opsC_nil hS ?_
  show WpC _ _ _ _ _ _ _
  refine wpC_cond hS rfl ?_
  simp only [h1, decide_false, Bool.false_eq_true, if_false]
  refine wpC_skip hS ?_
  show WpC _ _ _ _ _ _ _
  refine wpC_seq hS ?_
  refine wpC_seq hS ?_
  refine wpC_region hS ?_
  simp only [List.size_toArray, List.length_cons, List.length_nil, Nat.reduceAdd, Nat.zero_add, List.range, List.range.loop]
  repeat (refine opsC_plain hS rfl rfl fun _ K hK => ?_; go_simp; refine hK _ (by simp [go_sem, events_cap_slice, events_slice_hi, *]) ?_; clear hK K; try walk_nrm)
  refine opsC_nil hS ?_
  show WpC _ _ _ _ _ _ _
  have ew : IntKind.i64.wrap ((n : Int) - IntKind.i64.wrap 0) = n := by
    have : IntKind.i64.wrap 0 = 0 := by decide
    rw [this, Int.sub_zero, IntKind.wrap_i64]; omega
  simp only [ew]
  refine wpC_seq hS ?_
  refine wpC_region hS ?_
  simp only [List.size_toArray, List.length_cons, List.length_nil, Nat.reduceAdd, Nat.zero_add, List.range, List.range.loop]
  repeat first
    | refine opsC_moveA hS rfl rfl (.inl rfl) ?_
    | refine opsC_moveA hS rfl rfl (.inr rfl) ?_
    | refine opsC_binA hS rfl rfl rfl rfl rfl rfl ?_
    | refine opsC_lenA hS rfl rfl rfl (by kernel_rfl) rfl ?_
    | (refine opsC_plain hS rfl rfl fun _ K hK => ?_; go_simp; refine hK _ (by simp [go_sem, events_cap_slice, events_slice_hi, *]) ?_; clear hK K; try walk_nrm)
  refine opsC_nil hS ?_
  show WpC _ _ _ _ _ _ _
  refine wpC_cond hS rfl ?_
  simp only [h2, decide_true, if_true]
  refine wpC_region hS ?_
  simp only [List.size_toArray, List.length_cons, List.length_nil, Nat.reduceAdd, Nat.zero_add, List.range, List.range.loop]
  repeat first
    | refine opsC_moveA hS rfl rfl (.inl rfl) ?_
    | refine opsC_moveA hS rfl rfl (.inr rfl) ?_
    | refine opsC_binA hS rfl rfl rfl rfl rfl rfl ?_
    | refine opsC_lenA hS rfl rfl rfl (by kernel_rfl) rfl ?_
    | (refine opsC_plain hS rfl rfl fun _ K hK => ?_; go_simp; refine hK _ (by simp [go_sem, events_cap_slice, events_slice_hi, *]) ?_; clear hK K; try walk_nrm)
  obtain ⟨i0, hi, hz0, hz1, hz2⟩ := info_parts infoI
  refine opsC_appzeros hS rfl rfl _ _ 23 3 rfl 3 i0 (.int .i64 0) .i64 .i64 Try.underlying23 Try.underlying3 hi hz0 hz1 (by rw [hz2]; decide) n h0 (by omega) rfl rfl ?_
  intro w₁ c w' h₁ hc hc63 hw'
  have hg : w₁.grownBy w' none := by rw [hw']; exact grownBy_drew (World.grownBy_alloc _ _ _)
  have hsz : w₁.heap.size < w'.heap.size := by rw [hw', World.size_alloc]; exact Nat.lt_succ_self _
  have hf : Fwd Sh w M w' ((M.1, grow M.2 w₁ w') : Gh ι) := (Fwd.refl Sh w M).grown h₁ hg (fun k hk => by cases hk) hM
  have ho : Own w' w.heap.size (.slice (some ⟨w₁.heap.size, 0, none⟩) 0 c) [] := by
    refine ⟨rfl, Or.inr ⟨w₁.heap.size, c, _, rfl, h₁.size, by rw [hw']; exact heap_alloc_new w₁.drew _, Nat.zero_le _, by unfold maxLen; omega, ?_, rfl⟩⟩
    simp [Builtin.zeroCells, Value.cells]
    omega
  have hm : grow M.2 w₁ w' w₁.heap.size := .inr ⟨Nat.le_refl _, hsz⟩
  clear hw' hg
  repeat first
    | refine opsC_moveA hS rfl rfl (.inl rfl) ?_
    | refine opsC_moveA hS rfl rfl (.inr rfl) ?_
    | refine opsC_binA hS rfl rfl rfl rfl rfl rfl ?_
    | refine opsC_lenA hS rfl rfl rfl (by kernel_rfl) rfl ?_
    | (refine opsC_plain hS rfl rfl fun _ K hK => ?_; go_simp; refine hK _ (by simp [go_sem, events_cap_slice, events_slice_hi, *]) ?_; clear hK K; try walk_nrm)
  refine opsC_nil hS ?_
  show WpC _ _ _ _ _ _ _
  refine wpC_seq hS ?_
  refine wpC_region hS ?_
  simp only [List.size_toArray, List.length_cons, List.length_nil, Nat.reduceAdd, Nat.zero_add, List.range, List.range.loop]
  repeat first
    | refine opsC_moveA hS rfl rfl (.inl rfl) ?_
    | refine opsC_moveA hS rfl rfl (.inr rfl) ?_
    | refine opsC_binA hS rfl rfl rfl rfl rfl rfl ?_
    | refine opsC_lenA hS rfl rfl rfl (by kernel_rfl) rfl ?_
    | (refine opsC_plain hS rfl rfl fun _ K hK => ?_; go_simp; refine hK _ (by simp [go_sem, events_cap_slice, events_slice_hi, *]) ?_; clear hK K; try walk_nrm)
  refine opsC_nil hS ?_
  show WpC _ _ _ _ _ _ _
  refine wpC_ret hS ⟨rfl, _, resultsC_tmp rfl _, ?_⟩
  exact ⟨hf, ho, fun k hk => by cases hk; exact hm, hM.grown h₁ (Nat.le_of_lt hsz)⟩

end Go.Proofs.Ytjphaphnmclbcaa

/- slices.Concat of two lists, for one of the two goroutines under way. No condition. -/
namespace Go.Proofs.Ytjphaphnmclbcaa
open Go Go.Conc Go.RowKit

/-- A list of one's own or shared that can be read. -/
structure SlC (Sh : Nat → Prop) {ι : Type} (w : World) (M : Gh ι) (ad : Addr) (n : Nat) (xs : List Int) : Prop where
  len : xs.length = n
  at_ : Sh ad.block ∨ M.2 ad.block
  cell : ∀ j u, (xs.map (Value.int .i64))[j]? = some u → w.cell? (ad.add j) = some u
theorem SlC.fwd {Sh : Nat → Prop} {ι : Type} {w w' : World} {M M' : Gh ι} {ad : Addr} {n : Nat} {xs : List Int} (h : SlC Sh w M ad n xs) (hf : Fwd Sh w M w' M') : SlC Sh w' M' ad n xs :=
  ⟨h.len, h.at_.imp id (hf.up _), fun j u hj => (cell_eq (by rw [addBlock]; exact hf.rl.keep _ h.at_)).trans (h.cell j u hj)⟩
theorem SlC.rely {Sh : Nat → Prop} {ι : Type} {w w₁ : World} {M : Gh ι} {ad : Addr} {n : Nat} {xs : List Int} (h : SlC Sh w M ad n xs) (hr : Rl Sh M.2 w w₁) : SlC Sh w₁ M ad n xs :=
  ⟨h.len, h.at_, fun j u hj => (cell_eq (by rw [addBlock]; exact hr.keep _ h.at_)).trans (h.cell j u hj)⟩

theorem Fwd.cell {Sh : Nat → Prop} {ι : Type} {w w' : World} {M M' : Gh ι} (hf : Fwd Sh w M w' M') {ad : Addr} (h : Sh ad.block ∨ M.2 ad.block) : w'.cell? ad = w.cell? ad := cell_eq (hf.rl.keep _ h)

/-- append(out, list...), out made in company. -/
theorem opsC_app_made {main : Bool} {Sh : Nat → Prop} {ι : Type} {C : Gh ι → Goroutine → World → Prop} {fn : FuncId} {Q : Exit → Act → World → Gh ι → Prop} {a : Act} {w w0 : World} {M M0 : Gh ι} (hS : Fam Try.prog main Sh C)
    {ops : Array Oper} {i : Nat} {rest : List Nat} {o : Oper} (ho : ops[i]? = some o) (hw : Region.wanted o (yielded ops a.tmps) = true) (s x : Operand)
    (hop : o.op = .call { callee := .builtin .append, args := #[s, x], argTypes := #[23, 23] }) (hM0 : There Sh w0 M0) {ys zs : List Int} {u : Value} (m : MadeC Sh w0 M0 ys u w M) (hs : a.eval s = u) {A : Addr} {n c : Nat} (hx : a.eval x = .slice (some A) n c)
    (hl : SlC Sh w M A n zs) (hlen : ys.length + n ≤ 2000000) (h : ∀ u' w' M', MadeC Sh w0 M0 (ys ++ zs) u' w' M' → OpsC C fn ops rest Q (a.put o.dst u') w' M') : OpsC C fn ops (i :: rest) Q a w M := by
  obtain ⟨i0, hi, hz0, hz1, hz2⟩ := info_parts infoI
  refine opsC_append hS ho hw s x 23 hop w0.heap.size 3 i0 (.int .i64 0) Try.underlying23 hi hz0 hz1 (by rw [hz2]; decide) rfl u ys.length (ys.map (Value.int .i64)) hs m.own m.mine A n c (zs.map (Value.int .i64)) hx hl.at_
    (by rw [List.length_map]; exact hl.len) hl.cell (by intro v hv; obtain ⟨_, _, rfl⟩ := List.mem_map.1 hv; rfl) hlen m.fwd.rl.size ?_
  intro w₁ u' w' h₁ hown hk hg hm
  refine h u' w' _ ⟨m.fwd.grown h₁ hg (fun k hk => (World.ownsRow.lt m.own k hk).1) hM0, ?_, hm, m.there.grown h₁ hg.size⟩
  unfold Own
  rw [List.length_append, List.map_append, hl.len]
  exact hown

set_option linter.unusedSimpArgs false in
set_option maxHeartbeats 4000000 in
theorem concatC {main : Bool} {Sh : Nat → Prop} {ι : Type} {C : Gh ι → Goroutine → World → Prop} (hS : Fam Try.prog main Sh C) (w : World) (M : Gh ι) (hM : There Sh w M) (g : Nat) (hg : M.2 g) (A1 A2 : Addr) (n1 n2 c1 c2 : Nat) (xs ys : List Int)
    (hc1 : w.cell? ⟨g, 0, none⟩ = some (.slice (some A1) n1 c1)) (hc2 : w.cell? ⟨g, 1, none⟩ = some (.slice (some A2) n2 c2)) (h1 : SlC Sh w M A1 n1 xs) (h2 : SlC Sh w M A2 n2 ys) (hn1 : n1 ≤ 100) (hn2 : 0 < n2) (hn3 : n2 ≤ 100) :
    CallsC Try.prog C 111 #[.slice (some ⟨g, 0, none⟩) 2 2] w M (MadeC Sh w M (xs ++ ys)) := by
  refine callsC_of_wpC hS Try.func111 rfl ?_
  simp only [Try.ntmps111, List.size_toArray, List.length_cons, List.length_nil, Nat.reduceAdd, Nat.reduceSub, Array.replicate_succ,
     Array.replicate_zero, List.push_toArray, List.append_toArray, List.nil_append, List.cons_append]
  refine wpC_seq hS ?_
  refine wpC_region hS ?_
  simp only [List.size_toArray, List.length_cons, List.length_nil, Nat.reduceAdd, Nat.zero_add, List.range, List.range.loop]
  repeat first
    | refine opsC_moveA hS rfl rfl (.inl rfl) ?_
    | refine opsC_moveA hS rfl rfl (.inr rfl) ?_
    | refine opsC_binA hS rfl rfl rfl rfl rfl rfl ?_
    | refine opsC_lenA hS rfl rfl rfl (by kernel_rfl) rfl ?_
    | (refine opsC_plain hS rfl rfl fun _ K hK => ?_; go_simp; refine hK _ (by simp [go_sem, events_cap_slice, events_slice_hi, *]) ?_; clear hK K; try walk_nrm)
  refine opsC_nil hS ?_
  show WpC _ _ _ _ _ _ _
  refine wpC_seq hS ?_
  refine wpC_region hS ?_
  simp only [List.size_toArray, List.length_cons, List.length_nil, Nat.reduceAdd, Nat.zero_add, List.range, List.range.loop]
  repeat first
    | refine opsC_moveA hS rfl rfl (.inl rfl) ?_
    | refine opsC_moveA hS rfl rfl (.inr rfl) ?_
    | refine opsC_binA hS rfl rfl rfl rfl rfl rfl ?_
    | refine opsC_lenA hS rfl rfl rfl (by kernel_rfl) rfl ?_
    | (refine opsC_plain hS rfl rfl fun _ K hK => ?_; go_simp; refine hK _ (by simp [go_sem, events_cap_slice, events_slice_hi, *]) ?_; clear hK K; try walk_nrm)
  refine opsC_nil hS ?_
  show WpC _ _ _ _ _ _ _
  refine wpC_seq hS ?_
  refine wpC_seq hS ?_
  refine wpC_region hS ?_
  simp only [List.size_toArray, List.length_cons, List.length_nil, Nat.reduceAdd, Nat.zero_add, List.range, List.range.loop]
  repeat first
    | refine opsC_moveA hS rfl rfl (.inl rfl) ?_
    | refine opsC_moveA hS rfl rfl (.inr rfl) ?_
    | refine opsC_binA hS rfl rfl rfl rfl rfl rfl ?_
    | refine opsC_lenA hS rfl rfl rfl (by kernel_rfl) rfl ?_
    | (refine opsC_plain hS rfl rfl fun _ K hK => ?_; go_simp; refine hK _ (by simp [go_sem, events_cap_slice, events_slice_hi, *]) ?_; clear hK K; try walk_nrm)
  refine opsC_nil hS ?_
  show WpC _ _ _ _ _ _ _
  refine wpC_block hS ?_
  refine wpC_loop_of hS ?_
  have e1 : IntKind.i64.wrap (0 + (n1 : Int)) = n1 := by rw [IntKind.wrap_i64]; omega
  have e2 : IntKind.i64.wrap ((n1 : Int) + n2) = ((n1 + n2 : Nat) : Int) := by rw [IntKind.wrap_i64]; omega
  have w1 : IntKind.i64.wrap (0 + 1) = 1 := by decide
  have w3 : IntKind.i64.wrap 1 = 1 := by decide
  have w4 : IntKind.i64.wrap 2 = 2 := by decide
  have w2 : IntKind.i64.wrap (1 + 1) = 2 := by decide
  have l1 : ¬ ((n1 : Int) < 0) := by omega
  have l2 : ¬ (((n1 + n2 : Nat) : Int) < 0) := by omega
  refine loopC_round hS ?_
  refine wpC_seq hS ?_
  refine wpC_region hS ?_
  simp only [List.size_toArray, List.length_cons, List.length_nil, Nat.reduceAdd, Nat.zero_add, List.range, List.range.loop]
  repeat first
    | refine opsC_moveA hS rfl rfl (.inl rfl) ?_
    | refine opsC_moveA hS rfl rfl (.inr rfl) ?_
    | refine opsC_binA hS rfl rfl rfl rfl rfl rfl ?_
    | refine opsC_lenA hS rfl rfl rfl (by kernel_rfl) rfl ?_
    | (refine opsC_plain hS rfl rfl fun _ K hK => ?_; go_simp; refine hK _ (by simp [go_sem, events_cap_slice, events_slice_hi, *]) ?_; clear hK K; try walk_nrm)
  refine opsC_nil hS ?_
  show WpC _ _ _ _ _ _ _
  refine wpC_seq hS ?_
  refine wpC_cond (t := true) hS (by first | rfl | simp [*]) ?_
  simp only [if_true, if_false, Bool.false_eq_true]
  refine wpC_skip hS ?_
  show WpC _ _ _ _ _ _ _
  refine wpC_seq hS ?_
  refine wpC_block hS ?_
  refine wpC_seq hS ?_
  refine wpC_region hS ?_
  simp only [List.size_toArray, List.length_cons, List.length_nil, Nat.reduceAdd, Nat.zero_add, List.range, List.range.loop]
  (refine opsC_plain hS rfl rfl fun _ K hK => ?_; go_simp; refine hK _ (by simp [go_sem, events_cap_slice, events_slice_hi, *]) ?_; clear hK K; try walk_nrm)
  refine opsC_load hS rfl rfl rfl (by kernel_rfl) rfl (.inr hg) (hc1) ?_
  repeat first
    | refine opsC_moveA hS rfl rfl (.inl rfl) ?_
    | refine opsC_moveA hS rfl rfl (.inr rfl) ?_
    | refine opsC_binA hS rfl rfl rfl rfl rfl rfl ?_
    | refine opsC_lenA hS rfl rfl rfl (by kernel_rfl) rfl ?_
    | (refine opsC_plain hS rfl rfl fun _ K hK => ?_; go_simp; refine hK _ (by simp [go_sem, events_cap_slice, events_slice_hi, *]) ?_; clear hK K; try walk_nrm)
  refine opsC_nil hS ?_
  show WpC _ _ _ _ _ _ _
  refine wpC_seq hS ?_
  refine wpC_region hS ?_
  simp only [List.size_toArray, List.length_cons, List.length_nil, Nat.reduceAdd, Nat.zero_add, List.range, List.range.loop]
  repeat first
    | refine opsC_moveA hS rfl rfl (.inl rfl) ?_
    | refine opsC_moveA hS rfl rfl (.inr rfl) ?_
    | refine opsC_binA hS rfl rfl rfl rfl rfl rfl ?_
    | refine opsC_lenA hS rfl rfl rfl (by kernel_rfl) rfl ?_
    | (refine opsC_plain hS rfl rfl fun _ K hK => ?_; go_simp; refine hK _ (by simp [go_sem, events_cap_slice, events_slice_hi, *]) ?_; clear hK K; try walk_nrm)
  refine opsC_nil hS ?_
  show WpC _ _ _ _ _ _ _
  try simp only [e1]
  refine wpC_seq hS ?_
  refine wpC_region hS ?_
  simp only [List.size_toArray, List.length_cons, List.length_nil, Nat.reduceAdd, Nat.zero_add, List.range, List.range.loop]
  repeat first
    | refine opsC_moveA hS rfl rfl (.inl rfl) ?_
    | refine opsC_moveA hS rfl rfl (.inr rfl) ?_
    | refine opsC_binA hS rfl rfl rfl rfl rfl rfl ?_
    | refine opsC_lenA hS rfl rfl rfl (by kernel_rfl) rfl ?_
    | (refine opsC_plain hS rfl rfl fun _ K hK => ?_; go_simp; refine hK _ (by simp [go_sem, events_cap_slice, events_slice_hi, *]) ?_; clear hK K; try walk_nrm)
  refine opsC_nil hS ?_
  show WpC _ _ _ _ _ _ _
  refine wpC_cond (t := false) hS (by first | rfl | simp [*]) ?_
  simp only [if_true, if_false, Bool.false_eq_true]
  refine wpC_skip hS ?_
  show WpC _ _ _ _ _ _ _
  refine wpC_region hS ?_
  simp only [List.size_toArray, List.length_cons, List.length_nil, Nat.reduceAdd, Nat.zero_add, List.range, List.range.loop]
  repeat first
    | refine opsC_moveA hS rfl rfl (.inl rfl) ?_
    | refine opsC_moveA hS rfl rfl (.inr rfl) ?_
    | refine opsC_binA hS rfl rfl rfl rfl rfl rfl ?_
    | refine opsC_lenA hS rfl rfl rfl (by kernel_rfl) rfl ?_
    | (refine opsC_plain hS rfl rfl fun _ K hK => ?_; go_simp; refine hK _ (by simp [go_sem, events_cap_slice, events_slice_hi, *]) ?_; clear hK K; try walk_nrm)
  refine opsC_nil hS ?_
  show LoopC _ _ _ _ _ _ _
  try simp only [w1, w2, w3, w4]
  refine loopC_round hS ?_
  refine wpC_seq hS ?_
  refine wpC_region hS ?_
  simp only [List.size_toArray, List.length_cons, List.length_nil, Nat.reduceAdd, Nat.zero_add, List.range, List.range.loop]
  repeat first
    | refine opsC_moveA hS rfl rfl (.inl rfl) ?_
    | refine opsC_moveA hS rfl rfl (.inr rfl) ?_
    | refine opsC_binA hS rfl rfl rfl rfl rfl rfl ?_
    | refine opsC_lenA hS rfl rfl rfl (by kernel_rfl) rfl ?_
    | (refine opsC_plain hS rfl rfl fun _ K hK => ?_; go_simp; refine hK _ (by simp [go_sem, events_cap_slice, events_slice_hi, *]) ?_; clear hK K; try walk_nrm)
  refine opsC_nil hS ?_
  show WpC _ _ _ _ _ _ _
  refine wpC_seq hS ?_
  refine wpC_cond (t := true) hS (by first | rfl | simp [*]) ?_
  simp only [if_true, if_false, Bool.false_eq_true]
  refine wpC_skip hS ?_
  show WpC _ _ _ _ _ _ _
  refine wpC_seq hS ?_
  refine wpC_block hS ?_
  refine wpC_seq hS ?_
  refine wpC_region hS ?_
  simp only [List.size_toArray, List.length_cons, List.length_nil, Nat.reduceAdd, Nat.zero_add, List.range, List.range.loop]
  (refine opsC_plain hS rfl rfl fun _ K hK => ?_; go_simp; refine hK _ (by simp [go_sem, events_cap_slice, events_slice_hi, *]) ?_; clear hK K; try walk_nrm)
  refine opsC_load hS rfl rfl rfl (by kernel_rfl) rfl (.inr hg) (hc2) ?_
  repeat first
    | refine opsC_moveA hS rfl rfl (.inl rfl) ?_
    | refine opsC_moveA hS rfl rfl (.inr rfl) ?_
    | refine opsC_binA hS rfl rfl rfl rfl rfl rfl ?_
    | refine opsC_lenA hS rfl rfl rfl (by kernel_rfl) rfl ?_
    | (refine opsC_plain hS rfl rfl fun _ K hK => ?_; go_simp; refine hK _ (by simp [go_sem, events_cap_slice, events_slice_hi, *]) ?_; clear hK K; try walk_nrm)
  refine opsC_nil hS ?_
  show WpC _ _ _ _ _ _ _
  refine wpC_seq hS ?_
  refine wpC_region hS ?_
  simp only [List.size_toArray, List.length_cons, List.length_nil, Nat.reduceAdd, Nat.zero_add, List.range, List.range.loop]
  repeat first
    | refine opsC_moveA hS rfl rfl (.inl rfl) ?_
    | refine opsC_moveA hS rfl rfl (.inr rfl) ?_
    | refine opsC_binA hS rfl rfl rfl rfl rfl rfl ?_
    | refine opsC_lenA hS rfl rfl rfl (by kernel_rfl) rfl ?_
    | (refine opsC_plain hS rfl rfl fun _ K hK => ?_; go_simp; refine hK _ (by simp [go_sem, events_cap_slice, events_slice_hi, *]) ?_; clear hK K; try walk_nrm)
  refine opsC_nil hS ?_
  show WpC _ _ _ _ _ _ _
  try simp only [e2]
  refine wpC_seq hS ?_
  refine wpC_region hS ?_
  simp only [List.size_toArray, List.length_cons, List.length_nil, Nat.reduceAdd, Nat.zero_add, List.range, List.range.loop]
  repeat first
    | refine opsC_moveA hS rfl rfl (.inl rfl) ?_
    | refine opsC_moveA hS rfl rfl (.inr rfl) ?_
    | refine opsC_binA hS rfl rfl rfl rfl rfl rfl ?_
    | refine opsC_lenA hS rfl rfl rfl (by kernel_rfl) rfl ?_
    | (refine opsC_plain hS rfl rfl fun _ K hK => ?_; go_simp; refine hK _ (by simp [go_sem, events_cap_slice, events_slice_hi, *]) ?_; clear hK K; try walk_nrm)
  refine opsC_nil hS ?_
  show WpC _ _ _ _ _ _ _
  refine wpC_cond (t := false) hS (by first | rfl | simp [*]) ?_
  simp only [if_true, if_false, Bool.false_eq_true]
  refine wpC_skip hS ?_
  show WpC _ _ _ _ _ _ _
  refine wpC_region hS ?_
  simp only [List.size_toArray, List.length_cons, List.length_nil, Nat.reduceAdd, Nat.zero_add, List.range, List.range.loop]
  repeat first
    | refine opsC_moveA hS rfl rfl (.inl rfl) ?_
    | refine opsC_moveA hS rfl rfl (.inr rfl) ?_
    | refine opsC_binA hS rfl rfl rfl rfl rfl rfl ?_
    | refine opsC_lenA hS rfl rfl rfl (by kernel_rfl) rfl ?_
    | (refine opsC_plain hS rfl rfl fun _ K hK => ?_; go_simp; refine hK _ (by simp [go_sem, events_cap_slice, events_slice_hi, *]) ?_; clear hK K; try walk_nrm)
  refine opsC_nil hS ?_
  show LoopC _ _ _ _ _ _ _
  try simp only [w1, w2, w3, w4]
  refine loopC_round hS ?_
  refine wpC_seq hS ?_
  refine wpC_region hS ?_
  simp only [List.size_toArray, List.length_cons, List.length_nil, Nat.reduceAdd, Nat.zero_add, List.range, List.range.loop]
  repeat first
    | refine opsC_moveA hS rfl rfl (.inl rfl) ?_
    | refine opsC_moveA hS rfl rfl (.inr rfl) ?_
    | refine opsC_binA hS rfl rfl rfl rfl rfl rfl ?_
    | refine opsC_lenA hS rfl rfl rfl (by kernel_rfl) rfl ?_
    | (refine opsC_plain hS rfl rfl fun _ K hK => ?_; go_simp; refine hK _ (by simp [go_sem, events_cap_slice, events_slice_hi, *]) ?_; clear hK K; try walk_nrm)
  refine opsC_nil hS ?_
  show WpC _ _ _ _ _ _ _
  refine wpC_seq hS ?_
  refine wpC_cond (t := false) hS (by first | rfl | simp [*]) ?_
  simp only [if_true, if_false, Bool.false_eq_true]
  refine wpC_exit hS ?_
  show WpC _ _ _ _ _ _ _
  refine wpC_seq hS ?_
  refine wpC_region hS ?_
  simp only [List.size_toArray, List.length_cons, List.length_nil, Nat.reduceAdd, Nat.zero_add, List.range, List.range.loop]
  (refine opsC_plain hS rfl rfl fun _ K hK => ?_; go_simp; refine hK _ (by simp [go_sem, events_cap_slice, events_slice_hi, *]) ?_; clear hK K; try walk_nrm)
  refine opsC_callF hS rfl rfl rfl Try.func112 (by kernel_rfl) rfl (by simp only [List.map_toArray, List.map_cons, List.map_nil]; rfl) (growC hS (n1 + n2) (by omega) (by omega) w M hM) ?_
  intro u wz M2 m2
  repeat first
    | refine opsC_moveA hS rfl rfl (.inl rfl) ?_
    | refine opsC_moveA hS rfl rfl (.inr rfl) ?_
    | refine opsC_binA hS rfl rfl rfl rfl rfl rfl ?_
    | refine opsC_lenA hS rfl rfl rfl (by kernel_rfl) rfl ?_
    | (refine opsC_plain hS rfl rfl fun _ K hK => ?_; go_simp; refine hK _ (by simp [go_sem, events_cap_slice, events_slice_hi, *]) ?_; clear hK K; try walk_nrm)
  refine opsC_nil hS ?_
  show WpC _ _ _ _ _ _ _
  refine wpC_seq hS ?_
  refine wpC_seq hS ?_
  refine wpC_region hS ?_
  simp only [List.size_toArray, List.length_cons, List.length_nil, Nat.reduceAdd, Nat.zero_add, List.range, List.range.loop]
  repeat first
    | refine opsC_moveA hS rfl rfl (.inl rfl) ?_
    | refine opsC_moveA hS rfl rfl (.inr rfl) ?_
    | refine opsC_binA hS rfl rfl rfl rfl rfl rfl ?_
    | refine opsC_lenA hS rfl rfl rfl (by kernel_rfl) rfl ?_
    | (refine opsC_plain hS rfl rfl fun _ K hK => ?_; go_simp; refine hK _ (by simp [go_sem, events_cap_slice, events_slice_hi, *]) ?_; clear hK K; try walk_nrm)
  refine opsC_nil hS ?_
  show WpC _ _ _ _ _ _ _
  refine wpC_block hS ?_
  refine wpC_loop_of hS ?_
  refine loopC_round hS ?_
  refine wpC_seq hS ?_
  refine wpC_region hS ?_
  simp only [List.size_toArray, List.length_cons, List.length_nil, Nat.reduceAdd, Nat.zero_add, List.range, List.range.loop]
  repeat first
    | refine opsC_moveA hS rfl rfl (.inl rfl) ?_
    | refine opsC_moveA hS rfl rfl (.inr rfl) ?_
    | refine opsC_binA hS rfl rfl rfl rfl rfl rfl ?_
    | refine opsC_lenA hS rfl rfl rfl (by kernel_rfl) rfl ?_
    | (refine opsC_plain hS rfl rfl fun _ K hK => ?_; go_simp; refine hK _ (by simp [go_sem, events_cap_slice, events_slice_hi, *]) ?_; clear hK K; try walk_nrm)
  refine opsC_nil hS ?_
  show WpC _ _ _ _ _ _ _
  refine wpC_seq hS ?_
  refine wpC_cond (t := true) hS (by first | rfl | simp [*]) ?_
  simp only [if_true, if_false, Bool.false_eq_true]
  refine wpC_skip hS ?_
  show WpC _ _ _ _ _ _ _
  refine wpC_seq hS ?_
  refine wpC_block hS ?_
  refine wpC_seq hS ?_
  refine wpC_region hS ?_
  simp only [List.size_toArray, List.length_cons, List.length_nil, Nat.reduceAdd, Nat.zero_add, List.range, List.range.loop]
  (refine opsC_plain hS rfl rfl fun _ K hK => ?_; go_simp; refine hK _ (by simp [go_sem, events_cap_slice, events_slice_hi, *]) ?_; clear hK K; try walk_nrm)
  refine opsC_load hS rfl rfl rfl (by kernel_rfl) rfl (.inr (m2.fwd.up _ hg)) ((m2.fwd.cell (ad := ⟨g, 0, none⟩) (.inr hg)).trans hc1) ?_
  repeat first
    | refine opsC_moveA hS rfl rfl (.inl rfl) ?_
    | refine opsC_moveA hS rfl rfl (.inr rfl) ?_
    | refine opsC_binA hS rfl rfl rfl rfl rfl rfl ?_
    | refine opsC_lenA hS rfl rfl rfl (by kernel_rfl) rfl ?_
    | (refine opsC_plain hS rfl rfl fun _ K hK => ?_; go_simp; refine hK _ (by simp [go_sem, events_cap_slice, events_slice_hi, *]) ?_; clear hK K; try walk_nrm)
  refine opsC_nil hS ?_
  show WpC _ _ _ _ _ _ _
  refine wpC_region hS ?_
  simp only [List.size_toArray, List.length_cons, List.length_nil, Nat.reduceAdd, Nat.zero_add, List.range, List.range.loop]
  (refine opsC_plain hS rfl rfl fun _ K hK => ?_; go_simp; refine hK _ (by simp [go_sem, events_cap_slice, events_slice_hi, *]) ?_; clear hK K; try walk_nrm)
  (refine opsC_plain hS rfl rfl fun _ K hK => ?_; go_simp; refine hK _ (by simp [go_sem, events_cap_slice, events_slice_hi, *]) ?_; clear hK K; try walk_nrm)
  refine opsC_app_made hS rfl rfl _ _ rfl hM m2 rfl rfl (h1.fwd m2.fwd) (by simp; omega) ?_
  intro u3 wa M3 m3
  repeat first
    | refine opsC_moveA hS rfl rfl (.inl rfl) ?_
    | refine opsC_moveA hS rfl rfl (.inr rfl) ?_
    | refine opsC_binA hS rfl rfl rfl rfl rfl rfl ?_
    | refine opsC_lenA hS rfl rfl rfl (by kernel_rfl) rfl ?_
    | (refine opsC_plain hS rfl rfl fun _ K hK => ?_; go_simp; refine hK _ (by simp [go_sem, events_cap_slice, events_slice_hi, *]) ?_; clear hK K; try walk_nrm)
  refine opsC_nil hS ?_
  show WpC _ _ _ _ _ _ _
  refine wpC_region hS ?_
  simp only [List.size_toArray, List.length_cons, List.length_nil, Nat.reduceAdd, Nat.zero_add, List.range, List.range.loop]
  repeat first
    | refine opsC_moveA hS rfl rfl (.inl rfl) ?_
    | refine opsC_moveA hS rfl rfl (.inr rfl) ?_
    | refine opsC_binA hS rfl rfl rfl rfl rfl rfl ?_
    | refine opsC_lenA hS rfl rfl rfl (by kernel_rfl) rfl ?_
    | (refine opsC_plain hS rfl rfl fun _ K hK => ?_; go_simp; refine hK _ (by simp [go_sem, events_cap_slice, events_slice_hi, *]) ?_; clear hK K; try walk_nrm)
  refine opsC_nil hS ?_
  show LoopC _ _ _ _ _ _ _
  try simp only [w1, w2, w3, w4]
  refine loopC_round hS ?_
  refine wpC_seq hS ?_
  refine wpC_region hS ?_
  simp only [List.size_toArray, List.length_cons, List.length_nil, Nat.reduceAdd, Nat.zero_add, List.range, List.range.loop]
  repeat first
    | refine opsC_moveA hS rfl rfl (.inl rfl) ?_
    | refine opsC_moveA hS rfl rfl (.inr rfl) ?_
    | refine opsC_binA hS rfl rfl rfl rfl rfl rfl ?_
    | refine opsC_lenA hS rfl rfl rfl (by kernel_rfl) rfl ?_
    | (refine opsC_plain hS rfl rfl fun _ K hK => ?_; go_simp; refine hK _ (by simp [go_sem, events_cap_slice, events_slice_hi, *]) ?_; clear hK K; try walk_nrm)
  refine opsC_nil hS ?_
  show WpC _ _ _ _ _ _ _
  refine wpC_seq hS ?_
  refine wpC_cond (t := true) hS (by first | rfl | simp [*]) ?_
  simp only [if_true, if_false, Bool.false_eq_true]
  refine wpC_skip hS ?_
  show WpC _ _ _ _ _ _ _
  refine wpC_seq hS ?_
  refine wpC_block hS ?_
  refine wpC_seq hS ?_
  refine wpC_region hS ?_
  simp only [List.size_toArray, List.length_cons, List.length_nil, Nat.reduceAdd, Nat.zero_add, List.range, List.range.loop]
  (refine opsC_plain hS rfl rfl fun _ K hK => ?_; go_simp; refine hK _ (by simp [go_sem, events_cap_slice, events_slice_hi, *]) ?_; clear hK K; try walk_nrm)
  refine opsC_load hS rfl rfl rfl (by kernel_rfl) rfl (.inr (m3.fwd.up _ hg)) ((m3.fwd.cell (ad := ⟨g, 1, none⟩) (.inr hg)).trans hc2) ?_
  repeat first
    | refine opsC_moveA hS rfl rfl (.inl rfl) ?_
    | refine opsC_moveA hS rfl rfl (.inr rfl) ?_
    | refine opsC_binA hS rfl rfl rfl rfl rfl rfl ?_
    | refine opsC_lenA hS rfl rfl rfl (by kernel_rfl) rfl ?_
    | (refine opsC_plain hS rfl rfl fun _ K hK => ?_; go_simp; refine hK _ (by simp [go_sem, events_cap_slice, events_slice_hi, *]) ?_; clear hK K; try walk_nrm)
  refine opsC_nil hS ?_
  show WpC _ _ _ _ _ _ _
  refine wpC_region hS ?_
  simp only [List.size_toArray, List.length_cons, List.length_nil, Nat.reduceAdd, Nat.zero_add, List.range, List.range.loop]
  (refine opsC_plain hS rfl rfl fun _ K hK => ?_; go_simp; refine hK _ (by simp [go_sem, events_cap_slice, events_slice_hi, *]) ?_; clear hK K; try walk_nrm)
  (refine opsC_plain hS rfl rfl fun _ K hK => ?_; go_simp; refine hK _ (by simp [go_sem, events_cap_slice, events_slice_hi, *]) ?_; clear hK K; try walk_nrm)
  refine opsC_app_made hS rfl rfl _ _ rfl hM m3 rfl rfl (h2.fwd m3.fwd) (by simp [h1.len]; omega) ?_
  intro u4 wb M4 m4
  repeat first
    | refine opsC_moveA hS rfl rfl (.inl rfl) ?_
    | refine opsC_moveA hS rfl rfl (.inr rfl) ?_
    | refine opsC_binA hS rfl rfl rfl rfl rfl rfl ?_
    | refine opsC_lenA hS rfl rfl rfl (by kernel_rfl) rfl ?_
    | (refine opsC_plain hS rfl rfl fun _ K hK => ?_; go_simp; refine hK _ (by simp [go_sem, events_cap_slice, events_slice_hi, *]) ?_; clear hK K; try walk_nrm)
  refine opsC_nil hS ?_
  show WpC _ _ _ _ _ _ _
  refine wpC_region hS ?_
  simp only [List.size_toArray, List.length_cons, List.length_nil, Nat.reduceAdd, Nat.zero_add, List.range, List.range.loop]
  repeat first
    | refine opsC_moveA hS rfl rfl (.inl rfl) ?_
    | refine opsC_moveA hS rfl rfl (.inr rfl) ?_
    | refine opsC_binA hS rfl rfl rfl rfl rfl rfl ?_
    | refine opsC_lenA hS rfl rfl rfl (by kernel_rfl) rfl ?_
    | (refine opsC_plain hS rfl rfl fun _ K hK => ?_; go_simp; refine hK _ (by simp [go_sem, events_cap_slice, events_slice_hi, *]) ?_; clear hK K; try walk_nrm)
  refine opsC_nil hS ?_
  show LoopC _ _ _ _ _ _ _
  try simp only [w1, w2, w3, w4]
  refine loopC_round hS ?_
  refine wpC_seq hS ?_
  refine wpC_region hS ?_
  simp only [List.size_toArray, List.length_cons, List.length_nil, Nat.reduceAdd, Nat.zero_add, List.range, List.range.loop]
  repeat first
    | refine opsC_moveA hS rfl rfl (.inl rfl) ?_
    | refine opsC_moveA hS rfl rfl (.inr rfl) ?_
    | refine opsC_binA hS rfl rfl rfl rfl rfl rfl ?_
    | refine opsC_lenA hS rfl rfl rfl (by kernel_rfl) rfl ?_
    | (refine opsC_plain hS rfl rfl fun _ K hK => ?_; go_simp; refine hK _ (by simp [go_sem, events_cap_slice, events_slice_hi, *]) ?_; clear hK K; try walk_nrm)
  refine opsC_nil hS ?_
  show WpC _ _ _ _ _ _ _
  refine wpC_seq hS ?_
  refine wpC_cond (t := false) hS (by first | rfl | simp [*]) ?_
  simp only [if_true, if_false, Bool.false_eq_true]
  refine wpC_exit hS ?_
  show WpC _ _ _ _ _ _ _
  refine wpC_seq hS ?_
  refine wpC_region hS ?_
  simp only [List.size_toArray, List.length_cons, List.length_nil, Nat.reduceAdd, Nat.zero_add, List.range, List.range.loop]
  repeat first
    | refine opsC_moveA hS rfl rfl (.inl rfl) ?_
    | refine opsC_moveA hS rfl rfl (.inr rfl) ?_
    | refine opsC_binA hS rfl rfl rfl rfl rfl rfl ?_
    | refine opsC_lenA hS rfl rfl rfl (by kernel_rfl) rfl ?_
    | (refine opsC_plain hS rfl rfl fun _ K hK => ?_; go_simp; refine hK _ (by simp [go_sem, events_cap_slice, events_slice_hi, *]) ?_; clear hK K; try walk_nrm)
  refine opsC_nil hS ?_
  show WpC _ _ _ _ _ _ _
  refine wpC_ret hS ⟨rfl, _, resultsC_tmp rfl _, ?_⟩
  rw [List.nil_append] at m4
  exact m4

end Go.Proofs.Ytjphaphnmclbcaa

/- A region that draws its order, for one of the two goroutines under way: a state that every order keeps. No condition. -/
namespace Go.Proofs.Ytjphaphnmclbcaa
open Go Go.Conc

section
variable {P : Program} {main : Bool} {Sh : Nat → Prop} {ι : Type} {C : Gh ι → Goroutine → World → Prop} {fn : FuncId} {Q : Exit → Act → World → Gh ι → Prop}

theorem opsC_lin (hS : Fam P main Sh C) {md : Region.Mode} {ops : Array Oper} (St : Array Bool → Act → World → Gh ι → Prop)
    (step : ∀ L a w M i, L.size = ops.size → St L a w M → i ∈ Region.ready md ops L → ∀ rest Q, (∀ a' w' M', St (L.setIfInBounds i true) a' w' M' → OpsC C fn ops rest Q a' w' M') → OpsC C fn ops (i :: rest) Q a w M)
    (fin : ∀ L a w M, L.size = ops.size → St L a w M → Region.ready md ops L = [] → Q .normal a w M) :
    ∀ (fuel t : Nat) (L : Array Bool) (a : Act) (w : World) (M : Gh ι), L.size = ops.size → L.count false ≤ fuel → St L a w M → OpsC C fn ops (Region.linearise.go md ops fuel t L []) Q a w M := by
  intro fuel
  induction fuel with
  | zero =>
    intro t L a w M hL hc h
    have hnil : Region.ready md ops L = [] := by
      rw [List.eq_nil_iff_forall_not_mem]
      intro j hj
      obtain ⟨h1, o, ho, _⟩ := mem_ready.1 hj
      have hlt : j < L.size := by rw [hL]; exact (Array.getElem?_eq_some_iff.1 ho).1
      have hz : L.count false = 0 := by omega
      rw [Array.count_eq_zero] at hz
      refine hz ?_
      have : L[j] = false := by simpa [Array.getD, hlt] using h1
      rw [← this]
      exact Array.getElem_mem hlt
    simpa [Region.linearise.go] using opsC_nil hS (fin L a w M hL h hnil)
  | succ fuel ih =>
    intro t L a w M hL hc h
    simp only [Region.linearise.go]
    change OpsC C fn ops (match (Region.ready md ops L)[t % (Region.ready md ops L).length]? with
      | some i => Region.linearise.go md ops fuel (t / (Region.ready md ops L).length) (L.setIfInBounds i true) [i]
      | none => [].reverse) Q a w M
    cases hi : (Region.ready md ops L)[t % (Region.ready md ops L).length]? with
    | none =>
      have hnil : Region.ready md ops L = [] := by
        cases hr : Region.ready md ops L with
        | nil => rfl
        | cons x xs =>
          rw [hr] at hi
          have hlt : t % (x :: xs).length < (x :: xs).length := Nat.mod_lt _ (by simp)
          simp at hi
          simp at hlt
          omega
      simpa using opsC_nil hS (fin L a w M hL h hnil)
    | some i =>
      simp only []
      rw [linearise_go_acc, List.reverse_singleton, List.singleton_append]
      have hm := List.mem_of_getElem? hi
      refine step L a w M i hL h hm _ _ fun a' w' M' h' => ih _ _ _ _ _ (by simpa using hL) ?_ h'
      obtain ⟨h1, o, ho, _⟩ := mem_ready.1 hm
      have hlt : i < L.size := by rw [hL]; exact (Array.getElem?_eq_some_iff.1 ho).1
      have hli : L[i] = false := by simpa [Array.getD, hlt] using h1
      have e : L.setIfInBounds i true = L.set i true hlt := by simp [Array.setIfInBounds, hlt]
      rw [e, Array.count_set hlt]
      simp [hli]
      have hpos : 0 < L.count false := by
        rw [Array.count_pos_iff, ← hli]
        exact Array.getElem_mem hlt
      omega

/-- A region that draws its order. -/
theorem wpC_region_draw (hS : Fam P main Sh C) (hm : P.follows .mixedOrders = true) {id : Nat} {ops : Array Oper} {a : Act} {w : World} {M : Gh ι}
    (h : ∀ w₁, Rl Sh M.2 w w₁ → ∀ t, OpsC C fn ops (Region.linearise.go .any ops ops.size t (Array.replicate ops.size false) []) Q a w₁ M) : WpC C fn (.region id ops true) Q a w M := by
  intro b k cs hb hk hc
  have hst : ∀ w, stepG P main (G (b.at a (.code (.region id ops true) :: k)) cs) w =
      .go (G (b.at a (.inRegion ops (Region.linearise .any ops (w.tape w.drawn (.order b.fn id))) :: k)) cs) { w with drawn := w.drawn + 1 } := by
    intro w
    have : Region.linearise .any ops (w.tape w.drawn (.order b.fn id)) = Region.schedule (P.follows .mixedOrders) ops (w.tape w.drawn (.order b.fn id)) := by simp [Region.schedule, hm]
    rw [this]
    simp [G, stepG, stepG.exec, Frame.at, choose, Sem.run, Question.forced, Question.cut]
  refine hS.step rfl (fun w₁ _ => ⟨_, _, _, hst w₁, rfl, rfl, Nat.le_refl _, fun _ _ _ => rfl, by simp⟩) fun w₁ g' w' es h₁ hs => ?_
  rw [hst w₁] at hs
  cases hs
  rw [grow_self M.2 w₁ { w₁ with drawn := w₁.drawn + 1 } rfl]
  refine hS.rely (h w₁ h₁ _ b k cs hb hk hc) ⟨rfl, rfl, Nat.le_refl _, fun _ _ => rfl⟩

end

end Go.Proofs.Ytjphaphnmclbcaa

