/- slices.Grow of nothing, and slices.Concat of lists of numbers. Condition: the lists' cells can be read. -/
import Derived.Test.YtlhphgldmefefabOrd1S
import Derived.Lib.AppendZerosOnto
namespace Go.Proofs.Ytlhphgldmefefab
open Go.RowKit

/-- append(nil, make([]int, n)...). -/
theorem app_zeros (w : World) {ops : Array Oper} {rest : List Oper} {o : Oper} {a : Act} {Q : Exit → Act → World → Prop}
    (hg : o.guard = none) (s x : Operand) (hop : o.op = Op.call { callee := Callee.builtin Builtin.append, args := #[s, x], argTypes := #[23, 3] })
    (n : Nat) (h0 : 0 < n) (hn : n ≤ 2000) (hs : a.eval s = .slice none 0 0) (hx : a.eval x = .int .i64 (n : Int))
    (hK : ∀ (C : Nat) w', n ≤ C → C ≤ 9223372036854775807 → Own w' w.heap.size (.slice (some ⟨w.heap.size, 0, none⟩) 0 C) [] → Below w.heap.size w w' → wpList Try.prog ops Q rest (a.put o.dst (.slice (some ⟨w.heap.size, 0, none⟩) n C)) w') :
    wpList Try.prog ops Q (o :: rest) a w := by
  obtain ⟨i0, hi, hz0, hz1, hz2⟩ := info_parts infoI
  have hr := Lib.run_append_grow_zeros (P := Try.prog) w 23 3 o.type 3 i0 (.int .i64 0) .i64 .i64 Try.underlying23 Try.underlying3 hi hz0 none 0 0 [] (run_firstCells_none w.drew i0.size 0 0 0) n h0 (by rw [hz1]; decide) (by omega) (by omega) (by rw [hz2]; omega)
    (growslice_fits (by omega) (by rw [hz2]; omega))
  have hG := grownCap_ge w (0 + n) 0 3
  have hG2 := grownCap_le_maxLen w (0 + n) 0 3 (by unfold maxLen; omega)
  rw [Nat.zero_add] at hr hG hG2
  obtain ⟨C, hC⟩ : ∃ C, C = grownCap w n 0 3 := ⟨_, rfl⟩
  rw [← hC] at hr hG hG2
  refine wpList_plain hg fun K hK' => ?_
  unfold Oper.wp execOp
  simp only [hop, resolve, invoke, builtin, Sem.run_bind, Sem.run_pure, Result.andThen_ok, List.map_toArray, List.map_cons, List.map_nil, hs, hx, hr]
  refine hK' _ _ (hK C _ hG (by unfold maxLen at hG2; omega) ?_ ?_)
  · refine ⟨rfl, Or.inr ⟨w.heap.size, C, _, rfl, Nat.le_refl _, heap_alloc_new w.drew _, Nat.zero_le _, hG2, ?_, rfl⟩⟩
    simp [Builtin.zeroCells, Value.cells]
    omega
  · exact (Below.refl _ _).drew.alloc (Nat.le_refl _) _

set_option maxHeartbeats 1000000 in
theorem grow_any (n : Nat) (w : World) (hn : n ≤ 2000) :
    Calls Try.prog 89 #[.slice none 0 0, .int .i64 n] w (Made w []) := by
  have hn0 : 0 ≤ (n : Int) := by omega
  by_cases h0 : n = 0
  · subst h0
    go_enter Try.func89, Try.ntmps89
    go_wp2
    go_ret
    exact ⟨_, rfl, Own.nil, Below.refl _ _⟩
  · have h1 : 0 < (n : Int) := by omega
    have h1n : 0 < n := by omega
    go_enter Try.func89, Try.ntmps89
    go_wp2_with (at_builtin; refine app_zeros _ rfl _ _ rfl n h1n hn rfl rfl ?_)
    intro C w' hC hC63 ho hb
    go_wp2
    go_ret
    exact ⟨_, rfl, ho, hb⟩

/-- The list at place j. -/
def pj (ps : List (List Int)) (j : Nat) : List Int := ps.getD j []

/-- Block g holds slices that read as the lists. -/
structure Prt (w : World) (g : Nat) (ps : List (List Int)) : Prop where
  lt : g < w.heap.size
  at_ : ∀ j, j < ps.length → ∃ ao n cap, w.cell? ⟨g, j, none⟩ = some (.slice ao n cap) ∧ Sl w ao n cap (pj ps j) ∧ (ao = none → cap = 0)
def catP (ps : List (List Int)) : Nat → List Int
  | 0 => []
  | k + 1 => catP ps k ++ pj ps k
theorem catP_len (ps : List (List Int)) (M : Nat) (h : ∀ j, j < ps.length → (pj ps j).length ≤ M) : ∀ k, k ≤ ps.length → (catP ps k).length ≤ k * M := by
  intro k
  induction k with
  | zero => intro _; simp [catP]
  | succ k ih =>
    intro hk
    have := ih (by omega)
    have := h k (by omega)
    rw [catP, List.length_append, Nat.succ_mul]; omega

set_option maxHeartbeats 2000000 in
theorem concat_any (g m : Nat) (ps : List (List Int)) (w : World) (h : Prt w g ps) (hm : ps.length = m) (hm3 : m ≤ 3) (hl : ∀ j, j < ps.length → (pj ps j).length ≤ 100) :
    Calls Try.prog 66 #[.slice (some ⟨g, 0, none⟩) m m] w (Made w (catP ps m)) := by
  have Hl := hid hl
  have hcl := hid (catP_len ps 100 hl)
  have Hm := hid hm
  clear hl hm
  have hgl := h.lt
  go_enter Try.func66, Try.ntmps66
  go_wp2
  go_loopw [3, 11] (fun v i wr => ∃ (k : Nat), k ≤ m ∧ v = .int .i64 ((catP ps k).length : Nat) ∧ i = .int .i64 k ∧ Below w.heap.size w wr)
    (fun _ i _ => m - (intOf i).toNat)
  case atStart => exact ⟨0, Nat.zero_le _, rfl, rfl, Below.refl _ _⟩
  case round =>
    obtain ⟨k, hk, rfl, rfl, hbr⟩ := hrel
    have hle := hcl.out k (by rw [Hm.out]; exact hk)
    have hle2 : (catP ps k).length ≤ 300 := by have : k * 100 ≤ 3 * 100 := Nat.mul_le_mul_right _ (by omega); omega
    by_cases hlt : k < m
    · have hi1 : (k : Int) < m := by omega
      obtain ⟨ao, n, cap, hc, hs, hn⟩ := h.at_ k (by rw [Hm.out]; exact hlt)
      have hcell := (hbr.cell (p := ⟨g, k, none⟩) hgl).trans hc
      have hn2 : n ≤ 100 := by have := Hl.out k (by rw [Hm.out]; exact hlt); rw [hs.len] at this; exact this
      have eN : Hid ((catP ps (k + 1)).length = (catP ps k).length + n) := hid (by rw [catP, List.length_append, hs.len])
      obtain ⟨L, hL⟩ : ∃ L, L = (catP ps k).length := ⟨_, rfl⟩
      rw [← hL] at eN hle hle2 ⊢
      have hl0 : 0 ≤ (L : Int) + (n : Int) := by omega
      clear hc hs hn hle
      go_wp2
      go_roundw
      case rel => exact ⟨k + 1, by omega, by rw [eN.out]; simp [hL], by go_num, hbr⟩
      case measure => simp [intOf]; omega
    · obtain rfl : k = m := by omega
      go_wp2_with fail
      refine (grow_any _ _ (by omega)).mono ?_
      rintro e w2 ⟨u2, rfl, o2, b2⟩
      obtain ⟨ad2, cp2, rfl, -⟩ := o2.sl
      have hb2 := hbr.trans (b2.mono hbr.size)
      have ho2 := o2.mono hbr.size
      clear o2 b2 hle hle2
      go_wp2
      go_loopw [6, 27] (fun v i wr => ∃ (j q : Nat) (ao' : Option Addr) (cap' : Nat), j ≤ k ∧ v = .slice ao' q cap' ∧ i = .int .i64 j ∧ Below w.heap.size w wr ∧ Own wr w.heap.size (.slice ao' q cap') (catP ps j))
        (fun _ i _ => k - (intOf i).toNat)
      case atStart => exact ⟨0, _, _, _, Nat.zero_le _, rfl, rfl, hb2, ho2⟩
      case round =>
        obtain ⟨j, q, ao', cap', hj, rfl, rfl, hbj, hoj⟩ := hrel
        have hsz := hbj.size
        by_cases hlt2 : j < k
        · have hi1 : (j : Int) < k := by omega
          obtain ⟨ao, n, cap, hc, hs, hn⟩ := h.at_ j (by rw [Hm.out]; exact hlt2)
          have hcell := (hbj.cell (p := ⟨g, j, none⟩) hgl).trans hc
          have hn2 : n ≤ 100 := by have := Hl.out j (by rw [Hm.out]; exact hlt2); rw [hs.len] at this; exact this
          have hle3 := hcl.out j (by rw [Hm.out]; exact hj)
          have hle4 : (catP ps j).length + n ≤ 2000000 := by have : j * 100 ≤ 3 * 100 := Nat.mul_le_mul_right _ (by omega); omega
          have hs2 := hs.later hbj
          clear hle3
          go_wp2_with (at_builtin; refine app_list _ rfl _ _ rfl w.heap.size _ _ rfl hoj _ _ _ _ rfl hs2 hn hle4 hsz ?_)
          intro u' w' ho' hg'
          have hb' := below_app hbj hoj hg'
          have e1 : catP ps j ++ pj ps j = catP ps (j + 1) := rfl
          rw [e1] at ho'
          obtain ⟨ao', cap', rfl, hs'⟩ := ho'.sl
          obtain ⟨Q, hQ⟩ : ∃ Q, Q = (catP ps (j + 1)).length := ⟨_, rfl⟩
          rw [← hQ] at ho' ⊢
          clear hs' hs2 hs hc e1
          go_wp2
          go_roundw
          case rel => exact ⟨j + 1, _, _, _, by omega, rfl, by go_num, hb', ho'⟩
          case measure => simp [intOf]; omega
        · obtain rfl : j = k := by omega
          go_wp2
          go_ret
          exact ⟨_, rfl, hoj, hbj⟩

end Go.Proofs.Ytlhphgldmefefab
