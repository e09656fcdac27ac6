/- ManyRow of the model, alone. Condition: the list's cells can be read. -/
import Derived.Test.YtjphaphnmclbcaaMnT
import Derived.Test.YtjphaphnmclbcaaBrS
import Derived.Test.YtjphaphnmclbcaaCwd
namespace Go.Proofs.Ytjphaphnmclbcaa
open Go Go.RowKit

theorem rows_el {xs : List Int} (h : VC xs) {k : Nat} (hk : k < 4) : ell (rowsOf xs) k = bR (psC xs (k + 1)).toNat (el xs k).toNat ∧ 0 ≤ psC xs k ∧ 0 ≤ el xs k ∧ psC xs k + el xs k ≤ 7 := by
  obtain ⟨l0, l1, l2, l3, rfl, _, _⟩ := h.nat
  have key : ∀ a b : Int, 0 ≤ b → b ≤ a → a ≤ 7 → binL a b = bR a.toNat b.toNat := fun a b h1 h2 h3 => if_pos (by omega)
  match k, hk with
  | 0, _ => simp [rowsOf, el, psC, ell]; exact ⟨key _ _ (by omega) (by omega) (by omega), by omega⟩
  | 1, _ => simp [rowsOf, el, psC, ell]; exact ⟨key _ _ (by omega) (by omega) (by omega), by omega⟩
  | 2, _ => simp [rowsOf, el, psC, ell]; exact ⟨key _ _ (by omega) (by omega) (by omega), by omega⟩
  | 3, _ => simp [rowsOf, el, psC, ell]; exact ⟨key _ _ (by omega) (by omega) (by omega), by omega⟩

set_option maxHeartbeats 2000000 in
theorem multiS_any (ao : Option Addr) (cap : Nat) (xs : List Int) (w : World) (h : Sl w ao 4 cap xs) (hv : Hid (VC xs)) :
    Calls Try.prog 90 #[.slice ao 4 cap] w (Made w (prodQ (rowsOf xs) 4)) := by
  obtain ⟨b, off, rfl, hblt, hc⟩ := h.row (by omega)
  have hcc := hid hc
  clear hc
  go_enter Try.func90, Try.ntmps90
  go_wp2
  go_loopw [3, 4, 5] (fun v s i wr => ∃ (k q : Nat) (ao' : Option Addr) (cap' : Nat), k ≤ 4 ∧ v = .slice ao' q cap' ∧ s = .int .i64 (psC xs k) ∧ i = .int .i64 k ∧ Below w.heap.size w wr ∧ Own wr w.heap.size (.slice ao' q cap') (prodQ (rowsOf xs) k))
    (fun _ _ i _ => 4 - (intOf i).toNat)
  case atStart => exact ⟨0, _, _, _, Nat.zero_le _, rfl, rfl, rfl, (Below.refl _ _).alloc (Nat.le_refl _) _, own_one w 1 w.heap.size (Nat.le_refl _)⟩
  case round =>
    obtain ⟨k, q, ao', cap', hk, rfl, rfl, rfl, hbr, ho⟩ := hrel
    by_cases hlt : k < 4
    · have hi1 : (k : Int) < 4 := by omega
      have hcell := (hbr.cell (p := ⟨b, off + k, none⟩) hblt).trans (hcc.out k hlt)
      obtain ⟨hB, hP⟩ := rows_ok hv.out hlt
      obtain ⟨e1, e2, e3, e4⟩ := rows_el hv.out hlt
      have hq := ho.read.len
      have hw : IntKind.i64.wrap (psC xs k + el xs k) = ((psC xs (k + 1)).toNat : Int) := by rw [IntKind.wrap_i64, psC]; omega
      have hps : psC xs (k + 1) = ((psC xs (k + 1)).toNat : Int) := by rw [psC]; omega
      have hle : (el xs k).toNat ≤ (psC xs (k + 1)).toNat := by rw [psC]; omega
      have hle7 : (psC xs (k + 1)).toNat ≤ 7 := by rw [psC]; omega
      obtain ⟨y, hy⟩ : ∃ y : Nat, el xs k = (y : Int) := ⟨(el xs k).toNat, by omega⟩
      have hyt : (el xs k).toNat = y := by omega
      rw [hyt] at hle e1
      rw [hy] at hw hcell
      obtain ⟨s2, hs2⟩ : ∃ s2 : Nat, s2 = (psC xs (k + 1)).toNat := ⟨_, rfl⟩
      rw [← hs2] at hw hle hle7 e1 hps
      have Hps := hid hps
      obtain ⟨s1, hs1⟩ : ∃ s1, s1 = psC xs k := ⟨_, rfl⟩
      rw [← hs1] at hw ⊢
      have He1 := hid e1
      have hq0 : 0 < q := by omega
      have hq30 : q ≤ 30 := by omega
      have HBk := hid hB
      have HPk := hid hP.1
      have hbS := bRS_any s2 y
      clear hy hyt hs2 hs1 hps e1 e2 e3 e4 hB hP hq
      go_wp2_with fail
      refine (hbS _ hle7 hle).mono ?_
      rintro e w2 ⟨u2, rfl, o2, b2⟩
      rw [← He1.out] at o2
      obtain ⟨ad2, cp2, rfl, sl2⟩ := o2.sl
      have hb2 := hbr.trans (b2.mono hbr.size)
      have hor := ho.read.later b2
      obtain ⟨n2, hn2⟩ : ∃ n2, n2 = (ell (rowsOf xs) k).length := ⟨_, rfl⟩
      have hn0 : 0 < n2 := by have := HBk.out; omega
      have hn30 : n2 ≤ 30 := by have := HBk.out; omega
      rw [← hn2] at sl2 ⊢
      have HBk2 := hid HBk.out.1
      clear hn2 hbS o2
      go_wp2_with fail
      refine (timesS3_any _ _ _ (prodQ (rowsOf xs) k) _ _ _ (ell (rowsOf xs) k) _ hor sl2 hq0 hn0 hq30 hn30 HPk HBk2).mono ?_
      rintro e w3 ⟨u3, rfl, o3, b3⟩
      have hb3 := hb2.trans (b3.mono hb2.size)
      have ho3 := o3.mono hb2.size
      obtain ⟨ad3, cp3, rfl, -⟩ := ho3.sl
      have e5 : mul (prodQ (rowsOf xs) k) (ell (rowsOf xs) k) = prodQ (rowsOf xs) (k + 1) := rfl
      rw [e5] at ho3 ⊢
      obtain ⟨Q, hQ⟩ : ∃ Q, Q = (prodQ (rowsOf xs) (k + 1)).length := ⟨_, rfl⟩
      rw [← hQ] at ho3 ⊢
      clear o3 b3 e5 hQ ho hcell hor sl2 b2
      go_wp2
      go_roundw
      case rel => exact ⟨k + 1, _, _, _, by omega, rfl, by rw [Hps.out], by go_num, hb3, ho3⟩
      case measure => simp [intOf]; omega
    · obtain rfl : k = 4 := by omega
      go_wp2
      go_ret
      exact ⟨_, rfl, ho, hbr⟩

theorem manyS_any (ao : Option Addr) (n cap : Nat) (xs : List Int) (w : World) (h : Sl w ao n cap xs) (hn : n ≤ 1048576) :
    Calls Try.prog 52 #[.slice ao n cap] w (Made w (mnL xs)) := by
  by_cases hv : VC xs
  · have hn4 : n = 4 := by rw [← h.len]; exact hv.len
    subst hn4
    rw [show mnL xs = prodQ (rowsOf xs) 4 from if_pos hv]
    have Hv := hid hv
    clear hv
    go_enter Try.func52, Try.ntmps52
    go_wp2_with fail
    refine (says_tob (vcS_any _ _ _ xs _ h hn) (decide_eq_true Hv.out)).mono ?_
    rintro e w1 ⟨rfl, b1⟩
    go_wp2_with fail
    refine (multiS_any _ _ xs _ (h.later b1) Hv).mono ?_
    rintro e w2 ⟨u, rfl, o2, b2⟩
    have o3 := o2.mono b1.size
    have b3 := b1.trans (b2.mono b1.size)
    clear o2 b2
    go_wp2
    go_ret
    exact ⟨u, rfl, o3, b3⟩
  · rw [show mnL xs = [] from if_neg hv]
    have Hv := hid hv
    clear hv
    go_enter Try.func52, Try.ntmps52
    go_wp2_with fail
    refine (says_tob (vcS_any _ _ _ xs _ h hn) (decide_eq_false Hv.out)).mono ?_
    rintro e w1 ⟨rfl, b1⟩
    go_wp2
    go_ret
    exact ⟨_, rfl, Own.nil, b1⟩

end Go.Proofs.Ytjphaphnmclbcaa
