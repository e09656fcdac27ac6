/- A greater value put in, and values taken out, in the program. Condition: the list's cells can be read. -/
import Derived.Test.YtlhphgldmefefabCat
import Derived.Test.YtlhphgldmefefabIns
namespace Go.Proofs.Ytlhphgldmefefab
open Go.RowKit

theorem prt3 {w : World} {x : Int} {a1 a3 : Option Addr} {n1 c1 n3 c3 : Nat} {y1 y3 : List Int} (h1 : Sl w a1 n1 c1 y1) (h3 : Sl w a3 n3 c3 y3) (e1 : a1 = none → c1 = 0) (e3 : a3 = none → c3 = 0) :
    Prt ((w.alloc (.cells #[.int .i64 x] 3)).alloc (.cells #[.slice a1 n1 c1, .slice (some ⟨w.heap.size, 0, none⟩) 1 1, .slice a3 n3 c3] 23)) (w.heap.size + 1) [y1, [x], y3] := by
  refine ⟨by simp, fun j hj => ?_⟩
  simp only [List.length_cons, List.length_nil] at hj
  match j, hj with
  | 0, _ => exact ⟨_, _, _, by simp, (h1.alloc _).alloc _, e1⟩
  | 1, _ => exact ⟨_, _, _, by simp, (Sl.new w x).alloc _, fun e => by cases e⟩
  | 2, _ => exact ⟨_, _, _, by simp, (h3.alloc _).alloc _, e3⟩
  | j + 3, h => exact absurd h (by omega)
theorem prt2 {w : World} {a1 a3 : Option Addr} {n1 c1 n3 c3 : Nat} {y1 y3 : List Int} (h1 : Sl w a1 n1 c1 y1) (h3 : Sl w a3 n3 c3 y3) (e1 : a1 = none → c1 = 0) (e3 : a3 = none → c3 = 0) :
    Prt (w.alloc (.cells #[.slice a1 n1 c1, .slice a3 n3 c3] 23)) w.heap.size [y1, y3] := by
  refine ⟨by simp, fun j hj => ?_⟩
  simp only [List.length_cons, List.length_nil] at hj
  match j, hj with
  | 0, _ => exact ⟨_, _, _, by simp, h1.alloc _, e1⟩
  | 1, _ => exact ⟨_, _, _, by simp, h3.alloc _, e3⟩
  | j + 2, h => exact absurd h (by omega)
theorem Prt.drew {w : World} {g : Nat} {ps : List (List Int)} (h : Prt w g ps) : Prt w.drew g ps :=
  ⟨h.lt, fun j hj => by
    obtain ⟨ao, n, cap, h1, h2, h3⟩ := h.at_ j hj
    exact ⟨ao, n, cap, h1, h2.drew, h3⟩⟩
theorem Sl.zero (w : World) (ao : Option Addr) : Sl w ao 0 0 [] := ⟨rfl, Nat.le_refl _, Nat.zero_le _, fun h => absurd h (by omega)⟩
theorem Sl.drop' {w : World} {ao : Option Addr} {n cap k : Nat} {xs : List Int} (h : Sl w ao n cap xs) (hk : k ≤ n) (hc : ¬ cap = k) : Sl w (Option.map (fun x => x.add k) ao) (n - k) (cap - k) (xs.drop k) := by
  have := h.dropIf hk
  rwa [if_neg hc] at this
theorem drop_nil' {ao : Option Addr} {cap k : Nat} (h : ao = none → cap = 0) : Option.map (fun (x : Addr) => x.add k) ao = none → cap - k = 0 := by
  intro e
  rw [Option.map_eq_none_iff] at e
  have := h e; omega
theorem small3 {y1 y2 y3 : List Int} (h1 : y1.length ≤ 100) (h2 : y2.length ≤ 100) (h3 : y3.length ≤ 100) : ∀ j, j < [y1, y2, y3].length → (pj [y1, y2, y3] j).length ≤ 100 := fun j hj => by
  simp only [List.length_cons, List.length_nil] at hj
  match j, hj with
  | 0, _ => exact h1
  | 1, _ => exact h2
  | 2, _ => exact h3
  | j + 3, h => exact absurd h (by omega)
theorem small2 {y1 y2 : List Int} (h1 : y1.length ≤ 100) (h2 : y2.length ≤ 100) : ∀ j, j < [y1, y2].length → (pj [y1, y2] j).length ≤ 100 := fun j hj => by
  simp only [List.length_cons, List.length_nil] at hj
  match j, hj with
  | 0, _ => exact h1
  | 1, _ => exact h2
  | j + 2, h => exact absurd h (by omega)
theorem below_two {w w1 w2 : World} {a b : Obj} (h : Below w.heap.size w w1) (k : Below (((w1.alloc a).alloc b).drew).heap.size ((w1.alloc a).alloc b).drew w2) : Below w.heap.size w w2 := by
  have h1 := h.alloc h.size a
  have h2 := (h1.alloc h1.size b).drew
  exact h2.trans (k.mono h2.size)
theorem Own.two {B : Nat} {w1 w2 : World} {a b : Obj} {u : Value} {ys : List Int} (h : Own w2 (((w1.alloc a).alloc b).drew).heap.size u ys) (hB : B ≤ w1.heap.size) : Own w2 B u ys := h.mono (Nat.le_trans hB (by simp [World.drew]; omega))
theorem below_one {w w1 w2 : World} {a : Obj} (h : Below w.heap.size w w1) (k : Below ((w1.alloc a).drew).heap.size (w1.alloc a).drew w2) : Below w.heap.size w w2 := by
  have h2 := (h.alloc h.size a).drew
  exact h2.trans (k.mono h2.size)
theorem Own.one {B : Nat} {w1 w2 : World} {a : Obj} {u : Value} {ys : List Int} (h : Own w2 ((w1.alloc a).drew).heap.size u ys) (hB : B ≤ w1.heap.size) : Own w2 B u ys := h.mono (Nat.le_trans hB (by simp [World.drew]))
theorem cat3 (y1 y2 y3 : List Int) : catP [y1, y2, y3] 3 = y1 ++ y2 ++ y3 := by simp [catP, pj]
theorem cat2 (y1 y2 : List Int) : catP [y1, y2] 2 = y1 ++ y2 := by simp [catP, pj]

set_option maxHeartbeats 4000000 in
theorem insI_any (ao : Option Addr) (n cap : Nat) (xs : List Int) (k : Int) (w : World) (h : Sl w ao n cap xs) (hnil : ao = none → cap = 0) :
    Calls Try.prog 28 #[.slice ao n cap, .int .i64 k] w (Made2 w (onIT xs k) (decide (IT xs k))) := by
  have hbig := h.big
  have hlen := hid h.len
  have hle := h.le
  have hmax : cap ≤ 9223372036854775807 := by have := h.max; unfold maxLen at this; omega
  have Hnil := hid hnil
  clear hnil
  by_cases hv : Valid xs
  · have h7 : n ≤ 7 := by have := hv.len; rw [hlen.out] at this; exact this
    have Hv := hid hv
    clear hv
    by_cases hn7 : n < 7
    · have hn7i : ((n : Int) == 7) = false := by have : ¬ (n : Int) = 7 := by omega
                                                 simpa using this
      by_cases hk0 : 0 ≤ k
      · by_cases hk1 : k ≤ n
        · have Hit : Hid (IT xs k) := hid ⟨Hv.out, by rw [hlen.out]; exact hn7, hk0, by rw [hlen.out]; exact hk1⟩
          obtain ⟨m, rfl⟩ := Int.eq_ofNat_of_zero_le hk0
          have hmn : m ≤ n := by omega
          have hmc : m ≤ cap := by omega
          go_enter Try.func28, Try.ntmps28
          go_wp2_with fail
          refine (validI_any _ _ _ xs _ h).mono ?_
          rintro e w1 ⟨rfl, hb1⟩
          rw [decide_eq_true Hv.out]
          have h1 := h.later hb1
          by_cases hcm : cap = m
          · obtain rfl : n = m := by omega
            subst hcm
            have hP := (prt3 (x := (cap : Int)) ((h1.take (k := cap) (Nat.le_refl _))) (Sl.zero w1 ao) Hnil.out (fun _ => rfl)).drew
            have HP := hid hP
            clear hP
            go_wp2_with fail
            go_region_with (first
              | (go_at_call 66; refine (concat_any _ 3 _ _ HP.out rfl (by omega) (small3 (by rw [List.length_take, hlen.out]; omega) (by simp) (by simp))).mono ?_; rintro e w2 ⟨u2, rfl, o2, b2⟩))
            all_goals (
              have eF : catP [xs.take cap, [(cap : Int)], []] 3 = onIT xs (cap : Int) := by
                rw [cat3, onIT_yes Hit.out, insT, ins, hlen.out, Int.toNat_natCast, List.drop_eq_nil_of_le (by rw [hlen.out]; exact Nat.le_refl _)]
              rw [eF] at o2
              have oF := o2.two hb1.size
              have tF := below_two hb1 b2
              clear eF HP
              go_wp2
              go_ret2
              exact made2_yes Hit.out oF tF)
          · have hP := (prt3 (x := (n : Int)) (h1.take hmn) (h1.drop' hmn hcm) Hnil.out (drop_nil' Hnil.out)).drew
            have HP := hid hP
            clear hP
            go_wp2_with fail
            go_region_with (first
              | (go_at_call 66; refine (concat_any _ 3 _ _ HP.out rfl (by omega) (small3 (by rw [List.length_take, hlen.out]; omega) (by simp) (by rw [List.length_drop, hlen.out]; omega))).mono ?_; rintro e w2 ⟨u2, rfl, o2, b2⟩))
            all_goals (
              have eF : catP [xs.take m, [(n : Int)], xs.drop m] 3 = onIT xs (m : Int) := by
                rw [cat3, onIT_yes Hit.out, insT, ins, hlen.out, Int.toNat_natCast]
              rw [eF] at o2
              have oF := o2.two hb1.size
              have tF := below_two hb1 b2
              clear eF HP
              go_wp2
              go_ret2
              exact made2_yes Hit.out oF tF)
        · have Hit : Hid (¬ IT xs k) := hid fun t => hk1 (by have := t.2.2.2; rw [hlen.out] at this; exact this)
          go_enter Try.func28, Try.ntmps28
          go_wp2_with fail
          refine (validI_any _ _ _ xs _ h).mono ?_
          rintro e w1 ⟨rfl, hb1⟩
          rw [decide_eq_true Hv.out]
          go_wp2
          go_ret2
          exact made2_no Hit.out (onIT_no Hit.out) hb1
      · have Hit : Hid (¬ IT xs k) := hid fun t => hk0 t.2.2.1
        go_enter Try.func28, Try.ntmps28
        go_wp2_with fail
        refine (validI_any _ _ _ xs _ h).mono ?_
        rintro e w1 ⟨rfl, hb1⟩
        rw [decide_eq_true Hv.out]
        go_wp2
        go_ret2
        exact made2_no Hit.out (onIT_no Hit.out) hb1
    · have Hit : Hid (¬ IT xs k) := hid fun t => hn7 (by have := t.2.1; rw [hlen.out] at this; exact this)
      obtain rfl : n = 7 := by omega
      go_enter Try.func28, Try.ntmps28
      go_wp2_with fail
      refine (validI_any _ _ _ xs _ h).mono ?_
      rintro e w1 ⟨rfl, hb1⟩
      rw [decide_eq_true Hv.out]
      go_wp2
      go_ret2
      exact made2_no Hit.out (onIT_no Hit.out) hb1
  · have Hit : Hid (¬ IT xs k) := hid fun t => hv t.1
    have Hv := hid hv
    clear hv
    go_enter Try.func28, Try.ntmps28
    go_wp2_with fail
    refine (validI_any _ _ _ xs _ h).mono ?_
    rintro e w1 ⟨rfl, hb1⟩
    rw [decide_eq_false Hv.out]
    go_wp2
    go_ret2
    exact made2_no Hit.out (onIT_no Hit.out) hb1

end Go.Proofs.Ytlhphgldmefefab
