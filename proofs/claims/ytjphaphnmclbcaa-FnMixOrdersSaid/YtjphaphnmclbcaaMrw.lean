/- Products of rows of numbers of any signs, in the program and in its model. Condition: the rows' cells can be read. -/
import Derived.Test.YtjphaphnmclbcaaBng
import Derived.Test.YtjphaphnmclbcaaMirP
import Derived.Test.YtjphaphnmclbcaaBnd
namespace Go.Proofs.Ytjphaphnmclbcaa
open Go.RowKit

/-- The list at place j. -/
def pjw (ps : List (List Int)) (j : Nat) : List Int := ps.getD j []
/-- Block g holds slices that read as the lists. -/
structure PrtW (w : World) (g : Nat) (ps : List (List Int)) : Prop where
  lt : g < w.heap.size
  at_ : ∀ j, j < ps.length → ∃ ao n cap, w.cell? ⟨g, j, none⟩ = some (.slice ao n cap) ∧ Sl w ao n cap (pjw ps j)
theorem prtw2 {w : World} {a1 a3 : Option Addr} {n1 c1 n3 c3 : Nat} {y1 y3 : List Int} (h1 : Sl w a1 n1 c1 y1) (h3 : Sl w a3 n3 c3 y3) :
    PrtW (w.alloc (.cells #[.slice a1 n1 c1, .slice a3 n3 c3] 23)) w.heap.size [y1, y3] := by
  refine ⟨by simp, fun j hj => ?_⟩
  simp only [List.length_cons, List.length_nil] at hj
  match j, hj with
  | 0, _ => exact ⟨_, _, _, by simp, h1.later ((Below.refl _ _).alloc (Nat.le_refl _) _)⟩
  | 1, _ => exact ⟨_, _, _, by simp, h3.later ((Below.refl _ _).alloc (Nat.le_refl _) _)⟩
  | j + 2, h => exact absurd h (by omega)
set_option maxRecDepth 20000 in
set_option maxHeartbeats 2000000 in
theorem timesI3_any (ao : Option Addr) (n cap : Nat) (xs : List Int) (bo : Option Addr) (m cap2 : Nat) (ys : List Int) (w : World) (h : Sl w ao n cap xs) (g : Sl w bo m cap2 ys) (hn : 0 < n) (hm : 0 < m) (hn3 : n ≤ 30) (hm1 : m ≤ 30) (hx : Hid (Bs xs 1000000)) (hy : Hid (Bs ys 1000000)) :
    Calls Try.prog 88 #[.slice ao n cap, .slice bo m cap2] w (Made w (mul xs ys)) := by
  have hlen := hid h.len
  have glen := hid g.len
  obtain ⟨b, off, rfl, hblt, hc⟩ := h.row hn
  obtain ⟨b2, off2, rfl, hblt2, hc2⟩ := g.row hm
  have hcc := hid hc
  have hcc2 := hid hc2
  clear hc hc2
  have hbig := h.big
  have hbig2 := g.big
  obtain ⟨s, hs⟩ : ∃ s, s = n + m - 1 := ⟨_, rfl⟩
  have Hs := hid hs
  have hz1 : ((n : Int) == 0) = false := by simp; omega
  have hz2 : ((m : Int) == 0) = false := by simp; omega
  clear hs
  go_enter Try.func88, Try.ntmps88
  go_wp2_with (at_make; refine make_ints _ rfl _ _ rfl _ _ s rfl rfl (by have := Hs.out; omega) (by have := Hs.out; omega) (by have := Hs.out; omega) ?_)
  intro w2 ho2 hb2
  go_wp2
  go_loopw [19] (fun i wr => ∃ (k : Nat) (zs : List Int), k ≤ n ∧ i = .int .i64 k ∧ Below w.heap.size w wr ∧ OwS wr w.heap.size w.heap.size s s zs ∧ Hid (zs = muP xs ys k))
    (fun i _ => n - (intOf i).toNat)
  case atStart => exact ⟨0, _, Nat.zero_le _, rfl, hb2, ho2, hid (by rw [muP, hlen.out, glen.out, ← Hs.out])⟩
  case round =>
    obtain ⟨k, zs, hk, rfl, hbr, hr, hz⟩ := hrel
    by_cases hlt : k < n
    · have hcell := (hbr.cell (p := ⟨b, off + k, none⟩) hblt).trans (hcc.out k hlt)
      have hi1 : (k : Int) < n := by omega
      go_wp2
      obtain ⟨wo, hwo⟩ : ∃ wo : World, wo = wr := ⟨_, rfl⟩
      subst hwo
      go_loopw [26] (fun j wr => ∃ (t : Nat) (zs : List Int), t ≤ m ∧ j = .int .i64 t ∧ Below w.heap.size w wr ∧ OwS wr w.heap.size w.heap.size s s zs ∧ Hid (zs = muR xs ys k (muP xs ys k) t))
        (fun j _ => m - (intOf j).toNat)
      case atStart => exact ⟨0, zs, Nat.zero_le _, rfl, hbr, hr, hz⟩
      case round =>
        obtain ⟨t, zs, ht, rfl, hbr, hr, hz⟩ := hrel
        by_cases htl : t < m
        · have hcell := (hbr.cell (p := ⟨b, off + k, none⟩) hblt).trans (hcc.out k hlt)
          have hcell2 := (hbr.cell (p := ⟨b2, off2 + t, none⟩) hblt2).trans (hcc2.out t htl)
          have hp := prod_bs (hx.out k) (hy.out t)
          have hbz := muR_bs hx.out hy.out k (muP_bs hx.out hy.out (by rw [glen.out]; omega) k) t (k + t)
          rw [← hz.out] at hbz
          have hz1 : -1000000000000000 ≤ el zs (k + t) := by have := hbz.1; omega
          have hz2 : el zs (k + t) ≤ 1000000000000000 := by have := hbz.2; omega
          have hp1 := hp.1
          have hp2 : el xs k * el ys t ≤ 1000000000000 := hp.2
          obtain ⟨pr, hpr⟩ : ∃ pr, pr = el xs k * el ys t := ⟨_, rfl⟩
          rw [← hpr] at hp1 hp2
          have hw : wrap64 (el xs k * el ys t) = pr := by rw [← hpr]; exact IntWalk.wrap64_in _ ⟨by omega, by omega⟩
          have hi2 : (t : Int) < m := by omega
          have hi3 : (k : Int) + t < s := by have := Hs.out; omega
          have hkt : k + t < s := by have := Hs.out; omega
          have hzl := hid hr.len
          have hfr := hr.frozen (k + t)
          have hcur := hr.cell hkt
          have Hpr := hid hpr
          clear hbz hp hpr
          go_wp2
          go_roundw
          case rel =>
            refine ⟨t + 1, _, by omega, by go_num, hbr.setCell (Nat.le_refl _) _, hr.set (k + t) (el zs (k + t) + pr), ?_⟩
            show zs.set (k + t) _ = addAt _ (k + t) _
            rw [addAt, ← hz.out, ← Hpr.out]
          case measure => simp [intOf]; omega
        · obtain rfl : t = m := by omega
          go_wp2
          go_roundw
          case rel => exact ⟨k + 1, zs, by omega, by go_num, hbr, hr, by rw [muP, glen.out]; exact hz.out⟩
          case measure => simp [intOf]; omega
    · obtain rfl : k = n := by omega
      go_wp2
      go_ret
      refine ⟨_, rfl, ?_, hbr⟩
      rw [mul, hlen.out, ← hz.out]
      exact hr.own

set_option maxRecDepth 20000 in
set_option maxHeartbeats 2000000 in
theorem timesS3_any (ao : Option Addr) (n cap : Nat) (xs : List Int) (bo : Option Addr) (m cap2 : Nat) (ys : List Int) (w : World) (h : Sl w ao n cap xs) (g : Sl w bo m cap2 ys) (hn : 0 < n) (hm : 0 < m) (hn3 : n ≤ 30) (hm1 : m ≤ 30) (hx : Hid (Bs xs 1000000)) (hy : Hid (Bs ys 1000000)) :
    Calls Try.prog 102 #[.slice ao n cap, .slice bo m cap2] w (Made w (mul xs ys)) := by
  have hlen := hid h.len
  have glen := hid g.len
  obtain ⟨b, off, rfl, hblt, hc⟩ := h.row hn
  obtain ⟨b2, off2, rfl, hblt2, hc2⟩ := g.row hm
  have hcc := hid hc
  have hcc2 := hid hc2
  clear hc hc2
  have hbig := h.big
  have hbig2 := g.big
  obtain ⟨s, hs⟩ : ∃ s, s = n + m - 1 := ⟨_, rfl⟩
  have Hs := hid hs
  have hz1 : ((n : Int) == 0) = false := by simp; omega
  have hz2 : ((m : Int) == 0) = false := by simp; omega
  clear hs
  go_enter Try.func102, Try.ntmps102
  go_wp2_with (at_make; refine make_ints _ rfl _ _ rfl _ _ s rfl rfl (by have := Hs.out; omega) (by have := Hs.out; omega) (by have := Hs.out; omega) ?_)
  intro w2 ho2 hb2
  go_wp2
  go_loopw [6] (fun i wr => ∃ (k : Nat) (zs : List Int), k ≤ n ∧ i = .int .i64 k ∧ Below w.heap.size w wr ∧ OwS wr w.heap.size w.heap.size s s zs ∧ Hid (zs = muP xs ys k))
    (fun i _ => n - (intOf i).toNat)
  case atStart => exact ⟨0, _, Nat.zero_le _, rfl, hb2, ho2, hid (by rw [muP, hlen.out, glen.out, ← Hs.out])⟩
  case round =>
    obtain ⟨k, zs, hk, rfl, hbr, hr, hz⟩ := hrel
    by_cases hlt : k < n
    · have hcell := (hbr.cell (p := ⟨b, off + k, none⟩) hblt).trans (hcc.out k hlt)
      have hi1 : (k : Int) < n := by omega
      go_wp2
      obtain ⟨wo, hwo⟩ : ∃ wo : World, wo = wr := ⟨_, rfl⟩
      subst hwo
      go_loopw [7] (fun j wr => ∃ (t : Nat) (zs : List Int), t ≤ m ∧ j = .int .i64 t ∧ Below w.heap.size w wr ∧ OwS wr w.heap.size w.heap.size s s zs ∧ Hid (zs = muR xs ys k (muP xs ys k) t))
        (fun j _ => m - (intOf j).toNat)
      case atStart => exact ⟨0, zs, Nat.zero_le _, rfl, hbr, hr, hz⟩
      case round =>
        obtain ⟨t, zs, ht, rfl, hbr, hr, hz⟩ := hrel
        by_cases htl : t < m
        · have hcell := (hbr.cell (p := ⟨b, off + k, none⟩) hblt).trans (hcc.out k hlt)
          have hcell2 := (hbr.cell (p := ⟨b2, off2 + t, none⟩) hblt2).trans (hcc2.out t htl)
          have hp := prod_bs (hx.out k) (hy.out t)
          have hbz := muR_bs hx.out hy.out k (muP_bs hx.out hy.out (by rw [glen.out]; omega) k) t (k + t)
          rw [← hz.out] at hbz
          have hz1 : -1000000000000000 ≤ el zs (k + t) := by have := hbz.1; omega
          have hz2 : el zs (k + t) ≤ 1000000000000000 := by have := hbz.2; omega
          have hp1 := hp.1
          have hp2 : el xs k * el ys t ≤ 1000000000000 := hp.2
          obtain ⟨pr, hpr⟩ : ∃ pr, pr = el xs k * el ys t := ⟨_, rfl⟩
          rw [← hpr] at hp1 hp2
          have hw : wrap64 (el xs k * el ys t) = pr := by rw [← hpr]; exact IntWalk.wrap64_in _ ⟨by omega, by omega⟩
          have hi2 : (t : Int) < m := by omega
          have hi3 : (k : Int) + t < s := by have := Hs.out; omega
          have hkt : k + t < s := by have := Hs.out; omega
          have hzl := hid hr.len
          have hfr := hr.frozen (k + t)
          have hcur := hr.cell hkt
          have Hpr := hid hpr
          clear hbz hp hpr
          have hi0 : 0 ≤ (k : Int) + t := by omega
          have htn : ((k : Int) + t).toNat = k + t := by omega
          have hwk : IntKind.i64.wrap ((k : Int) + t) = (k : Int) + t := IntWalk.i64_in _ ⟨by omega, by omega⟩
          have hwp : IntKind.i64.wrap (el xs k * el ys t) = pr := (IntWalk.i64_left _).trans hw
          have hws : IntKind.i64.wrap (el zs (k + t) + pr) = el zs (k + t) + pr := IntWalk.i64_in _ ⟨by omega, by omega⟩
          go_wp2_with fail
          refine wp_region_still_tail 21 (by kernel_rfl) (by kernel_rfl) ?_
          simp only [List.take_succ_cons, List.take_zero, List.drop_succ_cons, List.drop_zero]
          change wpStill _ _ (World.drew _) _ _ _
          repeat still_step
          refine wpStill_nil ?_
          change wpList _ _ _ _ _ (World.drew _)
          go_wp2
          go_roundw
          case rel =>
            refine ⟨t + 1, _, by omega, by go_num, (drewN_below hbr _).setCell (Nat.le_refl _) _, hr.set (k + t) (el zs (k + t) + pr), ?_⟩
            show zs.set (k + t) _ = addAt _ (k + t) _
            rw [addAt, ← hz.out, ← Hpr.out]
          case measure => simp [intOf]; omega
        · obtain rfl : t = m := by omega
          go_wp2
          go_roundw
          case rel => exact ⟨k + 1, zs, by omega, by go_num, hbr, hr, by rw [muP, glen.out]; exact hz.out⟩
          case measure => simp [intOf]; omega
    · obtain rfl : k = n := by omega
      go_wp2
      go_ret
      refine ⟨_, rfl, ?_, hbr⟩
      rw [mul, hlen.out, ← hz.out]
      exact hr.own

structure Sm (xs : List Int) : Prop where
  bd : ∀ j, j < xs.length → -1000000 ≤ el xs j ∧ el xs j ≤ 1000000
instance (xs : List Int) : Decidable (Sm xs) := decidable_of_iff (∀ j, j < xs.length → -1000000 ≤ el xs j ∧ el xs j ≤ 1000000) ⟨fun h => ⟨h⟩, fun h => h.bd⟩

set_option maxHeartbeats 1000000 in
theorem validRow_any (ao : Option Addr) (n cap : Nat) (xs : List Int) (w : World) (h : Sl w ao n cap xs) :
    Calls Try.prog 87 #[.slice ao n cap] w (Says w (.bool (decide (Co xs)))) := by
  have hbig := h.big
  have hlen := hid h.len
  by_cases h0 : n = 0
  · have hno : Hid (¬ Co xs) := fun v => by have := v.pos; rw [hlen.out] at this; omega
    have hz : ((n : Int) == 0) = true := by rw [h0]; rfl
    clear h0
    go_enter Try.func87, Try.ntmps87
    go_wp2
    go_ret
    exact says_false hno.out (Below.refl _ _)
  · have hz : ((n : Int) == 0) = false := by simp; omega
    by_cases h30 : n ≤ 30
    · go_enter Try.func87, Try.ntmps87
      go_wp2
      go_loopw [15] (fun i wr => ∃ (k : Nat), k ≤ n ∧ i = .int .i64 k ∧ Below w.heap.size w wr ∧ Hid (∀ j, j < k → -1000000 ≤ el xs j ∧ el xs j ≤ 1000000))
        (fun i _ => n - (intOf i).toNat)
      case atStart => exact ⟨0, Nat.zero_le _, rfl, Below.refl _ _, fun j hj => by omega⟩
      case round =>
        obtain ⟨k, hk, rfl, hbr, hm⟩ := hrel
        by_cases hlt : k < n
        · obtain ⟨b, off, rfl, hblt, hc⟩ := h.row (by omega)
          have hcell := (hbr.cell (p := ⟨b, off + k, none⟩) hblt).trans (hc k hlt)
          have hkx : k < xs.length := by rw [hlen.out]; exact hlt
          clear hc
          by_cases h0 : -1000000 ≤ el xs k
          · by_cases h1 : el xs k ≤ 1000000
            · go_wp2
              go_roundw
              case rel => exact ⟨k + 1, by omega, by go_num, hbr, upto_step hm.out ⟨h0, h1⟩⟩
              case measure => simp [intOf]; omega
            · have hno : Hid (¬ Co xs) := fun v => h1 (v.bd k hkx).2
              go_wp2
              go_ret
              exact says_false hno.out hbr
          · have hno : Hid (¬ Co xs) := fun v => h0 (v.bd k hkx).1
            go_wp2
            go_ret
            exact says_false hno.out hbr
        · obtain rfl : k = n := by omega
          go_wp2
          go_ret
          exact says_true ⟨by rw [hlen.out]; omega, by rw [hlen.out]; exact h30, fun j hj => hm.out j (by rw [hlen.out] at hj; exact hj)⟩ hbr
    · have hno : Hid (¬ Co xs) := fun v => by have := v.len; rw [hlen.out] at this; omega
      go_enter Try.func87, Try.ntmps87
      go_wp2
      go_ret
      exact says_false hno.out (Below.refl _ _)

/-- The program's product of many rows. -/
def prodP (ps : List (List Int)) : Nat → List Int
  | 0 => [1]
  | k + 1 => mul (prodP ps k) (pjw ps k)

set_option maxHeartbeats 2000000 in
theorem prodOf_any (g m : Nat) (ps : List (List Int)) (w : World) (h : PrtW w g ps) (hm : ps.length = m) (hm4 : m ≤ 4) (HB : Hid (∀ j, j < m → Bs (pjw ps j) 1000000 ∧ 0 < (pjw ps j).length ∧ (pjw ps j).length ≤ 30))
    (HP : Hid (∀ k, k < m → Bs (prodP ps k) 1000000 ∧ 0 < (prodP ps k).length ∧ (prodP ps k).length ≤ 30)) :
    Calls Try.prog 84 #[.slice (some ⟨g, 0, none⟩) m m] w (Made w (prodP ps m)) := by
  have Hm := hid hm
  clear hm
  have hgl := h.lt
  go_enter Try.func84, Try.ntmps84
  go_wp2
  go_loopw [3, 9] (fun v i wr => ∃ (k q : Nat) (ao' : Option Addr) (cap' : Nat), k ≤ m ∧ v = .slice ao' q cap' ∧ i = .int .i64 k ∧ Below w.heap.size w wr ∧ Own wr w.heap.size (.slice ao' q cap') (prodP ps k))
    (fun _ i _ => m - (intOf i).toNat)
  case atStart => exact ⟨0, _, _, _, Nat.zero_le _, rfl, rfl, (Below.refl _ _).alloc (Nat.le_refl _) _, own_one w 1 w.heap.size (Nat.le_refl _)⟩
  case round =>
    obtain ⟨k, q, ao', cap', hk, rfl, rfl, hbr, ho⟩ := hrel
    by_cases hlt : k < m
    · have hi1 : (k : Int) < m := by omega
      obtain ⟨ao, n, cap, hc, hs⟩ := h.at_ k (by rw [Hm.out]; exact hlt)
      have hcell := (hbr.cell (p := ⟨g, k, none⟩) hgl).trans hc
      have hs2 := hs.later hbr
      have hq := ho.read.len
      have hn := hs.len
      have hB := HB.out k hlt
      have hP := HP.out k hlt
      have hq0 : 0 < q := by omega
      have hn0 : 0 < n := by omega
      have hq30 : q ≤ 30 := by omega
      have hn30 : n ≤ 30 := by omega
      have HBk := hid hB.1
      have HPk := hid hP.1
      clear hs hc hq hn hB hP
      go_wp2_with fail
      refine (timesI3_any _ _ _ (prodP ps k) _ _ _ (pjw ps k) _ ho.read hs2 hq0 hn0 hq30 hn30 HPk HBk).mono ?_
      rintro e w2 ⟨u2, rfl, o2, b2⟩
      have hb2 := hbr.trans (b2.mono hbr.size)
      have ho2 := o2.mono hbr.size
      obtain ⟨ad2, cp2, rfl, -⟩ := ho2.sl
      have e1 : mul (prodP ps k) (pjw ps k) = prodP ps (k + 1) := rfl
      rw [e1] at ho2 ⊢
      obtain ⟨Q, hQ⟩ : ∃ Q, Q = (prodP ps (k + 1)).length := ⟨_, rfl⟩
      rw [← hQ] at ho2 ⊢
      clear o2 b2 e1 hQ ho hs2 hcell
      go_wp2
      go_roundw
      case rel => exact ⟨k + 1, _, _, _, by omega, rfl, by go_num, hb2, ho2⟩
      case measure => simp [intOf]; omega
    · obtain rfl : k = m := by omega
      go_wp2
      go_ret
      exact ⟨_, rfl, ho, hbr⟩

theorem two_rows {xs ys : List Int} (hx : Co xs) (hy : Co ys) : (∀ j, j < 2 → Bs (pjw [xs, ys] j) 1000000 ∧ 0 < (pjw [xs, ys] j).length ∧ (pjw [xs, ys] j).length ≤ 30) ∧
    (∀ k, k < 2 → Bs (prodP [xs, ys] k) 1000000 ∧ 0 < (prodP [xs, ys] k).length ∧ (prodP [xs, ys] k).length ≤ 30) ∧ prodP [xs, ys] 2 = mul xs ys := by
  have e0 : pjw [xs, ys] 0 = xs := rfl
  have e1 : pjw [xs, ys] 1 = ys := rfl
  have p0 : prodP [xs, ys] 0 = [1] := rfl
  have p1 : prodP [xs, ys] 1 = xs := mul_one'
  refine ⟨fun j hj => ?_, fun k hk => ?_, ?_⟩
  · match j, hj with
    | 0, _ => rw [e0]; exact ⟨hx.bs, hx.pos, hx.len⟩
    | 1, _ => rw [e1]; exact ⟨hy.bs, hy.pos, hy.len⟩
    | j + 2, h => exact absurd h (by omega)
  · match k, hk with
    | 0, _ =>
      rw [p0]
      refine ⟨fun j => ?_, by simp, by simp⟩
      match j with
      | 0 => simp [el]
      | j + 1 => simp [el]
    | 1, _ => rw [p1]; exact ⟨hx.bs, hx.pos, hx.len⟩
    | k + 2, h => exact absurd h (by omega)
  · rw [prodP, p1, e1]

set_option maxHeartbeats 2000000 in
theorem mrwI_any (ao : Option Addr) (n cap : Nat) (xs : List Int) (bo : Option Addr) (m cap2 : Nat) (ys : List Int) (w : World) (h : Sl w ao n cap xs) (g : Sl w bo m cap2 ys) :
    Calls Try.prog 48 #[.slice ao n cap, .slice bo m cap2] w (Made w (onCo xs ys (mul xs ys))) := by
  by_cases hx : Co xs
  · by_cases hy : Co ys
    · have Hx := hid hx
      have Hy := hid hy
      clear hx hy
      go_enter Try.func48, Try.ntmps48
      go_wp2_with fail
      refine (says_tob (validRow_any _ _ _ xs _ h) (decide_eq_true Hx.out)).mono ?_
      rintro e w1 ⟨rfl, b1⟩
      have g1 := g.later b1
      have h1 := h.later b1
      go_wp2_with fail
      refine (says_tob (validRow_any _ _ _ ys _ g1) (decide_eq_true Hy.out)).mono ?_
      rintro e w2 ⟨rfl, b2⟩
      have t2 := b1.trans (b2.mono b1.size)
      have HQ := hid (prtw2 (h1.later b2) (g1.later b2))
      have H3 := hid (two_rows Hx.out Hy.out)
      go_wp2_with fail
      refine (prodOf_any _ 2 [xs, ys] _ HQ.out rfl (by omega) (hid H3.out.1) (hid H3.out.2.1)).mono ?_
      rintro e w3 ⟨u3, rfl, o3, b3⟩
      go_wp2
      go_ret
      refine ⟨_, rfl, ?_, (t2.alloc t2.size _).trans (b3.mono (Nat.le_trans t2.size (by simp)))⟩
      rw [onCo_yes ⟨Hx.out, Hy.out⟩, ← H3.out.2.2]
      exact o3.mono (Nat.le_trans t2.size (by simp))
    · have Hx := hid hx
      have Hy := hid hy
      clear hx hy
      go_enter Try.func48, Try.ntmps48
      go_wp2_with fail
      refine (says_tob (validRow_any _ _ _ xs _ h) (decide_eq_true Hx.out)).mono ?_
      rintro e w1 ⟨rfl, b1⟩
      have g1 := g.later b1
      go_wp2_with fail
      refine (says_tob (validRow_any _ _ _ ys _ g1) (decide_eq_false Hy.out)).mono ?_
      rintro e w2 ⟨rfl, b2⟩
      go_wp2
      go_ret
      refine ⟨_, rfl, ?_, b1.trans (b2.mono b1.size)⟩
      rw [onCo_no (fun v => Hy.out v.2)]
      exact Own.nil
  · have Hx := hid hx
    clear hx
    go_enter Try.func48, Try.ntmps48
    go_wp2_with fail
    refine (says_tob (validRow_any _ _ _ xs _ h) (decide_eq_false Hx.out)).mono ?_
    rintro e w1 ⟨rfl, b1⟩
    go_wp2
    go_ret
    refine ⟨_, rfl, ?_, b1⟩
    rw [onCo_no (fun v => Hx.out v.1)]
    exact Own.nil

end Go.Proofs.Ytjphaphnmclbcaa
