/- Products of rows of numbers, and the rows of circles and of descents, in the program and in its model. Conditions: of products: few small numbers, at least one on each side. -/
import Derived.Test.YtjphaphnmclbcaaBnd
import Derived.StillTailTactics
namespace Go.Proofs.Ytjphaphnmclbcaa
open Go.RowKit

theorem own_list (w : World) (ys : List Int) (B : Nat) (hB : B ≤ w.heap.size) (hl : ys.length ≤ 1000) : Own (w.alloc (.cells (ys.map (Value.int .i64)).toArray 3)) B (.slice (some ⟨w.heap.size, 0, none⟩) ys.length ys.length) ys :=
  World.ownsRow_lit w (ys.map (Value.int .i64)).toArray ys.length hB (by unfold maxLen; omega) (by simp)
theorem own_one (w : World) (x : Int) (B : Nat) (hB : B ≤ w.heap.size) : Own (w.alloc (.cells #[.int .i64 x] 3)) B (.slice (some ⟨w.heap.size, 0, none⟩) 1 1) [x] := own_list w [x] B hB (by simp)
theorem own_two (w : World) (x y : Int) (B : Nat) (hB : B ≤ w.heap.size) : Own (w.alloc (.cells #[.int .i64 x, .int .i64 y] 3)) B (.slice (some ⟨w.heap.size, 0, none⟩) 2 2) [x, y] := own_list w [x, y] B hB (by simp)

set_option maxRecDepth 20000 in
set_option maxHeartbeats 2000000 in
theorem timesI_any (ao : Option Addr) (n cap : Nat) (xs : List Int) (bo : Option Addr) (m cap2 : Nat) (ys : List Int) (w : World) (h : Sl w ao n cap xs) (g : Sl w bo m cap2 ys) (hn : 0 < n) (hm : 0 < m) (hn3 : n ≤ 30) (hm1 : m ≤ 10) (hx : Hid (Bd xs 10000)) (hy : Hid (Bd ys 10)) :
    Calls Try.prog 88 #[.slice ao n cap, .slice bo m cap2] w (Made w (mul xs ys)) := by
  have hlen := hid h.len
  have glen := hid g.len
  obtain ⟨b, off, rfl, hblt, hc⟩ := h.row hn
  obtain ⟨b2, off2, rfl, hblt2, hc2⟩ := g.row hm
  have hcc := hid hc
  have hcc2 := hid hc2
  clear hc hc2
  have hbig := h.big
  have hbig2 := g.big
  obtain ⟨s, hs⟩ : ∃ s, s = n + m - 1 := ⟨_, rfl⟩
  have Hs := hid hs
  have hz1 : ((n : Int) == 0) = false := by simp; omega
  have hz2 : ((m : Int) == 0) = false := by simp; omega
  clear hs
  go_enter Try.func88, Try.ntmps88
  go_wp2_with (at_make; refine make_ints _ rfl _ _ rfl _ _ s rfl rfl (by have := Hs.out; omega) (by have := Hs.out; omega) (by have := Hs.out; omega) ?_)
  intro w2 ho2 hb2
  go_wp2
  go_loopw [19] (fun i wr => ∃ (k : Nat) (zs : List Int), k ≤ n ∧ i = .int .i64 k ∧ Below w.heap.size w wr ∧ OwS wr w.heap.size w.heap.size s s zs ∧ Hid (zs = muP xs ys k))
    (fun i _ => n - (intOf i).toNat)
  case atStart => exact ⟨0, _, Nat.zero_le _, rfl, hb2, ho2, hid (by rw [muP, hlen.out, glen.out, ← Hs.out])⟩
  case round =>
    obtain ⟨k, zs, hk, rfl, hbr, hr, hz⟩ := hrel
    by_cases hlt : k < n
    · have hcell := (hbr.cell (p := ⟨b, off + k, none⟩) hblt).trans (hcc.out k hlt)
      have hi1 : (k : Int) < n := by omega
      go_wp2
      obtain ⟨wo, hwo⟩ : ∃ wo : World, wo = wr := ⟨_, rfl⟩
      subst hwo
      go_loopw [26] (fun j wr => ∃ (t : Nat) (zs : List Int), t ≤ m ∧ j = .int .i64 t ∧ Below w.heap.size w wr ∧ OwS wr w.heap.size w.heap.size s s zs ∧ Hid (zs = muR xs ys k (muP xs ys k) t))
        (fun j _ => m - (intOf j).toNat)
      case atStart => exact ⟨0, zs, Nat.zero_le _, rfl, hbr, hr, hz⟩
      case round =>
        obtain ⟨t, zs, ht, rfl, hbr, hr, hz⟩ := hrel
        by_cases htl : t < m
        · have hcell := (hbr.cell (p := ⟨b, off + k, none⟩) hblt).trans (hcc.out k hlt)
          have hcell2 := (hbr.cell (p := ⟨b2, off2 + t, none⟩) hblt2).trans (hcc2.out t htl)
          have hp := prod_bd (hx.out k) (hy.out t)
          have hbz := muR_bd hx.out hy.out k (muP_bd hx.out hy.out (by rw [glen.out]; omega) k) t (k + t)
          rw [← hz.out] at hbz
          have hz1 := hbz.1
          have hz2 : el zs (k + t) ≤ 100000000 := by have := hbz.2; omega
          have hp1 := hp.1
          have hp2 : el xs k * el ys t ≤ 100000 := hp.2
          obtain ⟨pr, hpr⟩ : ∃ pr, pr = el xs k * el ys t := ⟨_, rfl⟩
          rw [← hpr] at hp1 hp2
          have hw : wrap64 (el xs k * el ys t) = pr := by rw [← hpr]; exact IntWalk.wrap64_in _ ⟨by omega, by omega⟩
          have hi2 : (t : Int) < m := by omega
          have hi3 : (k : Int) + t < s := by have := Hs.out; omega
          have hkt : k + t < s := by have := Hs.out; omega
          have hzl := hid hr.len
          have hfr := hr.frozen (k + t)
          have hcur := hr.cell hkt
          have Hpr := hid hpr
          clear hbz hp hpr
          go_wp2
          go_roundw
          case rel =>
            refine ⟨t + 1, _, by omega, by go_num, hbr.setCell (Nat.le_refl _) _, hr.set (k + t) (el zs (k + t) + pr), ?_⟩
            show zs.set (k + t) _ = addAt _ (k + t) _
            rw [addAt, ← hz.out, ← Hpr.out]
          case measure => simp [intOf]; omega
        · obtain rfl : t = m := by omega
          go_wp2
          go_roundw
          case rel => exact ⟨k + 1, zs, by omega, by go_num, hbr, hr, by rw [muP, glen.out]; exact hz.out⟩
          case measure => simp [intOf]; omega
    · obtain rfl : k = n := by omega
      go_wp2
      go_ret
      refine ⟨_, rfl, ?_, hbr⟩
      rw [mul, hlen.out, ← hz.out]
      exact hr.own

set_option maxRecDepth 20000 in
set_option maxHeartbeats 2000000 in
theorem timesS_any (ao : Option Addr) (n cap : Nat) (xs : List Int) (bo : Option Addr) (m cap2 : Nat) (ys : List Int) (w : World) (h : Sl w ao n cap xs) (g : Sl w bo m cap2 ys) (hn : 0 < n) (hm : 0 < m) (hn3 : n ≤ 30) (hm1 : m ≤ 10) (hx : Hid (Bd xs 10000)) (hy : Hid (Bd ys 10)) :
    Calls Try.prog 102 #[.slice ao n cap, .slice bo m cap2] w (Made w (mul xs ys)) := by
  have hlen := hid h.len
  have glen := hid g.len
  obtain ⟨b, off, rfl, hblt, hc⟩ := h.row hn
  obtain ⟨b2, off2, rfl, hblt2, hc2⟩ := g.row hm
  have hcc := hid hc
  have hcc2 := hid hc2
  clear hc hc2
  have hbig := h.big
  have hbig2 := g.big
  obtain ⟨s, hs⟩ : ∃ s, s = n + m - 1 := ⟨_, rfl⟩
  have Hs := hid hs
  have hz1 : ((n : Int) == 0) = false := by simp; omega
  have hz2 : ((m : Int) == 0) = false := by simp; omega
  clear hs
  go_enter Try.func102, Try.ntmps102
  go_wp2_with (at_make; refine make_ints _ rfl _ _ rfl _ _ s rfl rfl (by have := Hs.out; omega) (by have := Hs.out; omega) (by have := Hs.out; omega) ?_)
  intro w2 ho2 hb2
  go_wp2
  go_loopw [6] (fun i wr => ∃ (k : Nat) (zs : List Int), k ≤ n ∧ i = .int .i64 k ∧ Below w.heap.size w wr ∧ OwS wr w.heap.size w.heap.size s s zs ∧ Hid (zs = muP xs ys k))
    (fun i _ => n - (intOf i).toNat)
  case atStart => exact ⟨0, _, Nat.zero_le _, rfl, hb2, ho2, hid (by rw [muP, hlen.out, glen.out, ← Hs.out])⟩
  case round =>
    obtain ⟨k, zs, hk, rfl, hbr, hr, hz⟩ := hrel
    by_cases hlt : k < n
    · have hcell := (hbr.cell (p := ⟨b, off + k, none⟩) hblt).trans (hcc.out k hlt)
      have hi1 : (k : Int) < n := by omega
      go_wp2
      obtain ⟨wo, hwo⟩ : ∃ wo : World, wo = wr := ⟨_, rfl⟩
      subst hwo
      go_loopw [7] (fun j wr => ∃ (t : Nat) (zs : List Int), t ≤ m ∧ j = .int .i64 t ∧ Below w.heap.size w wr ∧ OwS wr w.heap.size w.heap.size s s zs ∧ Hid (zs = muR xs ys k (muP xs ys k) t))
        (fun j _ => m - (intOf j).toNat)
      case atStart => exact ⟨0, zs, Nat.zero_le _, rfl, hbr, hr, hz⟩
      case round =>
        obtain ⟨t, zs, ht, rfl, hbr, hr, hz⟩ := hrel
        by_cases htl : t < m
        · have hcell := (hbr.cell (p := ⟨b, off + k, none⟩) hblt).trans (hcc.out k hlt)
          have hcell2 := (hbr.cell (p := ⟨b2, off2 + t, none⟩) hblt2).trans (hcc2.out t htl)
          have hp := prod_bd (hx.out k) (hy.out t)
          have hbz := muR_bd hx.out hy.out k (muP_bd hx.out hy.out (by rw [glen.out]; omega) k) t (k + t)
          rw [← hz.out] at hbz
          have hz1 := hbz.1
          have hz2 : el zs (k + t) ≤ 100000000 := by have := hbz.2; omega
          have hp1 := hp.1
          have hp2 : el xs k * el ys t ≤ 100000 := hp.2
          obtain ⟨pr, hpr⟩ : ∃ pr, pr = el xs k * el ys t := ⟨_, rfl⟩
          rw [← hpr] at hp1 hp2
          have hw : wrap64 (el xs k * el ys t) = pr := by rw [← hpr]; exact IntWalk.wrap64_in _ ⟨by omega, by omega⟩
          have hi2 : (t : Int) < m := by omega
          have hi3 : (k : Int) + t < s := by have := Hs.out; omega
          have hkt : k + t < s := by have := Hs.out; omega
          have hzl := hid hr.len
          have hfr := hr.frozen (k + t)
          have hcur := hr.cell hkt
          have Hpr := hid hpr
          clear hbz hp hpr
          have hi0 : 0 ≤ (k : Int) + t := by omega
          have htn : ((k : Int) + t).toNat = k + t := by omega
          have hwk : IntKind.i64.wrap ((k : Int) + t) = (k : Int) + t := IntWalk.i64_in _ ⟨by omega, by omega⟩
          have hwp : IntKind.i64.wrap (el xs k * el ys t) = pr := (IntWalk.i64_left _).trans hw
          have hws : IntKind.i64.wrap (el zs (k + t) + pr) = el zs (k + t) + pr := IntWalk.i64_in _ ⟨by omega, by omega⟩
          go_wp2_with fail
          refine wp_region_still_tail 21 (by kernel_rfl) (by kernel_rfl) ?_
          simp only [List.take_succ_cons, List.take_zero, List.drop_succ_cons, List.drop_zero]
          change wpStill _ _ (World.drew _) _ _ _
          repeat still_step
          refine wpStill_nil ?_
          change wpList _ _ _ _ _ (World.drew _)
          go_wp2
          go_roundw
          case rel =>
            refine ⟨t + 1, _, by omega, by go_num, (drewN_below hbr _).setCell (Nat.le_refl _) _, hr.set (k + t) (el zs (k + t) + pr), ?_⟩
            show zs.set (k + t) _ = addAt _ (k + t) _
            rw [addAt, ← hz.out, ← Hpr.out]
          case measure => simp [intOf]; omega
        · obtain rfl : t = m := by omega
          go_wp2
          go_roundw
          case rel => exact ⟨k + 1, zs, by omega, by go_num, hbr, hr, by rw [muP, glen.out]; exact hz.out⟩
          case measure => simp [intOf]; omega
    · obtain rfl : k = n := by omega
      go_wp2
      go_ret
      refine ⟨_, rfl, ?_, hbr⟩
      rw [mul, hlen.out, ← hz.out]
      exact hr.own

end Go.Proofs.Ytjphaphnmclbcaa
