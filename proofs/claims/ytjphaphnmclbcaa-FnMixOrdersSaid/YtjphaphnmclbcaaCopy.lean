/- The copy of a list of numbers that the exact laws make. Condition: at most 2^20 numbers. -/
import Derived.Test.YtjphaphnmclbcaaBnd
namespace Go.Proofs.Ytjphaphnmclbcaa
open Go.RowKit

theorem copied_set (xs : List Int) (n k : Nat) (hn : xs.length = n) (hk : k < n) :
    (xs.take k ++ List.replicate (n - k) 0).set k (el xs k) = xs.take (k + 1) ++ List.replicate (n - (k + 1)) 0 := by
  subst hn
  rw [List.set_append_right _ _ (by simp; omega), take_el hk]
  obtain ⟨m, hm⟩ : ∃ m, xs.length - k = m + 1 := ⟨xs.length - k - 1, by omega⟩
  rw [hm, show xs.length - (k + 1) = m by omega, List.replicate_succ]
  simp [Nat.min_eq_left (Nat.le_of_lt hk)]

set_option maxHeartbeats 400000 in
theorem toIntS_any (ao : Option Addr) (n cap : Nat) (xs : List Int) (w : World) (h : Sl w ao n cap xs) (hn : n ≤ 1048576) :
    Calls Try.prog 24 #[.slice ao n cap] w (Made w xs) := by
  obtain ⟨i0, hi, hz0, hz1, hz2⟩ := info_parts infoI
  go_enter Try.func24, Try.ntmps24
  go_wp2_with (at_make; refine wpList_make_full _ rfl _ _ 23 rfl w.heap.size 3 i0 (.int .i64 0) 1 Try.underlying23 hi hz0 hz1 _ _ _ _ n rfl rfl rfl rfl ?c1 ?c2 ?c3 ?_)
  case c1 => rw [hz2]; omega
  case c2 => unfold maxLen; omega
  case c3 => exact Nat.le_refl _
  intro w1 hown hgrow
  have hb1 : Below w.heap.size w w1 := (Below.refl _ _).grown hgrow (Nat.le_refl _) (fun k hk => by simp at hk)
  have hlen := hid h.len
  go_wp2
  go_loopw [4] (fun i wr => ∃ k : Nat, k ≤ n ∧ i = .int .i64 k ∧ OwS wr w.heap.size w.heap.size n n (xs.take k ++ List.replicate (n - k) 0) ∧ Below w.heap.size w wr)
    (fun i _ => n - (intOf i).toNat)
  case atStart =>
    refine ⟨0, Nat.zero_le _, rfl, ?_, hb1⟩
    have e : (madeCells #[Value.int .i64 0] n).toList = ((xs.take 0 ++ List.replicate (n - 0) 0).map (Value.int .i64)) := by
      simp [toList_madeCells_one]
    unfold OwS
    rw [← e]; exact hown
  case round =>
    obtain ⟨k, hk, rfl, hr, hbr⟩ := hrel
    by_cases hlt : k < n
    · obtain ⟨b, off, rfl, hblt, hc⟩ := h.row (by omega)
      have hcell := (hbr.cell (p := ⟨b, off + k, none⟩) hblt).trans (hc k hlt)
      have hfr := hr.frozen k
      have hcur := hr.cell hlt
      clear hc
      go_wp2
      go_roundw
      case rel =>
        have hst := hr.set k (el xs k)
        rw [copied_set xs n k hlen.out hlt] at hst
        exact ⟨k + 1, by omega, by go_num, hst, hbr.setCell (Nat.le_refl _) _⟩
      case measure => simp [intOf]; omega
    · obtain rfl : k = n := by omega
      go_wp2
      go_ret
      refine ⟨_, rfl, ?_, hbr⟩
      have := hr.own
      rwa [Nat.sub_self, List.replicate_zero, List.append_nil, List.take_of_length_le (Nat.le_of_eq hlen.out)] at this

set_option maxHeartbeats 400000 in
theorem eqIntS_any (ao : Option Addr) (n cap : Nat) (xs : List Int) (bo : Option Addr) (m cap2 : Nat) (ys : List Int) (w : World) (h : Sl w ao n cap xs) (g : Sl w bo m cap2 ys) :
    Calls Try.prog 25 #[.slice ao n cap, .slice bo m cap2] w (Says w (.bool (decide (xs = ys)))) := by
  have hbig := h.big
  have hbig2 := g.big
  have hlen := hid h.len
  have glen := hid g.len
  by_cases hnm : n = m
  · subst hnm
    go_enter Try.func25, Try.ntmps25
    go_wp2
    go_loopw [5] (fun i wr => ∃ k : Nat, k ≤ n ∧ i = .int .i64 k ∧ Below w.heap.size w wr ∧ Hid (∀ j, j < k → el xs j = el ys j))
      (fun i _ => n - (intOf i).toNat)
    case atStart => exact ⟨0, Nat.zero_le _, rfl, Below.refl _ _, fun j hj => by omega⟩
    case round =>
      obtain ⟨k, hk, rfl, hbr, heq⟩ := hrel
      by_cases hlt : k < n
      · obtain ⟨b, off, rfl, hblt, hc⟩ := h.row (by omega)
        obtain ⟨b2, off2, rfl, hblt2, hc2⟩ := g.row (by omega)
        have hcell := (hbr.cell (p := ⟨b, off + k, none⟩) hblt).trans (hc k hlt)
        have hcell2 := (hbr.cell (p := ⟨b2, off2 + k, none⟩) hblt2).trans (hc2 k hlt)
        clear hc hc2
        have hi1 : (k : Int) < n := by omega
        go_wp2
        go_quiet (fail)
        go_wp2
        · have hne : ¬ el xs k = el ys k := by
            have : (el xs k != el ys k) = true := by assumption
            simpa using this
          go_ret
          exact says_false (fun e => hne (by rw [e])) (drewN_below hbr _)
        · have he : el xs k = el ys k := by
            have : (el xs k != el ys k) = false := by assumption
            simpa using this
          go_roundw
          case rel => exact ⟨k + 1, by omega, by go_num, drewN_below hbr _, fun j hj => by
            by_cases hjk : j = k
            · rw [hjk]; exact he
            · exact heq.out j (by omega)⟩
          case measure => simp [intOf]; omega
      · obtain rfl : k = n := by omega
        go_wp2
        go_ret
        exact says_true (ext_el (by rw [hlen.out, glen.out]) (fun j hj => heq.out j (by rw [hlen.out] at hj; exact hj))) hbr
  · have hne : ¬ (n : Int) = m := by omega
    go_enter Try.func25, Try.ntmps25
    go_wp2
    go_ret
    exact says_false (fun e => hnm (by rw [← hlen.out, ← glen.out, e])) (Below.refl _ _)

set_option maxHeartbeats 400000 in
theorem markIntS_row (B g n cap : Nat) (ys : List Int) (k : Int) (w : World) (hown : OwS w B g n cap ys) (hk0 : 0 ≤ k) (hk : k ≤ 4000000) (hn : n ≤ 2000000) :
    Calls Try.prog 26 #[.slice (some ⟨g, 0, none⟩) n cap, .int .i64 k] w fun e w' => e = .returned (.int .i64 (k + (n : Nat))) ∧ OwS w' B g n cap (marks k n) ∧ w.grownBy w' (some g) := by
  go_enter Try.func26, Try.ntmps26
  go_wp2
  go_loopw [1, 5] (fun q i wr => ∃ (j : Nat) (zs : List Int), j ≤ n ∧ i = .int .i64 j ∧ q = .int .i64 (k + j) ∧ OwS wr B g n cap zs ∧ Hid (∀ t, t < j → el zs t = k + t) ∧ w.grownBy wr (some g))
    (fun _ i _ => n - (intOf i).toNat)
  case atStart => exact ⟨0, ys, Nat.zero_le _, rfl, by simp, hown, fun t ht => by omega, World.grownBy.refl _ _⟩
  case round =>
    obtain ⟨j, zs, hj, rfl, rfl, hz, hm, hg⟩ := hrel
    by_cases hlt : j < n
    · have hfr := hz.frozen j
      have hcur := hz.cell hlt
      go_wp2
      go_roundw
      case rel =>
        have hzl := hz.len
        exact ⟨j + 1, zs.set j (k + j), by omega, by go_num, by go_num, hz.set j _, fun t ht => by
          by_cases htj : t = j
          · rw [htj, el_set_same (by omega)]
          · rw [el_set_ne (by omega)]; exact hm.out t (by omega), grown_trans hg grown_set⟩
      case measure => simp [intOf]; omega
    · obtain rfl : j = n := by omega
      go_wp2
      go_ret
      refine ⟨rfl, ?_, hg⟩
      rw [← marks_ext hz.len hm.out]
      exact hz

theorem markIntS_any (u : Value) (B : Nat) (ys : List Int) (k : Int) (w : World) (h : Own w B u ys) (hk0 : 0 ≤ k) (hk : k ≤ 4000000) (hn : ys.length ≤ 2000000) :
    Calls Try.prog 26 #[u, .int .i64 k] w fun e w' => e = .returned (.int .i64 (k + (ys.length : Nat))) ∧ Own w' B u (marks k ys.length) ∧ w.grownBy w' u.ownBlock := by
  rcases h.place with ⟨rfl, rfl⟩ | ⟨g, cap, rfl, hown⟩
  · go_enter Try.func26, Try.ntmps26
    go_wp2
    go_rounds 1
    go_ret
    exact ⟨by simp, Own.nil, World.grownBy.refl _ _⟩
  · refine (markIntS_row B g ys.length cap ys k w hown hk0 hk hn).mono ?_
    rintro e w' ⟨rfl, h1, h2⟩
    exact ⟨rfl, h1.own, h2⟩

set_option maxHeartbeats 400000 in
theorem heldIntS_any (ao : Option Addr) (n cap : Nat) (xs : List Int) (k : Int) (w : World) (h : Sl w ao n cap xs) (hk0 : 0 ≤ k) (hk : k ≤ 4000000) (hn : n ≤ 2000000) (hm : Hid (xs = marks k n)) :
    Calls Try.prog 27 #[.slice ao n cap, .int .i64 k] w (Says w (.int .i64 (k + n))) := by
  go_enter Try.func27, Try.ntmps27
  go_wp2
  go_loopw [1, 5] (fun q i wr => ∃ (j : Nat), j ≤ n ∧ i = .int .i64 j ∧ q = .int .i64 (k + j) ∧ Below w.heap.size w wr)
    (fun _ i _ => n - (intOf i).toNat)
  case atStart => exact ⟨0, Nat.zero_le _, rfl, by simp, Below.refl _ _⟩
  case round =>
    obtain ⟨j, hj, rfl, rfl, hbr⟩ := hrel
    by_cases hlt : j < n
    · obtain ⟨b, off, rfl, hblt, hc⟩ := h.row (by omega)
      have hcell := (hbr.cell (p := ⟨b, off + j, none⟩) hblt).trans (hc j hlt)
      have he : el xs j = k + j := by rw [hm.out, el_marks hlt]
      rw [he] at hcell
      clear hc he
      go_wp2
      go_roundw
      case rel => exact ⟨j + 1, by omega, by go_num, by go_num, hbr⟩
      case measure => simp [intOf]; omega
    · obtain rfl : j = n := by omega
      go_wp2
      go_ret
      exact ⟨rfl, hbr⟩
end Go.Proofs.Ytjphaphnmclbcaa
