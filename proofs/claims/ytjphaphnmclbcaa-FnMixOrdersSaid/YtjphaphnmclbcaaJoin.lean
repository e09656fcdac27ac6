/- Sums of orders, in the program and in its model. Condition: the lists' cells can be read. -/
import Derived.Test.YtjphaphnmclbcaaBnd
namespace Go.Proofs.Ytjphaphnmclbcaa
open Go.RowKit

set_option maxHeartbeats 2000000 in
theorem join_any (ao : Option Addr) (n cap : Nat) (xs : List Int) (p : Int) (bo : Option Addr) (m cap2 : Nat) (ys : List Int) (q : Int) (w : World) (h : Sl w ao n cap xs) (g : Sl w bo m cap2 ys)
    (hp0 : 0 ≤ p) (hp1 : p ≤ 2000000) (hq0 : 0 ≤ q) (hq1 : q ≤ 2000000) :
    Calls Try.prog 103 #[.slice ao n cap, .int .i64 p, .slice bo m cap2, .int .i64 q] w (Made2 w (onT xs ys (join xs p ys q)) (decide (Two xs ys))) := by
  have hlen := hid h.len
  have glen := hid g.len
  have hbig := h.big
  have gbig := g.big
  by_cases hx : Valid xs
  · have Hx := hid hx
    by_cases hy : Valid ys
    · have Hy := hid hy
      have h7 : n ≤ 7 := by have := hx.len; rw [hlen.out] at this; exact this
      have g7 : m ≤ 7 := by have := hy.len; rw [glen.out] at this; exact this
      by_cases hs : n + m ≤ 7
      · have hT : Hid (Two xs ys) := ⟨hx, hy, by rw [hlen.out, glen.out]; exact hs⟩
        have hsI : ¬ (7 : Int) < (n : Int) + m := by omega
        go_enter Try.func103, Try.ntmps103
        go_wp2_with fail
        refine (validI_any _ _ _ xs _ h).mono ?_
        rintro e w1 ⟨rfl, hb1⟩
        go_wp2_with fail
        refine (validI_any _ _ _ ys _ (g.later hb1)).mono ?_
        rintro e w2 ⟨rfl, hb2⟩
        have hb3 := hb1.trans (hb2.mono hb1.size)
        clear hb1 hb2
        go_wp2_with (at_make; refine make_cap _ rfl _ _ rfl _ (n + m) rfl rfl (by simp) (by omega) ?_)
        intro w4 ho4 hb4
        have hsz := hb3.size
        have ho4' := ho4.mono hsz
        have hb5 := hb3.trans (hb4.mono hsz)
        clear hx hy ho4
        go_wp2
        go_loopw [10, 39] (fun v i wr => ∃ (k : Nat) (ao' : Option Addr) (cap' : Nat), k ≤ n ∧ v = .slice ao' k cap' ∧ i = .int .i64 k ∧ Below w.heap.size w wr ∧ Own wr w.heap.size (.slice ao' k cap') ((List.range k).map (fun j => el xs j + p)))
          (fun v _ _ => n - lenOf v)
        case atStart => exact ⟨0, _, _, Nat.zero_le _, rfl, rfl, hb5, ho4'⟩
        case round =>
          obtain ⟨k, ao', cap', hk, rfl, rfl, hbr, ho⟩ := hrel
          by_cases hlt : k < n
          · obtain ⟨b, off, rfl, hblt, hc⟩ := h.row (by omega)
            have hsz := hbr.size
            have hl : ((List.range k).map (fun j => el xs j + p)).length ≤ 2000000 := by rw [map_range_len]; omega
            have hcell := (hbr.cell (p := ⟨b, off + k, none⟩) hblt).trans (hc k hlt)
            have hkx : k < xs.length := by rw [hlen.out]; exact hlt
            have hx0 := Hx.out.lo k hkx
            have hx1 := Hx.out.hi k hkx
            rw [hlen.out] at hx1
            clear hc hkx
            go_wp2_with (at_builtin; refine app_int _ _ rfl _ _ rfl w.heap.size _ _ rfl ho rfl hl hsz ?_)
            intro u' w' ho' hg'
            have hb' := below_app hbr ho hg'
            obtain ⟨ao', cap', rfl, hs'⟩ := ho'.sl
            rw [← map_range_succ (fun j => el xs j + p), map_range_len] at *
            go_wp2
            go_roundw
            case rel => exact ⟨k + 1, _, _, by omega, rfl, by go_num, hb', ho'⟩
            case measure => simp [lenOf]; omega
          · obtain rfl : n = k := by omega
            go_wp2
            obtain ⟨wo, hwo⟩ : ∃ wo : World, wo = wr := ⟨_, rfl⟩
            subst hwo
            have e0 : (List.range n).map (fun j => el xs j + p) = up xs p := by rw [up, hlen.out]
            rw [e0] at ho
            clear e0
            go_loopw [10, 52] (fun v i wr => ∃ (k : Nat) (ao' : Option Addr) (cap' : Nat), k ≤ m ∧ v = .slice ao' (n + k) cap' ∧ i = .int .i64 k ∧ Below w.heap.size w wr ∧ Own wr w.heap.size (.slice ao' (n + k) cap') (up xs p ++ (List.range k).map (fun j => el ys j + q)))
              (fun v _ _ => n + m - lenOf v)
            case atStart => exact ⟨0, _, _, Nat.zero_le _, rfl, rfl, hbr, by simpa using ho⟩
            case round =>
              obtain ⟨k, ao', cap', hk, rfl, rfl, hbr, ho⟩ := hrel
              by_cases hlt : k < m
              · obtain ⟨b, off, rfl, hblt, hc⟩ := g.row (by omega)
                have hsz := hbr.size
                have hl : (up xs p ++ (List.range k).map (fun j => el ys j + q)).length ≤ 2000000 := by rw [List.length_append, map_range_len, up_len, hlen.out]; omega
                have hcell := (hbr.cell (p := ⟨b, off + k, none⟩) hblt).trans (hc k hlt)
                have hkx : k < ys.length := by rw [glen.out]; exact hlt
                have hx0 := Hy.out.lo k hkx
                have hx1 := Hy.out.hi k hkx
                rw [glen.out] at hx1
                clear hc hkx
                go_wp2_with (at_builtin; refine app_int _ _ rfl _ _ rfl w.heap.size _ _ rfl ho rfl hl hsz ?_)
                intro u' w' ho' hg'
                have hb' := below_app hbr ho hg'
                rw [← map_range_succ (fun j => el ys j + q)] at ho'
                obtain ⟨ao', cap', rfl, hs'⟩ := ho'.sl
                have e1 : (up xs p ++ (List.range (k + 1)).map (fun j => el ys j + q)).length = n + (k + 1) := by rw [List.length_append, map_range_len, up_len, hlen.out]
                rw [e1] at ho' ⊢
                clear e1
                go_wp2
                go_roundw
                case rel => exact ⟨k + 1, _, _, by omega, rfl, by go_num, hb', ho'⟩
                case measure => simp [lenOf]; omega
              · obtain rfl : k = m := by omega
                go_wp2
                go_ret2
                refine made2_yes hT.out ?_ hbr
                rw [onT_yes hT.out, join, show up ys q = (List.range k).map (fun j => el ys j + q) by rw [up, glen.out]]
                exact ho
      · have hT : Hid (¬ Two xs ys) := fun t => hs (by have := t.2.2; rw [hlen.out, glen.out] at this; exact this)
        have hsI : (7 : Int) < (n : Int) + m := by omega
        go_enter Try.func103, Try.ntmps103
        go_wp2_with fail
        refine (validI_any _ _ _ xs _ h).mono ?_
        rintro e w1 ⟨rfl, hb1⟩
        go_wp2_with fail
        refine (validI_any _ _ _ ys _ (g.later hb1)).mono ?_
        rintro e w2 ⟨rfl, hb2⟩
        go_wp2
        go_ret2
        exact made2_no hT.out (onT_no hT.out) (hb1.trans (hb2.mono hb1.size))
    · have hT : Hid (¬ Two xs ys) := fun t => hy t.2.1
      go_enter Try.func103, Try.ntmps103
      go_wp2_with fail
      refine (validI_any _ _ _ xs _ h).mono ?_
      rintro e w1 ⟨rfl, hb1⟩
      go_wp2_with fail
      refine (validI_any _ _ _ ys _ (g.later hb1)).mono ?_
      rintro e w2 ⟨rfl, hb2⟩
      go_wp2
      go_ret2
      exact made2_no hT.out (onT_no hT.out) (hb1.trans (hb2.mono hb1.size))
  · have hT : Hid (¬ Two xs ys) := fun t => hx t.1
    go_enter Try.func103, Try.ntmps103
    go_wp2_with fail
    refine (validI_any _ _ _ xs _ h).mono ?_
    rintro e w1 ⟨rfl, hb1⟩
    go_wp2
    go_ret2
    exact made2_no hT.out (onT_no hT.out) (hb1)

theorem sumI_any (ao : Option Addr) (n cap : Nat) (xs : List Int) (bo : Option Addr) (m cap2 : Nat) (ys : List Int) (w : World) (h : Sl w ao n cap xs) (g : Sl w bo m cap2 ys) (hn : n ≤ 2000000) (_ : m ≤ 2000000) :
    Calls Try.prog 92 #[.slice ao n cap, .slice bo m cap2] w (Made2 w (onT xs ys (join xs 0 ys xs.length)) (decide (Two xs ys))) := by
  have hlen := h.len
  have glen := g.len
  rw [hlen]
  go_enter Try.func92, Try.ntmps92
  go_wp2_with fail
  refine (join_any _ _ _ xs 0 _ _ _ ys n _ h g (by omega) (by omega) (by omega) (by omega)).mono ?_
  rintro e w1 ⟨u, rfl, ho, hb⟩
  go_wp2
  go_ret2
  exact ⟨_, rfl, ho, hb⟩

end Go.Proofs.Ytjphaphnmclbcaa
