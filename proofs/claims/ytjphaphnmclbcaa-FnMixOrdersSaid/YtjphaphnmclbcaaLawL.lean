/- Lists of lists in the laws: equal ones. Condition: the lists' cells can be read. -/
import Derived.Test.YtjphaphnmclbcaaBnd
namespace Go.Proofs.Ytjphaphnmclbcaa
open Go.RowKit

theorem Sl.drewR {w : World} {ao : Option Addr} {n cap : Nat} {xs : List Int} (h : Sl w ao n cap xs) (m : Nat) : Sl (w.drewN m) ao n cap xs := ⟨h.len, h.le, h.max, h.row⟩
theorem drewL_more {w wr : World} {n : Nat} (h : ∃ q, wr = w.drewN q) : ∃ q, wr.drewN n = w.drewN q := by
  obtain ⟨q, e⟩ := h
  rw [e]
  exact ⟨_, World.drewN_drewN _ _ _⟩
theorem quietL_no {p : Prop} [Decidable p] {w w' : World} (h : ¬ p) (hw : ∃ q, w' = w.drewN q) : Ending.returned (.bool false) = .returned (.bool (decide p)) ∧ ∃ q, w' = w.drewN q := ⟨by rw [decide_eq_false h], hw⟩
theorem quietL_yes {p : Prop} [Decidable p] {w w' : World} (h : p) (hw : ∃ q, w' = w.drewN q) : Ending.returned (.bool true) = .returned (.bool (decide p)) ∧ ∃ q, w' = w.drewN q := ⟨by rw [decide_eq_true h], hw⟩
theorem quietL_to {P : Program} {f : FuncId} {a : Array Value} {w : World} {v v' : Bool} (h : Calls P f a w fun e w' => e = .returned (.bool v) ∧ ∃ q, w' = w.drewN q) (e : v = v') : Calls P f a w fun e w' => e = .returned (.bool v') ∧ ∃ q, w' = w.drewN q := e ▸ h

set_option maxHeartbeats 400000 in
theorem equalIntsQ_any (ao : Option Addr) (n cap : Nat) (xs : List Int) (bo : Option Addr) (m cap2 : Nat) (ys : List Int) (w : World) (h : Sl w ao n cap xs) (g : Sl w bo m cap2 ys) :
    Calls Try.prog 20 #[.slice ao n cap, .slice bo m cap2] w fun e w' => e = .returned (.bool (decide (xs = ys))) ∧ ∃ q, w' = w.drewN q := by
  have hbig := h.big
  have hbig2 := g.big
  have hlen := hid h.len
  have glen := hid g.len
  by_cases hnm : n = m
  · subst hnm
    go_enter Try.func20, Try.ntmps20
    go_wp2
    go_loopw [5] (fun i wr => ∃ k : Nat, k ≤ n ∧ i = .int .i64 k ∧ Hid (∃ q, wr = w.drewN q) ∧ Hid (∀ j, j < k → el xs j = el ys j))
      (fun i _ => n - (intOf i).toNat)
    case atStart => exact ⟨0, Nat.zero_le _, rfl, hid ⟨0, rfl⟩, fun j hj => by omega⟩
    case round =>
      obtain ⟨k, hk, rfl, Hq, heq⟩ := hrel
      have h' : Sl wr ao n cap xs := by obtain ⟨q, e⟩ := Hq.out; rw [e]; exact h.drewR q
      have g' : Sl wr bo n cap2 ys := by obtain ⟨q, e⟩ := Hq.out; rw [e]; exact g.drewR q
      by_cases hlt : k < n
      · obtain ⟨b, off, rfl, hblt, hc⟩ := h'.row (by omega)
        obtain ⟨b2, off2, rfl, hblt2, hc2⟩ := g'.row (by omega)
        have hcell := hc k hlt
        have hcell2 := hc2 k hlt
        clear hc hc2
        have hi1 : (k : Int) < n := by omega
        go_wp2
        go_quiet (fail)
        go_wp2
        · have hne : ¬ el xs k = el ys k := by
            have : (el xs k != el ys k) = true := by assumption
            simpa using this
          go_ret
          exact quietL_no (fun e => hne (by rw [e])) (drewL_more Hq.out)
        · have he : el xs k = el ys k := by
            have : (el xs k != el ys k) = false := by assumption
            simpa using this
          go_roundw
          case rel => exact ⟨k + 1, by omega, by go_num, hid (drewL_more Hq.out), fun j hj => by
            by_cases hjk : j = k
            · rw [hjk]; exact he
            · exact heq.out j (by omega)⟩
          case measure => simp [intOf]; omega
      · obtain rfl : k = n := by omega
        go_wp2
        go_ret
        exact quietL_yes (ext_el (by rw [hlen.out, glen.out]) (fun j hj => heq.out j (by rw [hlen.out] at hj; exact hj))) Hq.out
  · have hne : ¬ (n : Int) = m := by omega
    go_enter Try.func20, Try.ntmps20
    go_wp2
    go_ret
    exact quietL_no (fun e => hnm (by rw [← hlen.out, ← glen.out, e])) ⟨0, rfl⟩

set_option maxHeartbeats 1000000 in
theorem equalLists_any (ao : Option Addr) (n cap : Nat) (xss : List (List Int)) (bo : Option Addr) (m cap2 : Nat) (yss : List (List Int)) (w : World) (h : SlL w ao n cap xss) (g : SlL w bo m cap2 yss) :
    Calls Try.prog 37 #[.slice ao n cap, .slice bo m cap2] w (Says w (.bool (decide (xss = yss)))) := by
  have hbig := h.big
  have hbig2 := g.big
  have hlen := hid h.len
  have glen := hid g.len
  by_cases hnm : n = m
  · subst hnm
    go_enter Try.func37, Try.ntmps37
    go_wp2
    go_loopw [5] (fun i wr => ∃ k : Nat, k ≤ n ∧ i = .int .i64 k ∧ Below w.heap.size w wr ∧ Hid (∀ j, j < k → ell xss j = ell yss j))
      (fun i _ => n - (intOf i).toNat)
    case atStart => exact ⟨0, Nat.zero_le _, rfl, Below.refl _ _, fun j hj => by omega⟩
    case round =>
      obtain ⟨k, hk, rfl, hbr, heq⟩ := hrel
      by_cases hlt : k < n
      · obtain ⟨b, off, rfl, hblt, hc⟩ := (h.later hbr).row (by omega)
        obtain ⟨b2, off2, rfl, hblt2, hc2⟩ := (g.later hbr).row (by omega)
        obtain ⟨a1, c1, hcell, hs1⟩ := hc k hlt
        obtain ⟨a2, c2, hcell2, hs2⟩ := hc2 k hlt
        clear hc hc2
        have hi1 : (k : Int) < n := by omega
        obtain ⟨l1, hl1⟩ : ∃ l, l = (ell xss k).length := ⟨_, rfl⟩
        obtain ⟨l2, hl2⟩ : ∃ l, l = (ell yss k).length := ⟨_, rfl⟩
        rw [← hl1] at hcell hs1
        rw [← hl2] at hcell2 hs2
        clear hl1 hl2
        have hs1h := hid hs1
        have hs2h := hid hs2
        clear hs1 hs2
        by_cases he : ell xss k = ell yss k
        · have He := hid he
          clear he
          go_wp2_with fail
          go_quiet ((go_at_call 20; exact Calls.quiet_of (quietL_to (equalIntsQ_any _ _ _ (ell xss k) _ _ _ (ell yss k) _ (hs1h.out.drewR _) (hs2h.out.drewR _)) (decide_eq_true He.out))))
          go_wp2
          go_roundw
          case rel => exact ⟨k + 1, by omega, by go_num, drewN_below hbr _, upto_step heq.out He.out⟩
          case measure => simp [intOf]; omega
        · have He := hid he
          clear he
          go_wp2_with fail
          go_quiet ((go_at_call 20; exact Calls.quiet_of (quietL_to (equalIntsQ_any _ _ _ (ell xss k) _ _ _ (ell yss k) _ (hs1h.out.drewR _) (hs2h.out.drewR _)) (decide_eq_false He.out))))
          go_wp2
          go_ret
          exact says_false (fun e => He.out (by rw [e])) (drewN_below hbr _)
      · obtain rfl : k = n := by omega
        go_wp2
        go_ret
        exact says_true (ext_ell (by rw [hlen.out, glen.out]) (fun j hj => heq.out j (by rw [hlen.out] at hj; exact hj))) hbr
  · have hne : ¬ (n : Int) = m := by omega
    go_enter Try.func37, Try.ntmps37
    go_wp2
    go_ret
    exact says_false (fun e => hnm (by rw [← hlen.out, ← glen.out, e])) (Below.refl _ _)

end Go.Proofs.Ytjphaphnmclbcaa
