/- How many signed orders have each number of a name, in the program. Condition: the lists' cells can be read. -/
import Derived.Test.YtjgaglfinpeeoacSgN
import Derived.Test.YtjgaglfinpeeoacTalG
import Derived.Deep.RegionWith
namespace Go.Proofs.Ytjgaglfinpeeoac
open Go.RowKit

theorem made2_eq {w w' : World} {ys : List Int} {b c : Bool} {u : Value} (e : c = b) (ho : Own w' w.heap.size u ys) (hb : Below w.heap.size w w') : Made2 w ys b (.returned (.tuple #[u, .bool c])) w' := ⟨u, by rw [e], ho, hb⟩

set_option maxHeartbeats 4000000 in
theorem tallyI0_any (ao : Option Addr) (n cap : Nat) (yss : List (List Int)) (l : List Int) (w : World) (h : SlL w ao n cap yss) (hn : n ≤ 1000) (Hl : Hid (l.length = n)) (Hs : Hid (∀ j, j < n → SV (ell yss j))) (Hv : Hid (∀ j, j < n → el l j = valG (ell yss j) 0)) (Hb : Hid (∀ j, 0 ≤ el l j ∧ el l j ≤ 100)) :
    Calls Try.prog 47 #[.slice ao n cap, .func (.func 62) #[] #[]] w (Made2 w (tal l) (decide (0 < n))) := by
  have hbig := h.big
  go_enter Try.func47, Try.ntmps47
  go_wp2
  go_loopw [6, 12] (fun v i wr => ∃ (k : Nat) (ao' : Option Addr) (cap' : Nat), k ≤ n ∧ v = .slice ao' (mxK l k) cap' ∧ i = .int .i64 k ∧ Below w.heap.size w wr ∧ Own wr w.heap.size (.slice ao' (mxK l k) cap') (cntL (mxK l k) (l.take k)))
    (fun _ i _ => n - (intOf i).toNat)
  case atStart => exact ⟨0, _, _, Nat.zero_le _, rfl, rfl, Below.refl _ _, Own.nil⟩
  case round =>
    obtain ⟨k, ao', cap', hk, rfl, rfl, hbr, ho⟩ := hrel
    have hsz := hbr.size
    by_cases hlt : k < n
    · have hi1 : (k : Int) < n := by omega
      obtain ⟨b, off, rfl, hblt, hc⟩ := (h.later hbr).row (by omega)
      obtain ⟨ai, ci, hcell, hsi⟩ := hc k hlt
      obtain ⟨v, hv⟩ : ∃ v : Nat, el l k = (v : Int) := ⟨(el l k).toNat, by have := Hb.out k; omega⟩
      have hv100 : v ≤ 100 := by have := Hb.out k; omega
      have Hval := hid ((Hv.out k hlt).symm.trans hv)
      have Hsk := hid (Hs.out k hlt)
      have Hmk := hid (mxK_le Hb.out k)
      have Hm1 : Hid (mxK l (k + 1) = max (mxK l k) (v + 1)) := hid (by rw [mxK, hv]; rfl)
      have Hin : Hid (∀ x ∈ l.take k, x < ((mxK l k : Nat) : Int)) := hid (mxK_mem Hb.out k)
      have Hll : Hid ((l.take k).length ≤ 1000) := hid (by rw [List.length_take]; omega)
      have Hl2 : Hid (l.take (k + 1) = l.take k ++ [(v : Int)]) := hid (by rw [← hv, take_el (by rw [Hl.out]; exact hlt)])
      obtain ⟨m, hm⟩ : ∃ m, m = mxK l k := ⟨_, rfl⟩
      rw [← hm] at Hmk Hm1 Hin ho ⊢
      obtain ⟨l0, hl0⟩ : ∃ l0, l0 = l.take k := ⟨_, rfl⟩
      rw [← hl0] at ho Hin Hll Hl2
      clear hc hm hl0 hv
      go_wp2_with fail
      refine (says_to (lenI_any _ _ _ (ell yss k) _ hsi (hid Hsk.out.r64)) ((onSi_yes Hsk.out).trans Hval.out)).mono ?_
      rintro e w3 ⟨rfl, b3⟩
      have ho3 := ho.below (Nat.le_refl _) b3
      have hbr3 := hbr.trans (b3.mono hsz)
      clear ho hcell hsi b3
      go_wp2
      go_loopw [6] (fun v' wq => ∃ (L : Nat) (ao' : Option Addr) (cap' : Nat), m ≤ L ∧ (L ≤ m ∨ L ≤ v + 1) ∧ v' = .slice ao' L cap' ∧ Below w.heap.size w wq ∧ Own wq w.heap.size (.slice ao' L cap') (cntL L l0))
        (fun v' _ => 200 - slN v')
      case atStart => exact ⟨m, _, _, Nat.le_refl _, Or.inl (Nat.le_refl _), rfl, hbr3, ho3⟩
      case round =>
        obtain ⟨L, ao2, cap2, hmL, hLv, rfl, hbq, ho2⟩ := hrel
        have hL1 : L ≤ 101 := by have := Hmk.out; omega
        have hszq := hbq.size
        by_cases hLt : L ≤ v
        · have hLi : (L : Int) ≤ v := by omega
          have hll : (cntL L l0).length ≤ 2000000 := by rw [cntL_len]; omega
          have He := hid (cntL_grow (l := l0) (L := L) (fun x hx => by have := Hin.out x hx; omega))
          go_wp2_with (at_builtin; refine app_int _ _ rfl _ _ rfl w.heap.size _ _ rfl ho2 rfl hll hszq ?_)
          intro u' w' ho' hg'
          have hb' := below_app hbq ho2 hg'
          rw [He.out] at ho'
          obtain ⟨ao5, cp5, rfl, -⟩ := ho'.sl
          rw [cntL_len] at ho' ⊢
          clear ho2 hg' hbq
          go_wp2
          go_roundw
          case rel => exact ⟨L + 1, _, _, by omega, by omega, rfl, hb', ho'⟩
          case measure => simp [slN]; omega
        · have hLi : ¬ (L : Int) ≤ v := by omega
          have E : Hid (mxK l (k + 1) = L) := hid (by have := Hm1.out; omega)
          rcases ho2.place with ⟨e1, e2⟩ | ⟨g, cp, e1, hs⟩
          · have := cntL_len L l0
            rw [e2] at this
            simp at this
            omega
          · rw [cntL_len] at e1 hs
            simp only [Value.slice.injEq, true_and] at e1
            obtain ⟨rfl, rfl⟩ := e1
            have hcc := hs.cell (j := v) (by omega)
            rw [el_cntL (by omega)] at hcc
            have hcl : l0.count (v : Int) ≤ 1000 := Nat.le_trans List.count_le_length Hll.out
            obtain ⟨c, hc⟩ : ∃ c : Nat, c = l0.count (v : Int) := ⟨_, rfl⟩
            rw [← hc] at hcc hcl
            have hfr := hs.frozen v
            have hs2 := hs.set v ((c : Int) + 1)
            have Hset : Hid ((cntL L l0).set v ((c : Int) + 1) = cntL L (l0 ++ [(v : Int)])) := hid (by rw [hc]; exact cntL_bump (by omega))
            have hvL : (v : Int) < L := by omega
            have hc0 : (c : Int) ≤ 1000 := by omega
            have hgB := hs.lt.1
            clear hc
            go_wp2
            go_roundw
            case rel =>
              refine ⟨k + 1, some ⟨g, 0, none⟩, cap2, by omega, by rw [E.out], by go_num, hbq.setCell hgB _, ?_⟩
              rw [E.out, Hl2.out, ← Hset.out]
              exact hs2.own
            case measure => simp [intOf]; omega
    · obtain rfl : k = n := by omega
      go_wp2
      go_ret2
      rw [List.take_of_length_le (by rw [Hl.out]; exact Nat.le_refl _)] at ho
      have e : tal l = cntL (mxK l k) l := by rw [tal, Hl.out]
      rw [e]
      exact made2_eq (by simp) ho hbr

set_option maxHeartbeats 4000000 in
theorem tallyI1_any (ao : Option Addr) (n cap : Nat) (yss : List (List Int)) (l : List Int) (w : World) (h : SlL w ao n cap yss) (hn : n ≤ 1000) (Hl : Hid (l.length = n)) (Hs : Hid (∀ j, j < n → SV (ell yss j))) (Hv : Hid (∀ j, j < n → el l j = valG (ell yss j) 1)) (Hb : Hid (∀ j, 0 ≤ el l j ∧ el l j ≤ 100)) :
    Calls Try.prog 47 #[.slice ao n cap, .func (.func 63) #[] #[]] w (Made2 w (tal l) (decide (0 < n))) := by
  have hbig := h.big
  go_enter Try.func47, Try.ntmps47
  go_wp2
  go_loopw [6, 12] (fun v i wr => ∃ (k : Nat) (ao' : Option Addr) (cap' : Nat), k ≤ n ∧ v = .slice ao' (mxK l k) cap' ∧ i = .int .i64 k ∧ Below w.heap.size w wr ∧ Own wr w.heap.size (.slice ao' (mxK l k) cap') (cntL (mxK l k) (l.take k)))
    (fun _ i _ => n - (intOf i).toNat)
  case atStart => exact ⟨0, _, _, Nat.zero_le _, rfl, rfl, Below.refl _ _, Own.nil⟩
  case round =>
    obtain ⟨k, ao', cap', hk, rfl, rfl, hbr, ho⟩ := hrel
    have hsz := hbr.size
    by_cases hlt : k < n
    · have hi1 : (k : Int) < n := by omega
      obtain ⟨b, off, rfl, hblt, hc⟩ := (h.later hbr).row (by omega)
      obtain ⟨ai, ci, hcell, hsi⟩ := hc k hlt
      obtain ⟨v, hv⟩ : ∃ v : Nat, el l k = (v : Int) := ⟨(el l k).toNat, by have := Hb.out k; omega⟩
      have hv100 : v ≤ 100 := by have := Hb.out k; omega
      have Hval := hid ((Hv.out k hlt).symm.trans hv)
      have Hsk := hid (Hs.out k hlt)
      have Hmk := hid (mxK_le Hb.out k)
      have Hm1 : Hid (mxK l (k + 1) = max (mxK l k) (v + 1)) := hid (by rw [mxK, hv]; rfl)
      have Hin : Hid (∀ x ∈ l.take k, x < ((mxK l k : Nat) : Int)) := hid (mxK_mem Hb.out k)
      have Hll : Hid ((l.take k).length ≤ 1000) := hid (by rw [List.length_take]; omega)
      have Hl2 : Hid (l.take (k + 1) = l.take k ++ [(v : Int)]) := hid (by rw [← hv, take_el (by rw [Hl.out]; exact hlt)])
      obtain ⟨m, hm⟩ : ∃ m, m = mxK l k := ⟨_, rfl⟩
      rw [← hm] at Hmk Hm1 Hin ho ⊢
      obtain ⟨l0, hl0⟩ : ∃ l0, l0 = l.take k := ⟨_, rfl⟩
      rw [← hl0] at ho Hin Hll Hl2
      clear hc hm hl0 hv
      go_wp2_with fail
      refine (says_to (flagI_any _ _ _ (ell yss k) _ hsi (hid Hsk.out.r64)) ((onSi_yes Hsk.out).trans Hval.out)).mono ?_
      rintro e w3 ⟨rfl, b3⟩
      have ho3 := ho.below (Nat.le_refl _) b3
      have hbr3 := hbr.trans (b3.mono hsz)
      clear ho hcell hsi b3
      go_wp2
      go_loopw [6] (fun v' wq => ∃ (L : Nat) (ao' : Option Addr) (cap' : Nat), m ≤ L ∧ (L ≤ m ∨ L ≤ v + 1) ∧ v' = .slice ao' L cap' ∧ Below w.heap.size w wq ∧ Own wq w.heap.size (.slice ao' L cap') (cntL L l0))
        (fun v' _ => 200 - slN v')
      case atStart => exact ⟨m, _, _, Nat.le_refl _, Or.inl (Nat.le_refl _), rfl, hbr3, ho3⟩
      case round =>
        obtain ⟨L, ao2, cap2, hmL, hLv, rfl, hbq, ho2⟩ := hrel
        have hL1 : L ≤ 101 := by have := Hmk.out; omega
        have hszq := hbq.size
        by_cases hLt : L ≤ v
        · have hLi : (L : Int) ≤ v := by omega
          have hll : (cntL L l0).length ≤ 2000000 := by rw [cntL_len]; omega
          have He := hid (cntL_grow (l := l0) (L := L) (fun x hx => by have := Hin.out x hx; omega))
          go_wp2_with (at_builtin; refine app_int _ _ rfl _ _ rfl w.heap.size _ _ rfl ho2 rfl hll hszq ?_)
          intro u' w' ho' hg'
          have hb' := below_app hbq ho2 hg'
          rw [He.out] at ho'
          obtain ⟨ao5, cp5, rfl, -⟩ := ho'.sl
          rw [cntL_len] at ho' ⊢
          clear ho2 hg' hbq
          go_wp2
          go_roundw
          case rel => exact ⟨L + 1, _, _, by omega, by omega, rfl, hb', ho'⟩
          case measure => simp [slN]; omega
        · have hLi : ¬ (L : Int) ≤ v := by omega
          have E : Hid (mxK l (k + 1) = L) := hid (by have := Hm1.out; omega)
          rcases ho2.place with ⟨e1, e2⟩ | ⟨g, cp, e1, hs⟩
          · have := cntL_len L l0
            rw [e2] at this
            simp at this
            omega
          · rw [cntL_len] at e1 hs
            simp only [Value.slice.injEq, true_and] at e1
            obtain ⟨rfl, rfl⟩ := e1
            have hcc := hs.cell (j := v) (by omega)
            rw [el_cntL (by omega)] at hcc
            have hcl : l0.count (v : Int) ≤ 1000 := Nat.le_trans List.count_le_length Hll.out
            obtain ⟨c, hc⟩ : ∃ c : Nat, c = l0.count (v : Int) := ⟨_, rfl⟩
            rw [← hc] at hcc hcl
            have hfr := hs.frozen v
            have hs2 := hs.set v ((c : Int) + 1)
            have Hset : Hid ((cntL L l0).set v ((c : Int) + 1) = cntL L (l0 ++ [(v : Int)])) := hid (by rw [hc]; exact cntL_bump (by omega))
            have hvL : (v : Int) < L := by omega
            have hc0 : (c : Int) ≤ 1000 := by omega
            have hgB := hs.lt.1
            clear hc
            go_wp2
            go_roundw
            case rel =>
              refine ⟨k + 1, some ⟨g, 0, none⟩, cap2, by omega, by rw [E.out], by go_num, hbq.setCell hgB _, ?_⟩
              rw [E.out, Hl2.out, ← Hset.out]
              exact hs2.own
            case measure => simp [intOf]; omega
    · obtain rfl : k = n := by omega
      go_wp2
      go_ret2
      rw [List.take_of_length_le (by rw [Hl.out]; exact Nat.le_refl _)] at ho
      have e : tal l = cntL (mxK l k) l := by rw [tal, Hl.out]
      rw [e]
      exact made2_eq (by simp) ho hbr

set_option maxHeartbeats 4000000 in
theorem tallyI2_any (ao : Option Addr) (n cap : Nat) (yss : List (List Int)) (l : List Int) (w : World) (h : SlL w ao n cap yss) (hn : n ≤ 1000) (Hl : Hid (l.length = n)) (Hs : Hid (∀ j, j < n → SV (ell yss j))) (Hv : Hid (∀ j, j < n → el l j = valG (ell yss j) 2)) (Hb : Hid (∀ j, 0 ≤ el l j ∧ el l j ≤ 100)) :
    Calls Try.prog 47 #[.slice ao n cap, .func (.func 64) #[] #[]] w (Made2 w (tal l) (decide (0 < n))) := by
  have hbig := h.big
  go_enter Try.func47, Try.ntmps47
  go_wp2
  go_loopw [6, 12] (fun v i wr => ∃ (k : Nat) (ao' : Option Addr) (cap' : Nat), k ≤ n ∧ v = .slice ao' (mxK l k) cap' ∧ i = .int .i64 k ∧ Below w.heap.size w wr ∧ Own wr w.heap.size (.slice ao' (mxK l k) cap') (cntL (mxK l k) (l.take k)))
    (fun _ i _ => n - (intOf i).toNat)
  case atStart => exact ⟨0, _, _, Nat.zero_le _, rfl, rfl, Below.refl _ _, Own.nil⟩
  case round =>
    obtain ⟨k, ao', cap', hk, rfl, rfl, hbr, ho⟩ := hrel
    have hsz := hbr.size
    by_cases hlt : k < n
    · have hi1 : (k : Int) < n := by omega
      obtain ⟨b, off, rfl, hblt, hc⟩ := (h.later hbr).row (by omega)
      obtain ⟨ai, ci, hcell, hsi⟩ := hc k hlt
      obtain ⟨v, hv⟩ : ∃ v : Nat, el l k = (v : Int) := ⟨(el l k).toNat, by have := Hb.out k; omega⟩
      have hv100 : v ≤ 100 := by have := Hb.out k; omega
      have Hval := hid ((Hv.out k hlt).symm.trans hv)
      have Hsk := hid (Hs.out k hlt)
      have Hmk := hid (mxK_le Hb.out k)
      have Hm1 : Hid (mxK l (k + 1) = max (mxK l k) (v + 1)) := hid (by rw [mxK, hv]; rfl)
      have Hin : Hid (∀ x ∈ l.take k, x < ((mxK l k : Nat) : Int)) := hid (mxK_mem Hb.out k)
      have Hll : Hid ((l.take k).length ≤ 1000) := hid (by rw [List.length_take]; omega)
      have Hl2 : Hid (l.take (k + 1) = l.take k ++ [(v : Int)]) := hid (by rw [← hv, take_el (by rw [Hl.out]; exact hlt)])
      obtain ⟨m, hm⟩ : ∃ m, m = mxK l k := ⟨_, rfl⟩
      rw [← hm] at Hmk Hm1 Hin ho ⊢
      obtain ⟨l0, hl0⟩ : ∃ l0, l0 = l.take k := ⟨_, rfl⟩
      rw [← hl0] at ho Hin Hll Hl2
      clear hc hm hl0 hv
      go_wp2_with fail
      refine (says_to (fallI_any _ _ _ (ell yss k) _ hsi (hid Hsk.out.r64)) ((onSi_yes Hsk.out).trans Hval.out)).mono ?_
      rintro e w3 ⟨rfl, b3⟩
      have ho3 := ho.below (Nat.le_refl _) b3
      have hbr3 := hbr.trans (b3.mono hsz)
      clear ho hcell hsi b3
      go_wp2
      go_loopw [6] (fun v' wq => ∃ (L : Nat) (ao' : Option Addr) (cap' : Nat), m ≤ L ∧ (L ≤ m ∨ L ≤ v + 1) ∧ v' = .slice ao' L cap' ∧ Below w.heap.size w wq ∧ Own wq w.heap.size (.slice ao' L cap') (cntL L l0))
        (fun v' _ => 200 - slN v')
      case atStart => exact ⟨m, _, _, Nat.le_refl _, Or.inl (Nat.le_refl _), rfl, hbr3, ho3⟩
      case round =>
        obtain ⟨L, ao2, cap2, hmL, hLv, rfl, hbq, ho2⟩ := hrel
        have hL1 : L ≤ 101 := by have := Hmk.out; omega
        have hszq := hbq.size
        by_cases hLt : L ≤ v
        · have hLi : (L : Int) ≤ v := by omega
          have hll : (cntL L l0).length ≤ 2000000 := by rw [cntL_len]; omega
          have He := hid (cntL_grow (l := l0) (L := L) (fun x hx => by have := Hin.out x hx; omega))
          go_wp2_with (at_builtin; refine app_int _ _ rfl _ _ rfl w.heap.size _ _ rfl ho2 rfl hll hszq ?_)
          intro u' w' ho' hg'
          have hb' := below_app hbq ho2 hg'
          rw [He.out] at ho'
          obtain ⟨ao5, cp5, rfl, -⟩ := ho'.sl
          rw [cntL_len] at ho' ⊢
          clear ho2 hg' hbq
          go_wp2
          go_roundw
          case rel => exact ⟨L + 1, _, _, by omega, by omega, rfl, hb', ho'⟩
          case measure => simp [slN]; omega
        · have hLi : ¬ (L : Int) ≤ v := by omega
          have E : Hid (mxK l (k + 1) = L) := hid (by have := Hm1.out; omega)
          rcases ho2.place with ⟨e1, e2⟩ | ⟨g, cp, e1, hs⟩
          · have := cntL_len L l0
            rw [e2] at this
            simp at this
            omega
          · rw [cntL_len] at e1 hs
            simp only [Value.slice.injEq, true_and] at e1
            obtain ⟨rfl, rfl⟩ := e1
            have hcc := hs.cell (j := v) (by omega)
            rw [el_cntL (by omega)] at hcc
            have hcl : l0.count (v : Int) ≤ 1000 := Nat.le_trans List.count_le_length Hll.out
            obtain ⟨c, hc⟩ : ∃ c : Nat, c = l0.count (v : Int) := ⟨_, rfl⟩
            rw [← hc] at hcc hcl
            have hfr := hs.frozen v
            have hs2 := hs.set v ((c : Int) + 1)
            have Hset : Hid ((cntL L l0).set v ((c : Int) + 1) = cntL L (l0 ++ [(v : Int)])) := hid (by rw [hc]; exact cntL_bump (by omega))
            have hvL : (v : Int) < L := by omega
            have hc0 : (c : Int) ≤ 1000 := by omega
            have hgB := hs.lt.1
            clear hc
            go_wp2
            go_roundw
            case rel =>
              refine ⟨k + 1, some ⟨g, 0, none⟩, cap2, by omega, by rw [E.out], by go_num, hbq.setCell hgB _, ?_⟩
              rw [E.out, Hl2.out, ← Hset.out]
              exact hs2.own
            case measure => simp [intOf]; omega
    · obtain rfl : k = n := by omega
      go_wp2
      go_ret2
      rw [List.take_of_length_le (by rw [Hl.out]; exact Nat.le_refl _)] at ho
      have e : tal l = cntL (mxK l k) l := by rw [tal, Hl.out]
      rw [e]
      exact made2_eq (by simp) ho hbr

set_option maxHeartbeats 4000000 in
theorem tallyI3_any (ao : Option Addr) (n cap : Nat) (yss : List (List Int)) (l : List Int) (w : World) (h : SlL w ao n cap yss) (hn : n ≤ 1000) (Hl : Hid (l.length = n)) (Hs : Hid (∀ j, j < n → SV (ell yss j))) (Hv : Hid (∀ j, j < n → el l j = valG (ell yss j) 3)) (Hb : Hid (∀ j, 0 ≤ el l j ∧ el l j ≤ 100)) :
    Calls Try.prog 47 #[.slice ao n cap, .func (.func 65) #[] #[]] w (Made2 w (tal l) (decide (0 < n))) := by
  have hbig := h.big
  go_enter Try.func47, Try.ntmps47
  go_wp2
  go_loopw [6, 12] (fun v i wr => ∃ (k : Nat) (ao' : Option Addr) (cap' : Nat), k ≤ n ∧ v = .slice ao' (mxK l k) cap' ∧ i = .int .i64 k ∧ Below w.heap.size w wr ∧ Own wr w.heap.size (.slice ao' (mxK l k) cap') (cntL (mxK l k) (l.take k)))
    (fun _ i _ => n - (intOf i).toNat)
  case atStart => exact ⟨0, _, _, Nat.zero_le _, rfl, rfl, Below.refl _ _, Own.nil⟩
  case round =>
    obtain ⟨k, ao', cap', hk, rfl, rfl, hbr, ho⟩ := hrel
    have hsz := hbr.size
    by_cases hlt : k < n
    · have hi1 : (k : Int) < n := by omega
      obtain ⟨b, off, rfl, hblt, hc⟩ := (h.later hbr).row (by omega)
      obtain ⟨ai, ci, hcell, hsi⟩ := hc k hlt
      obtain ⟨v, hv⟩ : ∃ v : Nat, el l k = (v : Int) := ⟨(el l k).toNat, by have := Hb.out k; omega⟩
      have hv100 : v ≤ 100 := by have := Hb.out k; omega
      have Hval := hid ((Hv.out k hlt).symm.trans hv)
      have Hsk := hid (Hs.out k hlt)
      have Hmk := hid (mxK_le Hb.out k)
      have Hm1 : Hid (mxK l (k + 1) = max (mxK l k) (v + 1)) := hid (by rw [mxK, hv]; rfl)
      have Hin : Hid (∀ x ∈ l.take k, x < ((mxK l k : Nat) : Int)) := hid (mxK_mem Hb.out k)
      have Hll : Hid ((l.take k).length ≤ 1000) := hid (by rw [List.length_take]; omega)
      have Hl2 : Hid (l.take (k + 1) = l.take k ++ [(v : Int)]) := hid (by rw [← hv, take_el (by rw [Hl.out]; exact hlt)])
      obtain ⟨m, hm⟩ : ∃ m, m = mxK l k := ⟨_, rfl⟩
      rw [← hm] at Hmk Hm1 Hin ho ⊢
      obtain ⟨l0, hl0⟩ : ∃ l0, l0 = l.take k := ⟨_, rfl⟩
      rw [← hl0] at ho Hin Hll Hl2
      clear hc hm hl0 hv
      go_wp2_with fail
      refine (says_to (ngI_any _ _ _ (ell yss k) _ hsi (hid Hsk.out.r64)) ((onSi_yes Hsk.out).trans Hval.out)).mono ?_
      rintro e w3 ⟨rfl, b3⟩
      have ho3 := ho.below (Nat.le_refl _) b3
      have hbr3 := hbr.trans (b3.mono hsz)
      clear ho hcell hsi b3
      go_wp2
      go_loopw [6] (fun v' wq => ∃ (L : Nat) (ao' : Option Addr) (cap' : Nat), m ≤ L ∧ (L ≤ m ∨ L ≤ v + 1) ∧ v' = .slice ao' L cap' ∧ Below w.heap.size w wq ∧ Own wq w.heap.size (.slice ao' L cap') (cntL L l0))
        (fun v' _ => 200 - slN v')
      case atStart => exact ⟨m, _, _, Nat.le_refl _, Or.inl (Nat.le_refl _), rfl, hbr3, ho3⟩
      case round =>
        obtain ⟨L, ao2, cap2, hmL, hLv, rfl, hbq, ho2⟩ := hrel
        have hL1 : L ≤ 101 := by have := Hmk.out; omega
        have hszq := hbq.size
        by_cases hLt : L ≤ v
        · have hLi : (L : Int) ≤ v := by omega
          have hll : (cntL L l0).length ≤ 2000000 := by rw [cntL_len]; omega
          have He := hid (cntL_grow (l := l0) (L := L) (fun x hx => by have := Hin.out x hx; omega))
          go_wp2_with (at_builtin; refine app_int _ _ rfl _ _ rfl w.heap.size _ _ rfl ho2 rfl hll hszq ?_)
          intro u' w' ho' hg'
          have hb' := below_app hbq ho2 hg'
          rw [He.out] at ho'
          obtain ⟨ao5, cp5, rfl, -⟩ := ho'.sl
          rw [cntL_len] at ho' ⊢
          clear ho2 hg' hbq
          go_wp2
          go_roundw
          case rel => exact ⟨L + 1, _, _, by omega, by omega, rfl, hb', ho'⟩
          case measure => simp [slN]; omega
        · have hLi : ¬ (L : Int) ≤ v := by omega
          have E : Hid (mxK l (k + 1) = L) := hid (by have := Hm1.out; omega)
          rcases ho2.place with ⟨e1, e2⟩ | ⟨g, cp, e1, hs⟩
          · have := cntL_len L l0
            rw [e2] at this
            simp at this
            omega
          · rw [cntL_len] at e1 hs
            simp only [Value.slice.injEq, true_and] at e1
            obtain ⟨rfl, rfl⟩ := e1
            have hcc := hs.cell (j := v) (by omega)
            rw [el_cntL (by omega)] at hcc
            have hcl : l0.count (v : Int) ≤ 1000 := Nat.le_trans List.count_le_length Hll.out
            obtain ⟨c, hc⟩ : ∃ c : Nat, c = l0.count (v : Int) := ⟨_, rfl⟩
            rw [← hc] at hcc hcl
            have hfr := hs.frozen v
            have hs2 := hs.set v ((c : Int) + 1)
            have Hset : Hid ((cntL L l0).set v ((c : Int) + 1) = cntL L (l0 ++ [(v : Int)])) := hid (by rw [hc]; exact cntL_bump (by omega))
            have hvL : (v : Int) < L := by omega
            have hc0 : (c : Int) ≤ 1000 := by omega
            have hgB := hs.lt.1
            clear hc
            go_wp2
            go_roundw
            case rel =>
              refine ⟨k + 1, some ⟨g, 0, none⟩, cap2, by omega, by rw [E.out], by go_num, hbq.setCell hgB _, ?_⟩
              rw [E.out, Hl2.out, ← Hset.out]
              exact hs2.own
            case measure => simp [intOf]; omega
    · obtain rfl : k = n := by omega
      go_wp2
      go_ret2
      rw [List.take_of_length_le (by rw [Hl.out]; exact Nat.le_refl _)] at ho
      have e : tal l = cntL (mxK l k) l := by rw [tal, Hl.out]
      rw [e]
      exact made2_eq (by simp) ho hbr

end Go.Proofs.Ytjgaglfinpeeoac
