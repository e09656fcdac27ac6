/- FnExactRunDesk: RunDesk answers as its model and writes into no argument. Conditions: the list of lines can be read; the program's and the library's variables hold what their initialisers lay. -/
import Derived.Test.YtaceiebmgnhdgaaGreatDoorDkr
import Derived.Test.YtaceiebmgnhdgaaGreatDoorBnd
namespace Go.Proofs.YtaceiebmgnhdgaaGreatDoor
open Go.RowKit

/-- make([]string, n). -/
theorem make_strs (w : World) {ops : Array Oper} {rest : List Oper} {o : Oper} {a : Act} {Q : Exit → Act → World → Prop}
    (hg : o.guard = none) (l c : Operand) (hop : o.op = Op.makeSlice 23 l c) (L C : Int) (n : Nat) (hl : a.eval l = .int .i64 L) (hc : a.eval c = .int .i64 C) (hL : L = (n : Int)) (hC : C = (n : Int)) (hn : n ≤ 2000000)
    (hK : ∀ w', OwST w' w.heap.size w.heap.size n n (List.replicate n (⟨#[]⟩ : ByteArray)) → Below w.heap.size w w' → wpList Tryz.prog ops Q rest (a.put o.dst (.slice (some ⟨w.heap.size, 0, none⟩) n n)) w') :
    wpList Tryz.prog ops Q (o :: rest) a w := by
  obtain ⟨i0, hi, hz0, hz1, hz2⟩ := info_parts infoT
  refine wpList_make_full w hg l c 23 hop w.heap.size 9 i0 (.string ⟨#[]⟩) 1 Tryz.underlying23 hi hz0 hz1 _ _ _ _ n hl hc hL hC (by rw [hz2]; omega) (by unfold maxLen; omega) (Nat.le_refl _) ?_
  intro w' hown hgrow
  refine hK w' ?_ ((Below.refl _ _).grown hgrow (Nat.le_refl _) (fun k hk => by simp at hk))
  unfold OwST
  have e : (madeCells (Value.cells (.string ⟨#[]⟩)) (n * 1)).toList = (List.replicate n (⟨#[]⟩ : ByteArray)).map Value.string := by
    rw [Nat.mul_one, show Value.cells (.string ⟨#[]⟩) = #[Value.string ⟨#[]⟩] from rfl, toList_madeCells_one, List.map_replicate]
  rw [← e]; exact hown

/-- The texts' lengths count. -/
def Sized (w : World) (n : Nat) (ss : List ByteArray) (e : Ending) (w' : World) : Prop := ∃ r : Int, e = .returned (.int .i64 r) ∧ (0 ≤ r → n ≤ 1048576 ∧ ∀ j, j < n → (elt ss j).size ≤ 1048576) ∧ Below w.heap.size w w'
set_option maxHeartbeats 2000000 in
theorem szT_any (ao : Option Addr) (n cap : Nat) (ss : List ByteArray) (w : World) (h : SlT w ao n cap ss) (hm : Hid (∀ j, j < n → (elt ss j).size ≤ 9223372036854775807)) :
    Calls Tryz.prog 9 #[.slice ao n cap, .int .i64 1048576] w (Sized w n ss) := by
  have hlen := hid h.len
  have hbig := h.big
  have hw1 : wrap64 (1048576 - (n : Int)) = 1048576 - (n : Int) := IntWalk.wrap64_in _ ⟨by omega, by omega⟩
  by_cases hn : n ≤ 1048576
  · have hni : ¬ (1048576 - (n : Int)) < 0 := by omega
    have hni0 : (n : Int) ≤ 1048576 := by omega
    go_enter Tryz.func9, Tryz.ntmps9
    go_wp2
    go_loopw [1, 5] (fun l i wr => ∃ (k : Nat) (x : Int), k ≤ n ∧ l = .int .i64 x ∧ i = .int .i64 k ∧ 0 ≤ x ∧ x ≤ 1048576 ∧ Below w.heap.size w wr ∧ Hid (∀ j, j < k → (elt ss j).size ≤ 1048576))
      (fun _ i _ => n - (intOf i).toNat)
    case atStart => exact ⟨0, _, Nat.zero_le _, rfl, rfl, by omega, by omega, Below.refl _ _, hid fun j hj => by omega⟩
    case round =>
      obtain ⟨k, x, hk, rfl, rfl, hx0, hx1, hbr, Hs⟩ := hrel
      by_cases hlt : k < n
      · have hki : (k : Int) < n := by omega
        obtain ⟨b, off, rfl, hblt, hc⟩ := h.row (by omega)
        have hcell := (hbr.cell (p := ⟨b, off + k, none⟩) hblt).trans (hc k hlt)
        have hmk := hm.out k hlt
        obtain ⟨z, hz⟩ : ∃ z, z = (elt ss k).size := ⟨_, rfl⟩
        have hw2 : wrap64 (x - (z : Int)) = x - z := IntWalk.wrap64_in _ ⟨by omega, by omega⟩
        obtain ⟨t, ht⟩ : ∃ t, t = elt ss k := ⟨_, rfl⟩
        rw [← ht] at hcell hz hmk
        have Hz := hid hz
        have Ht := hid ht
        clear ht hc
        by_cases hneg : x - (z : Int) < 0
        · have hneg' : x - (t.size : Int) < 0 := by rw [← hz]; exact hneg
          have hw3 : wrap64 (x - (t.size : Int)) = x - (t.size : Int) := by rw [← hz]; exact hw2
          clear hz hw2 hneg
          go_wp2
          go_ret
          exact ⟨_, rfl, fun h => by omega, hbr⟩
        · have hneg' : ¬ x - (t.size : Int) < 0 := by rw [← hz]; exact hneg
          have hw3 : wrap64 (x - (t.size : Int)) = x - (t.size : Int) := by rw [← hz]; exact hw2
          clear hz hw2 hneg
          go_wp2
          go_roundw
          case rel =>
            refine ⟨k + 1, _, by omega, rfl, by go_num, by omega, by omega, hbr, hid fun j hj => ?_⟩
            by_cases e : j = k
            · subst e; rw [← Ht.out]; omega
            · exact Hs.out j (by omega)
          case measure => simp [intOf]; omega
      · obtain rfl : k = n := by omega
        go_wp2
        go_ret
        exact ⟨_, rfl, fun _ => ⟨hn, Hs.out⟩, hbr⟩
  · have hni : (1048576 - (n : Int)) < 0 := by omega
    go_enter Tryz.func9, Tryz.ntmps9
    go_wp2
    go_ret
    exact ⟨_, rfl, fun h => by omega, Below.refl _ _⟩

set_option maxHeartbeats 2000000 in
theorem toT_any (ao : Option Addr) (n cap : Nat) (ss : List ByteArray) (w : World) (h : SlT w ao n cap ss) (hn : n ≤ 1048576) :
    Calls Tryz.prog 10 #[.slice ao n cap] w (MadeS w ss) := by
  have hlen := hid h.len
  go_enter Tryz.func10, Tryz.ntmps10
  go_wp2_with (at_make; refine make_strs _ rfl _ _ rfl _ _ n rfl rfl rfl rfl (by omega) ?_)
  intro w1 ho1 hb1
  go_wp2
  go_loopw [4] (fun i wr => ∃ (k : Nat) (zs : List ByteArray), k ≤ n ∧ i = .int .i64 k ∧ Below w.heap.size w wr ∧ OwST wr w.heap.size w.heap.size n n zs ∧ Hid (∀ j, j < k → elt zs j = elt ss j))
    (fun i _ => n - (intOf i).toNat)
  case atStart => exact ⟨0, _, Nat.zero_le _, rfl, hb1, ho1, hid fun j hj => by omega⟩
  case round =>
    obtain ⟨k, zs, hk, rfl, hbr, ho, Hs⟩ := hrel
    by_cases hlt : k < n
    · have hki : (k : Int) < n := by omega
      obtain ⟨b, off, rfl, hblt, hc⟩ := h.row (by omega)
      have hcell := (hbr.cell (p := ⟨b, off + k, none⟩) hblt).trans (hc k hlt)
      have hcap := h.le
      have hcap2 := h.max
      unfold maxLen at hcap2
      have hcur := ho.cell hlt
      have hfr := ho.frozen k
      have hzl := hid ho.len
      clear hc
      go_wp2
      go_roundw
      case rel =>
        refine ⟨k + 1, zs.set k (elt ss k), by omega, by go_num, hbr.setCell (Nat.le_refl _) _, ho.set _ _, hid fun j hj => ?_⟩
        by_cases e : j = k
        · subst e
          simp [elt, List.getD, show j < zs.length by rw [hzl.out]; exact hlt]
        · have := Hs.out j (by omega)
          simp only [elt, List.getD, List.getElem?_set_ne (fun h => e h.symm)] at this ⊢
          exact this
      case measure => simp [intOf]; omega
    · obtain rfl : k = n := by omega
      have e : zs = ss := by
        apply List.ext_getElem (by rw [ho.len, hlen.out])
        intro j h1 h2
        have := Hs.out j (by rw [ho.len] at h1; exact h1)
        rwa [elt_lt h1, elt_lt h2] at this
      rw [e] at ho
      have ho2 := ho.own
      clear ho e
      go_wp2
      go_ret
      exact ⟨_, rfl, ho2, hbr⟩

set_option maxHeartbeats 2000000 in
theorem eqT_any (ao : Option Addr) (n cap : Nat) (bo : Option Addr) (cap2 : Nat) (ss : List ByteArray) (w : World) (h : SlT w ao n cap ss) (g : SlT w bo n cap2 ss) (hn : n ≤ 1048576) :
    Calls Tryz.prog 11 #[.slice ao n cap, .slice bo n cap2] w (Says w (.bool true)) := by
  have hlen := hid h.len
  go_enter Tryz.func11, Tryz.ntmps11
  go_wp2
  go_loopw [5] (fun i wr => ∃ (k : Nat), k ≤ n ∧ i = .int .i64 k ∧ Below w.heap.size w wr)
    (fun i _ => n - (intOf i).toNat)
  case atStart => exact ⟨0, Nat.zero_le _, rfl, Below.refl _ _⟩
  case round =>
    obtain ⟨k, hk, rfl, hbr⟩ := hrel
    by_cases hlt : k < n
    · have hki : (k : Int) < n := by omega
      obtain ⟨b, off, rfl, hblt, hc⟩ := h.row (by omega)
      obtain ⟨b2, off2, rfl, hblt2, hc2⟩ := g.row (by omega)
      have hcell := (hbr.cell (p := ⟨b, off + k, none⟩) hblt).trans (hc k hlt)
      have hcell2 := (hbr.cell (p := ⟨b2, off2 + k, none⟩) hblt2).trans (hc2 k hlt)
      have hcap := h.le
      have hcap2 := g.le
      have hm1 := h.max
      have hm2 := g.max
      unfold maxLen at hm1 hm2
      have e1 : k ≤ cap := by omega
      have e2 : k ≤ cap2 := by omega
      obtain ⟨t, ht⟩ : ∃ t, t = elt ss k := ⟨_, rfl⟩
      rw [← ht] at hcell hcell2
      clear hc hc2 ht
      go_wp2
      go_quiet (fail)
      go_wp2
      go_roundw
      case rel => exact ⟨k + 1, by omega, by go_num, drewN_below hbr _⟩
      case measure => simp [intOf]; omega
    · obtain rfl : k = n := by omega
      go_wp2
      go_ret
      exact ⟨rfl, hbr⟩

set_option maxHeartbeats 2000000 in
theorem exactRunDesk (ao : Option Addr) (n cap : Nat) (ss : List ByteArray) (W : World) (h : SlT W ao n cap ss) (hm : Hid (∀ j, j < n → (elt ss j).size ≤ 9223372036854775807)) (hg : Glb W) :
    Calls Tryz.prog 4 #[.slice ao n cap] W (Says W (.bool true)) := by
  have hlen := hid h.len
  have cS := fun a c w h hz => dskS_any a n c ss w h hz
  have cI := fun a c w h hz hg => dskI_any a n c ss w h hz hg
  obtain ⟨D, hD⟩ : ∃ D, D = dsk ss := ⟨_, rfl⟩
  rw [← hD] at cS cI
  clear hD
  go_enter Tryz.func4, Tryz.ntmps4
  go_wp2_with fail
  refine (szT_any _ _ _ ss _ h hm).mono ?_
  rintro e w1 ⟨r, rfl, hr, hb1⟩
  by_cases h0 : r < 0
  · go_wp2
    go_ret
    exact ⟨rfl, hb1⟩
  · obtain ⟨hn, hz0⟩ := hr (by omega)
    have hz := hid hz0
    have h1 := h.later hb1
    clear hr hz0
    go_wp2_with fail
    refine (toT_any _ _ _ ss _ h1 hn).mono ?_
    rintro e w2 ⟨u2, rfl, o2, hb2⟩
    have hb12 := hb1.trans (hb2.mono hb1.size)
    obtain ⟨a2, c2, rfl, s2⟩ := o2.sl
    rw [hlen.out] at s2 ⊢
    have h2 := h1.later hb2
    clear o2 hb2
    go_wp2_with fail
    refine (cS _ _ _ s2 hz).mono ?_
    rintro e w3 ⟨rfl, hb3⟩
    have hb13 := hb12.trans (hb3.mono hb12.size)
    have h3 := h2.later hb3
    clear hb3 s2
    go_wp2_with fail
    refine (toT_any _ _ _ ss _ h3 hn).mono ?_
    rintro e w4 ⟨u4, rfl, o4, hb4⟩
    have hb14 := hb13.trans (hb4.mono hb13.size)
    obtain ⟨a4, c4, rfl, s4⟩ := o4.sl
    rw [hlen.out] at s4 ⊢
    have h4 := h3.later hb4
    have hg4 := hg.later hb14
    clear o4 hb4
    go_wp2_with fail
    refine (cI _ _ _ s4 hz hg4).mono ?_
    rintro e w5 ⟨rfl, hb5⟩
    have hb15 := hb14.trans (hb5.mono hb14.size)
    have h5 := h4.later hb5
    have s5 := s4.later hb5
    clear hb5 s4
    go_wp2_with fail
    refine (toT_any _ _ _ ss _ h5 hn).mono ?_
    rintro e w6 ⟨u6, rfl, o6, hb6⟩
    have hb16 := hb15.trans (hb6.mono hb15.size)
    obtain ⟨a6, c6, rfl, s6⟩ := o6.sl
    rw [hlen.out] at s6 ⊢
    have s7 := s5.later hb6
    clear o6 hb6
    go_wp2_with fail
    refine (eqT_any _ _ _ _ _ ss _ s7 s6 hn).mono ?_
    rintro e w7 ⟨rfl, hb7⟩
    go_wp2
    go_ret
    exact ⟨rfl, hb16.trans (hb7.mono hb16.size)⟩

end Go.Proofs.YtaceiebmgnhdgaaGreatDoor
