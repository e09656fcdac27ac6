/- The texts that the laws draw: whatever the bytes, a text of at most twelve bytes. Condition: the bytes can be read. -/
import Derived.Test.YtjgaglfinpeeoabDoorDraw4
import Derived.Test.YtjgaglfinpeeoabDoorText
import Derived.Test.YtjgaglfinpeeoabDoorParse
import Derived.Deep.RegionWith
namespace Go.Proofs.YtjgaglfinpeeoabDoor
open Go.RowKit

/-- A call that draws a list of n numbers, each below n: it makes a list and turns the reader. -/
def DrewV (w : World) (R n Q : Nat) (e : Ending) (w' : World) : Prop := ∃ u ys q, e = .returned u ∧ Own w' w.heap.size u ys ∧ ys.length = n ∧ q ≤ Q ∧ Rdr w' R q ∧ w.grownBy w' (some R) ∧ Hid (∀ y ∈ ys, 0 ≤ y ∧ y < n)

set_option maxHeartbeats 1000000 in
theorem anOrderV_any (R q n : Nat) (w : World) (h : Rdr w R q) (hq : q ≤ 60000) (hn : n ≤ 8) :
    Calls Tryd.prog 40 #[.pointer (some ⟨R, 0, none⟩), .int .i64 n] w (DrewV w R n (q + 8)) := by
  have hlt := h.lt
  go_enter Tryd.func40, Tryd.ntmps40
  go_wp2
  go_loopw [5, 6] (fun p x wr => ∃ (k : Nat) (ao : Option Addr) (cap : Nat) (ys : List Int), k ≤ n ∧ p = .slice ao k cap ∧ x = .int .i64 k ∧ Own wr w.heap.size (.slice ao k cap) ys ∧ Rdr wr R (q + k) ∧ w.grownBy wr (some R) ∧ Hid (∀ y ∈ ys, 0 ≤ y ∧ y < k))
    (fun p _ _ => n - lenOf p)
  case atStart => exact ⟨0, _, _, [], Nat.zero_le _, rfl, rfl, own_lit w, h.below ((Below.refl _ _).alloc (Nat.le_refl _) _), World.grownBy_alloc w _ _, fun y hy => by simp at hy⟩
  case round =>
    obtain ⟨k, ao, cap, ys, hk, rfl, rfl, ho, hr, hg, hy⟩ := hrel
    by_cases hlt2 : k < n
    · go_wp2_with fail
      refine (pick_any R (q + k) ((k : Int) + 1) wr hr (by omega) (by omega)).mono ?_
      rintro e w1 ⟨v, rfl, hv0, hv1, hr1, hg1⟩
      obtain ⟨j, rfl⟩ := Int.eq_ofNat_of_zero_le hv0
      have hj : j ≤ k := by have := Int.max_eq_left (show (1 : Int) ≤ (k : Int) + 1 by omega); omega
      have ho1 := ho.kept hg1 (ho.farR hlt)
      have hyl := ho1.read.len
      clear hv0 hv1
      go_wp2_with fail
      refine (insertAt_any ao k cap ys k j w1 ho1.read ho1.nilcap hj (by omega)).mono ?_
      rintro e w2 ⟨u2, rfl, ho2, hb2⟩
      have hl2 : (ys.take j ++ [(k : Int)] ++ ys.drop j).length = k + 1 := by
        rw [List.length_append, List.length_append, List.length_take, List.length_drop, List.length_singleton, hyl]; omega
      have hy2 : Hid (∀ y ∈ ys.take j ++ [(k : Int)] ++ ys.drop j, 0 ≤ y ∧ y < ((k + 1 : Nat) : Int)) := fun y hm => by
        rw [List.mem_append, List.mem_append, List.mem_singleton] at hm
        rcases hm with (hm | hm) | hm
        · have := hy.out y (List.mem_of_mem_take hm); omega
        · omega
        · have := hy.out y (List.mem_of_mem_drop hm); omega
      have hsz : w.heap.size ≤ w1.heap.size := Nat.le_trans hg.size hg1.size
      have ho3 := ho2.mono hsz
      have hr2 := hr1.below hb2
      have hg2 := grown_trans (grown_trans hg hg1) (grown_of_below (row := some R) hb2)
      obtain ⟨ao2, cap2, rfl, -⟩ := ho3.sl
      rw [hl2] at ho3 ⊢
      clear ho2 hl2 hyl
      go_wp2
      go_roundw
      case rel => exact ⟨k + 1, _, _, _, by omega, rfl, by go_num, ho3, hr2, hg2, hy2⟩
      case measure => simp [lenOf]; omega
    · obtain rfl : k = n := by omega
      go_wp2
      go_ret
      exact ⟨_, ys, _, rfl, ho, ho.read.len, by omega, hr, hg, hy⟩

/-- Block g is an array that holds the texts ss. -/
def ArrS (w : World) (g T : Nat) (ss : List ByteArray) : Prop := w.heap[g]? = some (.cells (ss.map Value.string).toArray T (0, 0))
def els (ss : List ByteArray) (j : Nat) : ByteArray := ss.getD j ⟨#[]⟩
theorem ArrS.cell {w : World} {g T : Nat} {ss : List ByteArray} (h : ArrS w g T ss) {j : Nat} (hj : j < ss.length) : w.cell? ⟨g, j, none⟩ = some (.string (els ss j)) := by
  rw [cell_of_row w g j _ T (0, 0) h]
  simp [els, hj]
theorem ArrS.made (w : World) (T : Nat) (ss : List ByteArray) : ArrS (w.alloc (.cells (ss.map Value.string).toArray T)) w.heap.size T ss := heap_alloc_new w _

set_option maxHeartbeats 400000 in
theorem of_any (R q g n T : Nat) (ss : List ByteArray) (w : World) (h : Rdr w R q) (hq : q ≤ 100000) (ha : ArrS w g T ss) (hl : ss.length = n) (hn : 0 < n) (hn2 : n ≤ 1000) (hg : g ≠ R) :
    Calls Tryd.prog 41 #[.pointer (some ⟨R, 0, none⟩), .slice (some ⟨g, 0, none⟩) n n] w fun e w' => ∃ j, j < ss.length ∧ e = .returned (.string (els ss j)) ∧ Rdr w' R (q + 1) ∧ w.grownBy w' (some R) := by
  have hcell := fun j (hj : j < n) => ha.cell (j := j) (by omega)
  have Hc := hid hcell
  have Hl := hid hl
  clear hcell hl
  go_enter Tryd.func41, Tryd.ntmps41
  go_wp2_with fail
  refine (pick_any R q n w h hq (by omega)).mono ?_
  rintro e w1 ⟨v, rfl, hv0, hv1, hr, hgr⟩
  obtain ⟨j, rfl⟩ := Int.eq_ofNat_of_zero_le hv0
  have hj : j < n := by have := Int.max_eq_left (show (1 : Int) ≤ n by omega); omega
  have hc := grown_far hgr hg (Hc.out j hj)
  clear hv0 hv1
  go_wp2
  go_ret
  exact ⟨j, by rw [Hl.out]; exact hj, rfl, hr, hgr⟩

theorem grown_drew (w : World) (row : Option Nat) : w.grownBy w.drew row := ⟨rfl, rfl, rfl, Nat.le_refl _, fun _ _ _ => rfl⟩

/-- A text was drawn. -/
def DrewS (w : World) (R : Nat) (e : Ending) (w' : World) : Prop := ∃ t : ByteArray, e = .returned (.string t) ∧ t.size ≤ 12 ∧ w.grownBy w' (some R)
def s7 : List ByteArray := [⟨#[48]⟩, ⟨#[49]⟩, ⟨#[54]⟩, ⟨#[55]⟩, ⟨#[45]⟩, ⟨#[97]⟩, ⟨#[32]⟩]
def s5 : List ByteArray := [⟨#[48]⟩, ⟨#[49]⟩, ⟨#[32]⟩, ⟨#[45]⟩, ⟨#[57]⟩]
theorem s7_one : ∀ j, j < 7 → (els s7 j).size = 1 := by decide
theorem s5_one : ∀ j, j < 5 → (els s5 j).size = 1 := by decide

set_option maxHeartbeats 4000000 in
theorem mutate_any (R q : Nat) (s : ByteArray) (w : World) (h : Rdr w R q) (hq : q ≤ 60000) (hs : s.size ≤ 10) :
    Calls Tryd.prog 31 #[.pointer (some ⟨R, 0, none⟩), .string s] w (DrewS w R) := by
  go_enter Tryd.func31, Tryd.ntmps31
  go_wp2_with fail
  refine (pick_any R q ((s.size : Int) + 1) w h (by omega) (by omega)).mono ?_
  rintro e w1 ⟨k, rfl, hk0, hk1, hr1, hg1⟩
  have hk2 : k ≤ s.size := by have := Int.max_eq_left (show (1 : Int) ≤ (s.size : Int) + 1 by omega); omega
  obtain ⟨k, rfl⟩ := Int.eq_ofNat_of_zero_le hk0
  have hkn : k ≤ s.size := by omega
  clear hk1
  go_wp2_with fail
  refine (pick_any R (q + 1) 5 w1 hr1 (by omega) (by omega)).mono ?_
  rintro e w2 ⟨c, rfl, hc0, hc1, hr2, hg2⟩
  have hg02 := grown_trans hg1 hg2
  have hc4 : c = 0 ∨ c = 1 ∨ c = 2 ∨ c = 3 ∨ c = 4 := by omega
  clear hc0 hc1
  have hne : w2.heap.size ≠ R := by have := hr2.lt; omega
  have Ha7 : Hid (ArrS (w2.alloc (.cells (s7.map Value.string).toArray 9)).drew w2.heap.size 9 s7) := hid (ArrS.made w2 9 s7)
  have Ha5 := hid (ArrS.made w2 9 s5)
  have Hr7 : Hid (Rdr (w2.alloc (.cells (s7.map Value.string).toArray 9)).drew R (q + 2)) := hid (hr2.below (((Below.refl w2.heap.size w2).alloc (Nat.le_refl _) _).drew))
  have Hr5 : Hid (Rdr (w2.alloc (.cells (s5.map Value.string).toArray 9)) R (q + 2)) := hid (hr2.below ((Below.refl w2.heap.size w2).alloc (Nat.le_refl _) _))
  have hg07 := grown_trans hg02 (grown_trans (World.grownBy_alloc w2 (.cells (s7.map Value.string).toArray 9) (some R)) (grown_drew _ _))
  have hg05 := grown_trans hg02 (World.grownBy_alloc w2 (.cells (s5.map Value.string).toArray 9) (some R))
  rcases hc4 with rfl | rfl | rfl | rfl | rfl
  · by_cases hlt : (k : Int) < s.size
    · have hkb : (k : Int) + 1 ≤ s.size := by omega
      have hk1 : 0 ≤ (k : Int) + 1 := by omega
      have hwk : IntKind.i64.wrap ((k : Int) + 1) = (k : Int) + 1 := IntWalk.i64_in _ ⟨by omega, by omega⟩
      have hkn2 : ((k : Int) + 1).toNat = k + 1 := by omega
      go_wp2_with fail
      go_region_with (go_at_call 41; refine (of_any R (q + 2) w2.heap.size 7 9 s7 _ Hr7.out (by omega) Ha7.out rfl (by omega) (by omega) hne).mono ?_; rintro e w3 ⟨j, hj, rfl, hr3, hg3⟩; obtain ⟨t1, ht1⟩ : ∃ t1, t1 = els s7 j := ⟨_, rfl⟩; have hone : t1.size = 1 := (by rw [ht1]; exact s7_one j hj); rw [← ht1]; clear ht1 hj)
      all_goals go_wp2
      all_goals go_ret
      all_goals exact ⟨_, rfl, by simp [ByteArray.size_extract, ByteArray.size_append]; omega, grown_trans hg07 hg3⟩
    · go_wp2
      go_ret
      exact ⟨_, rfl, by omega, hg02⟩
  · by_cases hlt : (k : Int) < s.size
    · have hkb : (k : Int) + 1 ≤ s.size := by omega
      have hk1 : 0 ≤ (k : Int) + 1 := by omega
      have hwk : IntKind.i64.wrap ((k : Int) + 1) = (k : Int) + 1 := IntWalk.i64_in _ ⟨by omega, by omega⟩
      have hkn2 : ((k : Int) + 1).toNat = k + 1 := by omega
      go_wp2_with fail
      go_region_with (go_at_call 41; refine (of_any R (q + 2) w2.heap.size 7 9 s7 _ Hr7.out (by omega) Ha7.out rfl (by omega) (by omega) hne).mono ?_; rintro e w3 ⟨j, hj, rfl, hr3, hg3⟩; obtain ⟨t1, ht1⟩ : ∃ t1, t1 = els s7 j := ⟨_, rfl⟩; have hone : t1.size = 1 := (by rw [ht1]; exact s7_one j hj); rw [← ht1]; clear ht1 hj)
      all_goals go_wp2
      all_goals go_ret
      all_goals exact ⟨_, rfl, by simp [ByteArray.size_extract, ByteArray.size_append]; omega, grown_trans hg07 hg3⟩
    · go_wp2
      go_ret
      exact ⟨_, rfl, by omega, hg02⟩
  · go_wp2
    go_ret
    exact ⟨_, rfl, by simp [ByteArray.size_extract]; omega, hg02⟩
  · go_wp2_with fail
    refine (of_any R (q + 2) w2.heap.size 5 9 s5 _ Hr5.out (by omega) Ha5.out rfl (by omega) (by omega) hne).mono ?_
    rintro e w3 ⟨j, hj, rfl, hr3, hg3⟩
    obtain ⟨t1, ht1⟩ : ∃ t1, t1 = els s5 j := ⟨_, rfl⟩
    have hone : t1.size = 1 := by rw [ht1]; exact s5_one j hj
    rw [← ht1]
    clear ht1 hj
    go_wp2
    go_ret
    exact ⟨_, rfl, by simp [ByteArray.size_append]; omega, grown_trans hg05 hg3⟩
  · go_wp2
    go_ret
    exact ⟨_, rfl, by omega, hg02⟩

end Go.Proofs.YtjgaglfinpeeoabDoor
