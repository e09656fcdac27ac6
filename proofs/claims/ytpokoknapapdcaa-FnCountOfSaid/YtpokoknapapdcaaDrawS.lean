/- The texts that the laws draw: whatever the bytes, a text of at most twelve bytes. Condition: the bytes can be read. -/
import Derived.Test.YtpokoknapapdcaaDraw4
import Derived.Test.YtpokoknapapdcaaText
import Derived.Test.YtpokoknapapdcaaParse
import Derived.Deep.RegionWith
namespace Go.Proofs.Ytpokoknapapdcaa
open Go.RowKit

/-- A call that draws a list of n numbers, each below n: it makes a list and turns the reader. -/
def DrewV (w : World) (R n Q : Nat) (e : Ending) (w' : World) : Prop := ∃ u ys q, e = .returned u ∧ Own w' w.heap.size u ys ∧ ys.length = n ∧ q ≤ Q ∧ Rdr w' R q ∧ w.grownBy w' (some R) ∧ Hid (∀ y ∈ ys, 0 ≤ y ∧ y < n)

set_option maxHeartbeats 1000000 in
theorem anOrderV_any (R q n : Nat) (w : World) (h : Rdr w R q) (hq : q ≤ 60000) (hn : n ≤ 8) :
    Calls Try.prog 107 #[.pointer (some ⟨R, 0, none⟩), .int .i64 n] w (DrewV w R n (q + 8)) := by
  have hlt := h.lt
  go_enter Try.func107, Try.ntmps107
  go_wp2
  go_loopw [5, 6] (fun p x wr => ∃ (k : Nat) (ao : Option Addr) (cap : Nat) (ys : List Int), k ≤ n ∧ p = .slice ao k cap ∧ x = .int .i64 k ∧ Own wr w.heap.size (.slice ao k cap) ys ∧ Rdr wr R (q + k) ∧ w.grownBy wr (some R) ∧ Hid (∀ y ∈ ys, 0 ≤ y ∧ y < k))
    (fun p _ _ => n - lenOf p)
  case atStart => exact ⟨0, _, _, [], Nat.zero_le _, rfl, rfl, own_lit w, h.below ((Below.refl _ _).alloc (Nat.le_refl _) _), World.grownBy_alloc w _ _, fun y hy => by simp at hy⟩
  case round =>
    obtain ⟨k, ao, cap, ys, hk, rfl, rfl, ho, hr, hg, hy⟩ := hrel
    by_cases hlt2 : k < n
    · go_wp2_with fail
      refine (pick_any R (q + k) ((k : Int) + 1) wr hr (by omega) (by omega)).mono ?_
      rintro e w1 ⟨v, rfl, hv0, hv1, hr1, hg1⟩
      obtain ⟨j, rfl⟩ := Int.eq_ofNat_of_zero_le hv0
      have hj : j ≤ k := by have := Int.max_eq_left (show (1 : Int) ≤ (k : Int) + 1 by omega); omega
      have ho1 := ho.kept hg1 (ho.farR hlt)
      have hyl := ho1.read.len
      clear hv0 hv1
      go_wp2_with fail
      refine (insertAt_any ao k cap ys k j w1 ho1.read ho1.nilcap hj (by omega)).mono ?_
      rintro e w2 ⟨u2, rfl, ho2, hb2⟩
      have hl2 : (ys.take j ++ [(k : Int)] ++ ys.drop j).length = k + 1 := by
        rw [List.length_append, List.length_append, List.length_take, List.length_drop, List.length_singleton, hyl]; omega
      have hy2 : Hid (∀ y ∈ ys.take j ++ [(k : Int)] ++ ys.drop j, 0 ≤ y ∧ y < ((k + 1 : Nat) : Int)) := fun y hm => by
        rw [List.mem_append, List.mem_append, List.mem_singleton] at hm
        rcases hm with (hm | hm) | hm
        · have := hy.out y (List.mem_of_mem_take hm); omega
        · omega
        · have := hy.out y (List.mem_of_mem_drop hm); omega
      have hsz : w.heap.size ≤ w1.heap.size := Nat.le_trans hg.size hg1.size
      have ho3 := ho2.mono hsz
      have hr2 := hr1.below hb2
      have hg2 := grown_trans (grown_trans hg hg1) (grown_of_below (row := some R) hb2)
      obtain ⟨ao2, cap2, rfl, -⟩ := ho3.sl
      rw [hl2] at ho3 ⊢
      clear ho2 hl2 hyl
      go_wp2
      go_roundw
      case rel => exact ⟨k + 1, _, _, _, by omega, rfl, by go_num, ho3, hr2, hg2, hy2⟩
      case measure => simp [lenOf]; omega
    · obtain rfl : k = n := by omega
      go_wp2
      go_ret
      exact ⟨_, ys, _, rfl, ho, ho.read.len, by omega, hr, hg, hy⟩

set_option maxHeartbeats 1000000 in
theorem goodOrderV_any (R q : Nat) (w : World) (h : Rdr w R q) (hq : q ≤ 50000) :
    Calls Try.prog 88 #[.pointer (some ⟨R, 0, none⟩)] w fun e w' => ∃ n, n ≤ 7 ∧ DrewV w R n (q + 9) e w' := by
  have hlt := h.lt
  have ha := lit_arr w [4, 5, 6, 3, 7, 2, 1, 0]
  have hr := h.below ((Below.refl w.heap.size w).alloc (Nat.le_refl _) (.cells ([4, 5, 6, 3, 7, 2, 1, 0].map (Value.int .i64)).toArray 3))
  have Ha := hid ha
  have Hr := hid hr
  clear ha hr
  go_enter Try.func88, Try.ntmps88
  go_wp2_with fail
  refine (one_any R q w.heap.size 8 3 [4, 5, 6, 3, 7, 2, 1, 0] _ Hr.out (by omega) Ha.out rfl (by omega) (by omega) (by omega)).mono ?_
  rintro e w1 ⟨j, hj, rfl, hr1, hg1⟩
  have hv : ∀ j, j < 8 → 0 ≤ el [4, 5, 6, 3, 7, 2, 1, 0] j ∧ el [4, 5, 6, 3, 7, 2, 1, 0] j ≤ 7 := by decide
  obtain ⟨n, hn⟩ := Int.eq_ofNat_of_zero_le (hv j hj).1
  have hn7 : n ≤ 7 := by have := (hv j hj).2; omega
  rw [hn]
  clear hv hn hj
  go_wp2_with fail
  refine (anOrderV_any R (q + 1) n w1 hr1 (by omega) (by omega)).mono ?_
  rintro e w2 ⟨u, ys, q2, rfl, ho, hl, hq2, hr2, hg2, hy⟩
  have hsz : w.heap.size ≤ w1.heap.size := Nat.le_trans (by simp) hg1.size
  go_wp2
  go_ret
  exact ⟨n, hn7, _, ys, q2, rfl, ho.mono hsz, hl, hq2, hr2, grown_trans (grown_trans (World.grownBy_alloc w _ _) hg1) hg2, hy⟩

/-- Block g is an array that holds the texts ss. -/
def ArrS (w : World) (g T : Nat) (ss : List ByteArray) : Prop := w.heap[g]? = some (.cells (ss.map Value.string).toArray T (0, 0))
def els (ss : List ByteArray) (j : Nat) : ByteArray := ss.getD j ⟨#[]⟩
theorem ArrS.cell {w : World} {g T : Nat} {ss : List ByteArray} (h : ArrS w g T ss) {j : Nat} (hj : j < ss.length) : w.cell? ⟨g, j, none⟩ = some (.string (els ss j)) := by
  rw [cell_of_row w g j _ T (0, 0) h]
  simp [els, hj]
theorem ArrS.made (w : World) (T : Nat) (ss : List ByteArray) : ArrS (w.alloc (.cells (ss.map Value.string).toArray T)) w.heap.size T ss := heap_alloc_new w _

set_option maxHeartbeats 400000 in
theorem of_any (R q g n T : Nat) (ss : List ByteArray) (w : World) (h : Rdr w R q) (hq : q ≤ 100000) (ha : ArrS w g T ss) (hl : ss.length = n) (hn : 0 < n) (hn2 : n ≤ 1000) (hg : g ≠ R) :
    Calls Try.prog 86 #[.pointer (some ⟨R, 0, none⟩), .slice (some ⟨g, 0, none⟩) n n] w fun e w' => ∃ j, j < ss.length ∧ e = .returned (.string (els ss j)) ∧ Rdr w' R (q + 1) ∧ w.grownBy w' (some R) := by
  have hcell := fun j (hj : j < n) => ha.cell (j := j) (by omega)
  have Hc := hid hcell
  have Hl := hid hl
  clear hcell hl
  go_enter Try.func86, Try.ntmps86
  go_wp2_with fail
  refine (pick_any R q n w h hq (by omega)).mono ?_
  rintro e w1 ⟨v, rfl, hv0, hv1, hr, hgr⟩
  obtain ⟨j, rfl⟩ := Int.eq_ofNat_of_zero_le hv0
  have hj : j < n := by have := Int.max_eq_left (show (1 : Int) ≤ n by omega); omega
  have hc := grown_far hgr hg (Hc.out j hj)
  clear hv0 hv1
  go_wp2
  go_ret
  exact ⟨j, by rw [Hl.out]; exact hj, rfl, hr, hgr⟩

theorem grown_drew (w : World) (row : Option Nat) : w.grownBy w.drew row := ⟨rfl, rfl, rfl, Nat.le_refl _, fun _ _ _ => rfl⟩

/-- A text was drawn. -/
def DrewS (w : World) (R : Nat) (e : Ending) (w' : World) : Prop := ∃ t : ByteArray, e = .returned (.string t) ∧ t.size ≤ 12 ∧ w.grownBy w' (some R)
def s7 : List ByteArray := [⟨#[48]⟩, ⟨#[49]⟩, ⟨#[54]⟩, ⟨#[55]⟩, ⟨#[45]⟩, ⟨#[97]⟩, ⟨#[32]⟩]
def s5 : List ByteArray := [⟨#[48]⟩, ⟨#[49]⟩, ⟨#[32]⟩, ⟨#[45]⟩, ⟨#[57]⟩]
theorem s7_one : ∀ j, j < 7 → (els s7 j).size = 1 := by decide
theorem s5_one : ∀ j, j < 5 → (els s5 j).size = 1 := by decide

end Go.Proofs.Ytpokoknapapdcaa
