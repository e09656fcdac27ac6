/- Orders of tables, in the program and in its model. Condition: the list's cells can be read. -/
import Derived.Test.YtjgaglfinpeeoacVt
import Derived.Test.YtjgaglfinpeeoacBnd
import Derived.Test.YtjgaglfinpeeoacReg
import Derived.Deep.LoopGhost
namespace Go.Proofs.Ytjgaglfinpeeoac
open Go.RowKit

/-- What a function of tables answers. -/
def onVT (ts zs : List Int) : List Int := if VT ts then zs else []
def isVT (ts : List Int) : Bool := decide (VT ts)
theorem onVT_yes {ts zs : List Int} (h : VT ts) : onVT ts zs = zs := if_pos h
theorem onVT_no {ts zs : List Int} (h : ¬ VT ts) : onVT ts zs = [] := if_neg h
theorem isVT_yes {ts : List Int} (h : VT ts) : isVT ts = true := decide_eq_true h
theorem isVT_no {ts : List Int} (h : ¬ VT ts) : isVT ts = false := decide_eq_false h

/-- What ofTable appends at place k. -/
def tabG (ts : List Int) (k : Nat) : Int := el (leP ts k) (el ts k).toNat

set_option maxHeartbeats 2000000 in
theorem ofTable_any (ao : Option Addr) (n cap : Nat) (xs : List Int) (w : World) (h : Sl w ao n cap xs) (hv : VT xs) :
    Calls Try.prog 108 #[.slice ao n cap] w (Made w (ordT xs)) := by
  have hbig := h.big
  have hlen := hid h.len
  have h7 : n ≤ 7 := by have := hv.len; rw [hlen.out] at this; exact this
  have Hv := hid hv
  clear hv
  go_enter Try.func108, Try.ntmps108
  go_wp2_with fail
  refine (rising_any _ _ (by omega)).mono ?_
  rintro e w1 ⟨u1, rfl, ho1, hb1⟩
  obtain ⟨aL, cL, rfl, hsL⟩ := ho1.sl
  rw [rise_len] at ho1 hsL ⊢
  clear hsL
  go_wp2
  go_loopw [3, 4, 5] (fun l v i wr => ∃ (k m : Nat) (aL ao' : Option Addr) (cL cap' : Nat), k ≤ n ∧ Hid (m = n - k) ∧ l = .slice aL m cL ∧ v = .slice ao' k cap' ∧ i = .int .i64 k ∧ Below w.heap.size w wr ∧ Own wr w.heap.size (.slice aL m cL) (leP xs k) ∧ Own wr w.heap.size (.slice ao' k cap') ((List.range k).map (tabG xs)) ∧ ((Value.slice aL m cL).ownBlock = none ∨ (Value.slice aL m cL).ownBlock ≠ (Value.slice ao' k cap').ownBlock))
    (fun _ _ i _ => n - (intOf i).toNat)
  case atStart =>
    refine ⟨0, n, aL, _, cL, _, Nat.zero_le _, rfl, rfl, rfl, rfl, hb1.alloc hb1.size _, ?_, own_lit_at hb1.size, ho1.apart (own_lit w1) (Nat.le_refl _)⟩
    rw [leP, hlen.out]
    exact ho1.alloc _
  case round =>
    obtain ⟨k, m, aL, ao', cL, cap', hk, hm, rfl, rfl, rfl, hbr, hoL, ho, hap⟩ := hrel
    by_cases hlt : k < n
    · obtain ⟨b, off, rfl, hblt, hc⟩ := h.row (by omega)
      have hsz := hbr.size
      have hl : ((List.range k).map (tabG xs)).length ≤ 2000000 := by rw [map_range_len]; omega
      have htv := vt_nat Hv.out (k := k) (by rw [hlen.out]; exact hlt)
      rw [hlen.out] at htv
      obtain ⟨t, htt⟩ : ∃ t, t = (el xs k).toNat := ⟨_, rfl⟩
      rw [← htt] at htv
      have Htt := hid htt
      have htm : t < m := by have := hm.out; omega
      have hm7 : m ≤ 7 := by have := hm.out; omega
      have hcell : wr.cell? ⟨b, off + k, none⟩ = some (.int .i64 (t : Int)) := by rw [htv.1]; exact (hbr.cell (p := ⟨b, off + k, none⟩) hblt).trans (hc k hlt)
      obtain ⟨bL, oL, rfl, hltL, hcL⟩ := hoL.read.row (by omega)
      have hcellL := hcL t htm
      have hi1 : (k : Int) < n := by omega
      have hi2 : (t : Int) < m := by omega
      have hcLm := hoL.read.le
      have hcmax : cL ≤ 9223372036854775807 := by have := hoL.read.max; unfold maxLen at this; omega
      clear hc hcL htt htv
      go_wp2_with (at_builtin; refine app_int _ _ rfl _ _ rfl w.heap.size _ _ rfl ho rfl hl hsz ?_)
      intro u' w' ho' hg'
      have hb' := below_app hbr ho hg'
      have hoL' := hoL.kept hg' hap
      obtain ⟨ao', cap', rfl, hs'⟩ := ho'.sl
      have eG : el (leP xs k) t = tabG xs k := by rw [tabG, ← Htt.out]
      rw [eG, ← map_range_succ (tabG xs), map_range_len] at ho'
      rw [eG, ← map_range_succ (tabG xs), map_range_len]
      have hsL' := hoL'.read
      have hcell' : w'.cell? ⟨b, off + k, none⟩ = some (.int .i64 (t : Int)) := by
        have h1 := (hb'.cell (p := ⟨b, off + k, none⟩) hblt)
        have h2 := (hbr.cell (p := ⟨b, off + k, none⟩) hblt)
        rw [h1, ← h2]; exact hcell
      have hbw : b < w'.heap.size := Nat.lt_of_lt_of_le hblt hb'.size
      have hnL := hoL'.nilcap
      have HlL := hid hsL'.len
      have hi3 : (t : Int) ≤ cL := by omega
      have hi4 : (t : Int) + 1 ≤ m := by omega
      have hwt : IntKind.i64.wrap ((t : Int) + 1) = (t : Int) + 1 := IntWalk.i64_in _ ⟨by omega, by omega⟩
      have htn : ((t : Int) + 1).toNat = t + 1 := by omega
      have ht0 : 0 ≤ (t : Int) + 1 := by omega
      clear eG hs' hcellL hcell hg' ho hoL
      go_wp2_with fail
      go_region_law (first
        | (refine step_app rfl (.tmp 26) (.tmp 32) rfl w' (.slice (some ⟨w'.heap.size, 0, none⟩) 0 0) [] rfl (by first | exact own_lit_at (Nat.le_refl _) | exact (own_lit_at (Nat.le_refl _)).drew) (some ⟨bL, oL, none⟩) t cL ((leP xs k).take t) rfl (by first | exact ((hsL'.take (by omega)).drew).alloc _ | exact ((hsL'.take (by omega)).alloc _).drew) hnL (by simp; omega) (by go_grown) ?_
           intro u1 wa ho1 hg1 hb1x
           have hcella := (hb1x.cell (p := ⟨b, off + k, none⟩) hbw).trans hcell')
        | (refine step_app rfl (.tmp 33) (.tmp 40) rfl w' u1 ((leP xs k).take t) rfl (by first | exact ho1 | exact ho1.drew) _ (m - (t + 1)) (cL - (t + 1)) ((leP xs k).drop (t + 1)) rfl ((hsL'.below (Nat.le_refl _) hb1x).dropIf (by omega)) (drop_nil hnL) (by rw [List.length_take, HlL.out]; omega) hb1x ?_
           intro u2 wb ho2 hg2 hb2x))
      all_goals (
        obtain ⟨aL', cL', rfl, hsx⟩ := ho2.sl
        have hlx : ((leP xs k).take t ++ (leP xs k).drop (t + 1)).length = m - 1 := by rw [List.length_append, List.length_take, List.length_drop, HlL.out]; omega
        rw [hlx] at ho2
        rw [hlx]
        have hax := ho2.apart' ho' (Nat.le_refl _)
        have hLx : (leP xs k).take t ++ (leP xs k).drop (t + 1) = leP xs (k + 1) := by rw [leP, ← Htt.out, List.eraseIdx_eq_take_drop_succ]
        rw [hLx] at ho2
        have ho3 := ho'.below (Nat.le_refl _) hb2x
        have ho4 := ho2.mono hb'.size
        have hb4 := hb'.trans (hb2x.mono hb'.size)
        have hm1 : Hid (m - 1 = n - (k + 1)) := by have := hm.out; exact hid (by omega)
        clear hsx hlx hLx ho1 hg1 hg2 ho2 ho' hb1x hb2x
        go_wp2
        go_roundw
        case rel => exact ⟨k + 1, m - 1, aL', ao', cL', cap', by omega, hm1, rfl, rfl, by go_num, hb4, ho4, ho3, hax⟩
        case measure => simp [intOf]; omega)
    · obtain rfl : k = n := by omega
      go_wp2
      go_ret
      refine ⟨_, rfl, ?_, hbr⟩
      rw [ordT, hlen.out]
      exact ho

theorem OwS.mono {B B' g n cap : Nat} {w : World} {ys : List Int} (h : OwS w B g n cap ys) (hB : B' ≤ B) : OwS w B' g n cap ys := by
  refine ⟨h.1, ?_⟩
  rcases h.2 with ⟨h1, _⟩ | ⟨g', cap', cur, hv, hg, r⟩
  · simp at h1
  · exact Or.inr ⟨g', cap', cur, hv, Nat.le_trans hB hg, r⟩

/-- Block g is an array that holds the truth values bs. -/
def ArrB (w : World) (g T : Nat) (bs : List Bool) : Prop := w.heap[g]? = some (.cells (bs.map Value.bool).toArray T (0, 0))
def elB (bs : List Bool) (k : Nat) : Bool := bs.getD k false
theorem elB_set_same {bs : List Bool} {k : Nat} {v : Bool} (h : k < bs.length) : elB (bs.set k v) k = v := by simp [elB, h]
theorem elB_set_ne {bs : List Bool} {j k : Nat} {v : Bool} (h : k ≠ j) : elB (bs.set k v) j = elB bs j := by simp [elB, List.getD, h]
theorem ArrB.lt {w : World} {g T : Nat} {fs : List Bool} (h : ArrB w g T fs) : g < w.heap.size := (Array.getElem?_eq_some_iff.1 h).1
theorem ArrB.cell {w : World} {g T : Nat} {fs : List Bool} (h : ArrB w g T fs) {j : Nat} (hj : j < fs.length) : w.cell? ⟨g, j, none⟩ = some (.bool (elB fs j)) := by
  rw [cell_of_row w g j _ T (0, 0) h]
  simp [elB, hj]
theorem ArrB.frozen {w : World} {g T : Nat} {fs : List Bool} (h : ArrB w g T fs) (j : Nat) : w.frozen? ⟨g, j, none⟩ = false := frozen_of_row w g j _ T h
theorem ArrB.set {w : World} {g T : Nat} {fs : List Bool} (h : ArrB w g T fs) (j : Nat) (v : Bool) : ArrB (w.setCell ⟨g, j, none⟩ (.bool v)) g T (fs.set j v) := by
  have := heap_setCell_same w g j _ T (.bool v) h
  rw [ArrB, this]
  simp [List.map_set]
theorem ArrB.other {w : World} {g T : Nat} {fs : List Bool} (h : ArrB w g T fs) {a : Addr} (ha : a.block ≠ g) (v : Value) : ArrB (w.setCell a v) g T fs := by
  rw [ArrB, Below.heap_setCell _ _ _ _ (by omega)]; exact h
theorem ArrB.made (w : World) (T : Nat) (fs : List Bool) : ArrB (w.alloc (.cells (fs.map Value.bool).toArray T)) w.heap.size T fs := heap_alloc_new w _
theorem nots : ∀ v, v < 7 → elB [false, false, false, false, false, false, false] v = false := by decide

end Go.Proofs.Ytjgaglfinpeeoac
