/- What the program answers when asked whether numbers are an order. No condition but that the list's cells can be read. -/
import Derived.Test.YtjgaglfinpeeoabDoorKit
import Derived.Test.YtjgaglfinpeeoabDoorFin
import Derived.Test.YtjgaglfinpeeoabDoorChecked
namespace Go.Proofs.YtjgaglfinpeeoabDoor
open Go.RowKit

theorem infoP : ∃ i, Tryd.prog.info? 3 = some i := by
  have h : (Tryd.prog.info? 3).isSome = true := by kernel_rfl
  exact Option.isSome_iff_exists.1 h
theorem cellsI : Tryd.prog.cellsOf 3 = 1 := by kernel_rfl

theorem counted {xs fs os : List Int} (hn : xs.length ≤ 7) (hr : ∀ j, j < xs.length → 0 ≤ el xs j ∧ el xs j < xs.length) (hf : fs.length = 7) (ho : os.length = 7)
    (hfc : ∀ v, v < 7 → el fs v = (xs.count (v : Int) : Nat)) (hoc : ∀ v, v < 7 → el os v = if v < xs.length then 1 else 0) : decide (fs = os) = decide (Valid xs) := by
  rw [decide_eq_decide, ← count_valid hn hr]
  constructor
  · intro e v hv
    have h1 := hfc v hv
    have h2 := hoc v hv
    rw [e, h2] at h1
    split at h1 <;> split <;> omega
  · intro h
    refine ext_el (by omega) (fun v hv => ?_)
    rw [hfc v (by omega), hoc v (by omega), h v (by omega)]
    split <;> rfl

theorem zeros : ∀ v, v < 7 → el [0, 0, 0, 0, 0, 0, 0] v = 0 := by decide

set_option maxHeartbeats 1000000 in
theorem validI_any (ao : Option Addr) (n cap : Nat) (xs : List Int) (w : World) (h : Sl w ao n cap xs) :
    Calls Tryd.prog 24 #[.slice ao n cap] w (Says w (.bool (decide (Valid xs)))) := by
  have hbig := h.big
  have hlen := hid h.len
  by_cases h7 : n ≤ 7
  · go_enter Tryd.func24, Tryd.ntmps24
    go_wp2
    go_loopw [12] (fun i wr => ∃ (k : Nat) (fs os : List Int), k ≤ n ∧ i = .int .i64 k ∧ Below w.heap.size w wr ∧ Arr wr w.heap.size 62 fs ∧ Arr wr (w.heap.size + 1) 62 os ∧ fs.length = 7 ∧ os.length = 7 ∧
        Hid (∀ j, j < k → 0 ≤ el xs j ∧ el xs j < n) ∧ Hid (∀ v, v < 7 → el fs v = ((xs.take k).count (v : Int) : Nat)) ∧ Hid (∀ v, v < 7 → el os v = if v < k then 1 else 0))
      (fun i _ => n - (intOf i).toNat)
    case atStart =>
      refine ⟨0, [0, 0, 0, 0, 0, 0, 0], [0, 0, 0, 0, 0, 0, 0], Nat.zero_le _, rfl, by go_grown, ?_, ?_, rfl, rfl, fun j hj => by omega, fun v hv => ?_, fun v hv => ?_⟩
      · exact (Arr.made w _ [0, 0, 0, 0, 0, 0, 0]).alloc _
      · have := Arr.made (w.alloc (.cells ([0, 0, 0, 0, 0, 0, 0].map (Value.int .i64)).toArray 62)) 62 [0, 0, 0, 0, 0, 0, 0]
        rwa [World.size_alloc] at this
      · rw [zeros v hv]; simp
      · rw [zeros v hv]; simp
    case round =>
      obtain ⟨k, fs, os, hk, rfl, hbr, hF, hO, hf7, ho7, hr, hfc, hoc⟩ := hrel
      have Hf7 := hid hf7
      have Ho7 := hid ho7
      by_cases hlt : k < n
      · obtain ⟨b, off, rfl, hblt, hc⟩ := h.row (by omega)
        have hcell := (hbr.cell (p := ⟨b, off + k, none⟩) hblt).trans (hc k hlt)
        clear hc
        by_cases hin : 0 ≤ el xs k ∧ el xs k < n
        · obtain ⟨v, hv⟩ := Int.eq_ofNat_of_zero_le hin.1
          have hvn : v < n := by omega
          rw [hv] at hcell
          have Hv := hid hv
          have hfb : el fs v ≤ 7 ∧ 0 ≤ el fs v := by
            rw [hfc.out v (by omega)]
            have := List.count_le_length (a := (v : Int)) (l := xs.take k)
            rw [List.length_take] at this
            omega
          have hcF := hF.cell (j := v) (by omega)
          have hfF := hF.frozen v
          have hcO := hO.cell (j := k) (by omega)
          have hfO := hO.frozen k
          have hcO' : (wr.setCell ⟨w.heap.size, v, none⟩ (.int .i64 (el fs v + 1))).cell? ⟨w.heap.size + 1, k, none⟩ = some (.int .i64 (el os k)) := (hO.other (by simp) _).cell (by omega)
          clear hf7 ho7 hv hin
          go_wp2
          go_roundw
          case rel =>
            refine ⟨k + 1, fs.set v (el fs v + 1), os.set k 1, by omega, by go_num, ?_, ?_, ?_, by simp [Hf7.out], by simp [Ho7.out], ?_, ?_, ?_⟩
            · exact (hbr.setCell (Nat.le_refl _) _).setCell (Nat.le_succ _) _
            · exact (hF.set v _).other (by simp) _
            · exact (hO.other (by simp) _).set k 1
            · exact upto_step hr.out ⟨by rw [Hv.out]; omega, by rw [Hv.out]; omega⟩
            · intro t ht
              rw [count_take (by rw [hlen.out]; exact hlt), Hv.out]
              have := hfc.out t ht
              by_cases e : v = t
              · subst e
                rw [el_set_same (by rw [Hf7.out]; exact ht), this]; simp
              · rw [el_set_ne e, this, if_neg (by omega)]; simp
            · intro t ht
              have := hoc.out t ht
              by_cases e : k = t
              · subst e
                rw [el_set_same (by rw [Ho7.out]; exact ht), if_pos (by omega)]
              · rw [el_set_ne e, this]
                split <;> split <;> omega
          case measure => simp [intOf]; omega
        · have hno : Hid (¬ Valid xs) := fun v => hin ⟨v.lo k (by rw [hlen.out]; exact hlt), by have := v.hi k (by rw [hlen.out]; exact hlt); rwa [hlen.out] at this⟩
          have Hin := hid hin
          clear hin
          by_cases h0 : el xs k < 0
          · go_wp2
            go_ret
            exact says_false hno.out hbr
          · have h1 : (n : Int) ≤ el xs k := by have := Hin.out; omega
            go_wp2
            go_ret
            exact says_false hno.out hbr
      · obtain rfl : k = n := by omega
        have hsF : (Tryd.prog.info? 62).map (·.size) = some (fs.map (Value.int .i64)).toArray.size := by
          have : (Tryd.prog.info? 62).map (·.size) = some 7 := by kernel_rfl
          rw [this]; simp [hf7]
        have hsO : (Tryd.prog.info? 62).map (·.size) = some (os.map (Value.int .i64)).toArray.size := by rw [hsF]; simp [hf7, ho7]
        obtain ⟨ip, hip⟩ := infoP
        have hE := fun w => run_eql_arr (P := Tryd.prog) w 62 3 7 fs os Tryd.underlying62 hip cellsI Tryd.underlying3 hf7 ho7
        clear hf7 ho7
        go_wp2_with (first
          | (refine wpList_load_row rfl 62 (.tmp 3) rfl w.heap.size rfl 62 _ (0, 0) _ hF Tryd.underlying62 rfl hsF ?_)
          | (refine wpList_load_row rfl 62 (.tmp 4) rfl (w.heap.size + 1) rfl 62 _ (0, 0) _ hO Tryd.underlying62 rfl hsO ?_))
        go_ret
        refine says_bool (counted (by rw [hlen.out]; exact h7) (fun j hj => ?_) Hf7.out Ho7.out (fun v hv => ?_) (fun v hv => ?_)) hbr
        · rw [hlen.out] at hj ⊢
          exact hr.out j hj
        · have := hfc.out v hv
          rwa [List.take_of_length_le (Nat.le_of_eq hlen.out)] at this
        · rw [hlen.out]; exact hoc.out v hv
  · go_enter Tryd.func24, Tryd.ntmps24
    go_wp2
    go_ret
    exact says_false (fun v => h7 (by have := v.len; rw [hlen.out] at this; exact this)) (Below.refl _ _)
end Go.Proofs.YtjgaglfinpeeoabDoor
