/- The struct of a signed order. Condition: the list's cells can be read and hold numbers of 64 bits. -/
import Derived.Test.YtaceiebmgnhdgaaGreatDoorSgn
import Derived.Laws.ResultCell
import Derived.Laws.CopyOwn
namespace Go.Proofs.YtaceiebmgnhdgaaGreatDoor
open Go.RowKit

/-- make(T, n) of a named type of slices of numbers. -/
theorem make_intsT (T : Nat) (hT : Tryz.prog.underlying T = some (.slice 3)) (w : World) {ops : Array Oper} {rest : List Oper} {o : Oper} {a : Act} {Q : Exit → Act → World → Prop}
    (hg : o.guard = none) (l c : Operand) (hop : o.op = Op.makeSlice T l c) (L C : Int) (n : Nat) (hl : a.eval l = .int .i64 L) (hc : a.eval c = .int .i64 C) (hL : L = (n : Int)) (hC : C = (n : Int)) (hn : n ≤ 2000000)
    (hK : ∀ w', OwS w' w.heap.size w.heap.size n n (List.replicate n 0) → Below w.heap.size w w' → wpList Tryz.prog ops Q rest (a.put o.dst (.slice (some ⟨w.heap.size, 0, none⟩) n n)) w') :
    wpList Tryz.prog ops Q (o :: rest) a w := by
  obtain ⟨i0, hi, hz0, hz1, hz2⟩ := info_parts infoI
  refine wpList_make_full w hg l c T hop w.heap.size 3 i0 (.int .i64 0) 1 hT hi hz0 hz1 _ _ _ _ n hl hc hL hC (by rw [hz2]; omega) (by unfold maxLen; omega) (Nat.le_refl _) ?_
  intro w' hown hgrow
  refine hK w' ?_ ((Below.refl _ _).grown hgrow (Nat.le_refl _) (fun k hk => by simp at hk))
  unfold OwS
  have e : (madeCells (Value.cells (.int .i64 0)) (n * 1)).toList = (List.replicate n (0 : Int)).map (Value.int .i64) := by
    rw [Nat.mul_one, show Value.cells (.int .i64 0) = #[Value.int .i64 0] from rfl, toList_madeCells_one, List.map_replicate]
  rw [← e]; exact hown

/-- Block g is a signed order's struct that holds these two slices. -/
def Ord2 (w : World) (g : Nat) (u v : Value) : Prop := w.heap[g]? = some (.cells #[u, v] 130 (0, 0))
theorem Ord2.cell0 {w : World} {g : Nat} {u v : Value} (h : Ord2 w g u v) : w.cell? ⟨g, 0, none⟩ = some u := by rw [cell_of_row w g 0 _ _ (0, 0) h]; rfl
theorem Ord2.cell1 {w : World} {g : Nat} {u v : Value} (h : Ord2 w g u v) : w.cell? ⟨g, 1, none⟩ = some v := by rw [cell_of_row w g 1 _ _ (0, 0) h]; rfl
theorem Ord2.other {w : World} {g : Nat} {u v : Value} (h : Ord2 w g u v) {a : Addr} (ha : a.block ≠ g) (x : Value) : Ord2 (w.setCell a x) g u v := by
  rw [Ord2, Below.heap_setCell _ _ _ _ (by omega)]; exact h
theorem Ord2.below {B : Nat} {w w' : World} {g : Nat} {u v : Value} (h : Ord2 w g u v) (hg : g < B) (hb : Below B w w') : Ord2 w' g u v := (hb.block g hg).trans h
theorem Ord2.lt {w : World} {g : Nat} {u v : Value} (h : Ord2 w g u v) : g < w.heap.size := (Array.getElem?_eq_some_iff.1 h).1
theorem Ord2.keep {w w' : World} {g : Nat} {u v : Value} (h : Ord2 w g u v) (hb : Below w.heap.size w w') : Ord2 w' g u v := h.below h.lt hb
theorem Ord2.made (w : World) (u v : Value) : Ord2 (w.alloc (.cells #[u, v] 130)) w.heap.size u v := heap_alloc_new w _
theorem Ord2.frozen {w : World} {g : Nat} {u v : Value} (h : Ord2 w g u v) (j : Nat) : w.frozen? ⟨g, j, none⟩ = false := frozen_of_row w g j _ _ h
theorem Ord2.set0 {w : World} {g : Nat} {u v : Value} (h : Ord2 w g u v) (x : Value) : Ord2 (w.setCell ⟨g, 0, none⟩ x) g x v := by
  have := heap_setCell_same w g 0 _ _ x h
  rw [Ord2, this]; rfl
theorem Ord2.set1 {w : World} {g : Nat} {u v : Value} (h : Ord2 w g u v) (x : Value) : Ord2 (w.setCell ⟨g, 1, none⟩ x) g u x := by
  have := heap_setCell_same w g 1 _ _ x h
  rw [Ord2, this]; rfl
theorem sizeO2 : (Tryz.prog.info? 130).map (·.size) = some 2 := by kernel_rfl

theorem results_o2 {fn : Func} {p u : Tmp} (h : fn.results = #[.cell p 130, .tmp u]) (tmps : Array Value) (w : World) (g : Nat) (x y : Value)
    (hp : tmps.getD p undef = .pointer (some ⟨g, 0, none⟩)) (hg : Ord2 w g x y) :
    (results fn tmps).run Tryz.prog w = .ok (.tuple #[.agg #[x, y], tmps.getD u undef]) w := by
  have e := run_loadVar_row (P := Tryz.prog) w g 130 130 _ (0, 0) _ hg Tryz.underlying130 rfl sizeO2
  rw [results_cell_tmp h, hp]
  simp [asAddr, e]

set_option maxHeartbeats 1000000 in
theorem sgoI_no (ao : Option Addr) (n cap : Nat) (xs : List Int) (w : World) (h : Sl w ao n cap xs) (Hr : Hid (R64 xs)) (Hv : Hid (¬ SV xs)) :
    Calls Tryz.prog 106 #[.slice ao n cap] w fun e w' => e = .returned (.tuple #[.agg #[.slice none 0 0, .slice none 0 0], .bool false]) ∧ Below w.heap.size w w' := by
  go_enter Tryz.func106, Tryz.ntmps106
  go_wp2_with fail
  refine (svI_any _ _ _ xs _ (h.below (Nat.le_refl _) (by go_grown)) Hr).mono ?_
  rintro e w1 ⟨rfl, hb1⟩
  rw [decide_eq_false Hv.out]
  have h0 : Ord2 w1 w.heap.size (.slice none 0 0) (.slice none 0 0) := (Ord2.made w _ _).below (by simp) hb1
  have hb2 : Below w.heap.size w w1 := ((Below.refl w.heap.size w).alloc (Nat.le_refl _) _).trans (hb1.mono (by simp))
  have c0 := h0.cell0
  have f0 := h0.frozen 0
  have h00 := h0.set0 (.slice none 0 0)
  have c1 := h00.cell1
  have f1 := h00.frozen 1
  go_wp2
  (try simp only [Exit.inBlock, Exit.then])
  refine bodyPost_ret (results_o2 rfl _ _ w.heap.size _ _ rfl (h00.set1 _)) rfl ?_
  exact ⟨rfl, (hb2.setCell (Nat.le_refl _) _).setCell (Nat.le_refl _) _⟩

set_option maxHeartbeats 2000000 in
theorem sgoI_yes (ao : Option Addr) (n cap : Nat) (xs : List Int) (w : World) (h : Sl w ao n cap xs) (Hv : Hid (SV xs)) :
    Calls Tryz.prog 106 #[.slice ao n cap] w fun e w' => ∃ u, e = .returned (.tuple #[.agg #[u, .slice ao n cap], .bool true]) ∧ Own w' w.heap.size u (stL xs) ∧ Below w.heap.size w w' := by
  have hbig := h.big
  have hlen := hid h.len
  have h5 : n ≤ 5 := by have := Hv.out.len; rw [hlen.out] at this; exact this
  go_enter Tryz.func106, Tryz.ntmps106
  go_wp2_with fail
  refine (svI_any _ _ _ xs _ (h.below (Nat.le_refl _) (by go_grown)) (hid Hv.out.r64)).mono ?_
  rintro e w1 ⟨rfl, hb1⟩
  rw [decide_eq_true Hv.out]
  have h0 : Ord2 w1 w.heap.size (.slice none 0 0) (.slice none 0 0) := (Ord2.made w _ _).below (by simp) hb1
  have hb2 : Below w.heap.size w w1 := ((Below.refl w.heap.size w).alloc (Nat.le_refl _) _).trans (hb1.mono (by simp))
  have hlt1 := h0.lt
  clear hb1
  go_wp2_with (at_make; refine make_intsT 128 Tryz.underlying128 _ rfl _ _ rfl _ _ n rfl rfl rfl rfl (by omega) ?_)
  intro w2 ho2 hb3
  have h02 := h0.keep hb3
  have hsz2 : w1.heap.size < w2.heap.size := ho2.lt.2
  have hb4 := hb2.trans (hb3.mono hb2.size)
  have hp3 : Ord2 (w2.alloc (.cells #[.slice (some ⟨w1.heap.size, 0, none⟩) n n, .slice ao n cap] 130)) w2.heap.size (.slice (some ⟨w1.heap.size, 0, none⟩) n n) (.slice ao n cap) := Ord2.made w2 _ _
  have h03 : Ord2 (w2.alloc (.cells #[.slice (some ⟨w1.heap.size, 0, none⟩) n n, .slice ao n cap] 130)) w.heap.size (.slice none 0 0) (.slice none 0 0) := h02.keep ((Below.refl _ _).alloc (Nat.le_refl _) _)
  have hb5 : Below w.heap.size w (w2.alloc (.cells #[.slice (some ⟨w1.heap.size, 0, none⟩) n n, .slice ao n cap] 130)) := hb4.alloc (by omega) _
  have ho3 : OwS (w2.alloc (.cells #[.slice (some ⟨w1.heap.size, 0, none⟩) n n, .slice ao n cap] 130)) w1.heap.size w1.heap.size n n (List.replicate n 0) := by
    have hx : Below w2.heap.size w2 (w2.alloc (.cells #[.slice (some ⟨w1.heap.size, 0, none⟩) n n, .slice ao n cap] 130)) := (Below.refl _ _).alloc (Nat.le_refl _) _
    have := Own.below ho2.own (Nat.le_refl _) hx
    have hl := ho2.len
    unfold Own at this
    rw [hl] at this
    exact this
  have hsub5 : w2.heap.size ≤ (w2.alloc (.cells #[.slice (some ⟨w1.heap.size, 0, none⟩) n n, .slice ao n cap] 130)).heap.size := by simp
  go_wp2
  clear h02 hb3 ho2 hb4 hsub5
  go_loopw [20] (fun i wr => ∃ (k : Nat) (zs : List Int), k ≤ n ∧ i = .int .i64 k ∧ Below w.heap.size w wr ∧ OwS wr w1.heap.size w1.heap.size n n zs ∧ Ord2 wr w2.heap.size (.slice (some ⟨w1.heap.size, 0, none⟩) n n) (.slice ao n cap) ∧ Ord2 wr w.heap.size (.slice none 0 0) (.slice none 0 0) ∧ Hid (∀ j, j < k → el zs j = cntP (ltF xs j) n) ∧ Hid (∀ j, k ≤ j → j < n → el zs j = 0))
    (fun i _ => n - (intOf i).toNat)
  case atStart => exact ⟨0, _, Nat.zero_le _, rfl, hb5, ho3, hp3, h03, fun j hj => by omega, fun j _ hj => by simp [el, hj]⟩
  case round =>
    obtain ⟨k, zs, hk, rfl, hbr, hr, hp, hz, hz1, hz2⟩ := hrel
    by_cases hlt : k < n
    · obtain ⟨b, off, rfl, hblt, hc⟩ := h.row (by omega)
      have hcell := (hbr.cell (p := ⟨b, off + k, none⟩) hblt).trans (hc k hlt)
      have hcc := hid hc
      clear hc
      have hki : (k : Int) < n := by omega
      go_wp2
      obtain ⟨wo, hwo⟩ : ∃ wo : World, wo = wr := ⟨_, rfl⟩
      subst hwo
      go_loopw [27] (fun j wr => ∃ (t : Nat) (zs : List Int), t ≤ n ∧ j = .int .i64 t ∧ Below w.heap.size w wr ∧ OwS wr w1.heap.size w1.heap.size n n zs ∧ Ord2 wr w2.heap.size (.slice (some ⟨w1.heap.size, 0, none⟩) n n) (.slice (some ⟨b, off, none⟩) n cap) ∧ Ord2 wr w.heap.size (.slice none 0 0) (.slice none 0 0) ∧ Hid (∀ j, j < k → el zs j = cntP (ltF xs j) n) ∧ Hid (∀ j, k < j → j < n → el zs j = 0) ∧ Hid (el zs k = cntP (ltF xs k) t))
        (fun j _ => n - (intOf j).toNat)
      case atStart => exact ⟨0, zs, Nat.zero_le _, rfl, hbr, hr, hp, hz, hz1, fun j hj hjn => hz2.out j (by omega) hjn, hid (hz2.out k (Nat.le_refl _) hlt)⟩
      case round =>
        obtain ⟨t, zs, ht, rfl, hbr, hr, hp, hz, hz1, hz2, hzk⟩ := hrel
        have hzl := hid hr.len
        by_cases htl : t < n
        · have hcell1 := (hbr.cell (p := ⟨b, off + t, none⟩) hblt).trans (hcc.out t htl)
          have hti : (t : Int) < n := by omega
          have hfr := hr.frozen k
          have hcur := hr.cell hlt
          have hbd := cntP_bd (ltF xs k) t
          rw [← hzk.out] at hbd
          have hbd1 := hbd.1
          have hbd2 : el zs k ≤ 7 := by have := hbd.2; omega
          have hfld := hp.cell0
          have hne1 : w1.heap.size ≠ w2.heap.size := by omega
          have hne2 : w1.heap.size ≠ w.heap.size := by omega
          have hb1s : w.heap.size ≤ w1.heap.size := by omega
          clear hbd
          by_cases he : el xs t < el xs k
          · have hset : Hid (el (zs.set k (el zs k + 1)) k = cntP (ltF xs k) (t + 1)) := hid (by rw [el_set_same (by rw [hzl.out]; exact hlt), cntP_yes (by simp [ltF, he]), hzk.out])
            go_wp2
            go_roundw
            case rel => exact ⟨t + 1, zs.set k (el zs k + 1), by omega, by go_num, hbr.setCell hb1s _, hr.set _ _, hp.other hne1 _, hz.other hne2 _, fun j hj => by rw [el_set_ne (by omega)]; exact hz1.out j hj, fun j hj hjn => by rw [el_set_ne (by omega)]; exact hz2.out j hj hjn, hset⟩
            case measure => simp [intOf]; omega
          · have hkeep : Hid (el zs k = cntP (ltF xs k) (t + 1)) := hid (by rw [cntP_no (by simp [ltF]; omega)]; exact hzk.out)
            have he' : el xs k ≤ el xs t := by omega
            go_wp2
            go_roundw
            case rel => exact ⟨t + 1, zs, by omega, by go_num, hbr, hr, hp, hz, hz1, hz2, hkeep⟩
            case measure => simp [intOf]; omega
        · obtain rfl : t = n := by omega
          go_wp2
          go_roundw
          case rel => exact ⟨k + 1, zs, by omega, by go_num, hbr, hr, hp, hz, upto_step hz1.out hzk.out, fun j hj hjn => hz2.out j (by omega) hjn⟩
          case measure => simp [intOf]; omega
    · obtain rfl : k = n := by omega
      have e : zs = stL xs := ext_el (by rw [hr.len, stL, map_range_len, hlen.out]) (fun j hj => by rw [hr.len] at hj; rw [hz1.out j hj, stL, el_map (by rw [hlen.out]; exact hj), hlen.out])
      have He := hid e
      clear e
      have c0 := hz.cell0
      have f0 := hz.frozen 0
      have h00 := hz.set0 (.slice (some ⟨w1.heap.size, 0, none⟩) k k)
      have c1 := h00.cell1
      have f1 := h00.frozen 1
      have hu := hp.cell0
      have hv2 := hp.cell1
      go_wp2
      (try simp only [Exit.inBlock, Exit.then])
      refine bodyPost_ret (results_o2 rfl _ _ w.heap.size _ _ rfl (h00.set1 _)) rfl ?_
      refine ⟨_, rfl, ?_, (hbr.setCell (Nat.le_refl _) _).setCell (Nat.le_refl _) _⟩
      rw [← He.out]
      exact (((hr.other (a := ⟨w.heap.size, 0, none⟩) (by show w.heap.size ≠ w1.heap.size; omega) _).other (a := ⟨w.heap.size, 1, none⟩) (by show w.heap.size ≠ w1.heap.size; omega) _).own).mono (by omega)

end Go.Proofs.YtaceiebmgnhdgaaGreatDoor
