/- All answers of the desk, in the model and in the program. Conditions: the list of lines can be read, each line has at most 2^20 bytes; the program's and the library's variables hold what their initialisers lay. -/
import Derived.Test.YtaceiebmgnhdgaaGreatDoorDkx
import Derived.Test.YtaceiebmgnhdgaaGreatDoorDkB
namespace Go.Proofs.YtaceiebmgnhdgaaGreatDoor
open Go.RowKit

theorem son_size (xs : List Int) : (strOfNums xs).size = xs.length := by simp [strOfNums, ByteArray.size]
theorem dgs_len (xs : List Int) : (dgs xs).length = xs.length := by simp [dgs]
theorem ansKM_size (k m : Nat) (xs : List Int) : (ansKM k m xs).size ≤ 30 := by
  have hw : bWrong.size = 5 := rfl
  have hh : bWhat.size = 4 := rfl
  unfold ansKM
  split
  · rename_i hk
    split
    · rename_i hv
      obtain ⟨x, hx⟩ := Int.eq_ofNat_of_zero_le (valN_bd hv hk).1
      have := itoa_len (x := x) (by have := (valN_bd hv hk).2; omega)
      rw [BA_size, hx]; omega
    · omega
  · split
    · split
      · rename_i hv
        have h1 := lsP_eq (table xs) (table xs).length (Nat.le_refl _)
        rw [List.take_length] at h1
        have h2 := lsP_len (table xs) (table_100 hv) (table xs).length (Nat.le_refl _)
        rw [BA_size, ← h1]
        have := hv.len
        rw [table_len] at h2 ⊢
        omega
      · omega
    · split
      · split
        · rename_i hv
          have := (foat_perm xs).length_eq
          have := hv.len
          rw [son_size, dgs_len]; omega
        · omega
      · split
        · split
          · rename_i hv
            have := (lb_facts hv).2.1
            have := hv.len
            rw [son_size, dgs_len]; omega
          · omega
        · split
          · split
            · rename_i hv
              have hb := (sv_nums (okX_sv hv)).1
              obtain ⟨x, hx⟩ := Int.eq_ofNat_of_zero_le hb.1
              have := itoa_len (x := x) (by omega)
              rw [BA_size, hx]; omega
            · omega
          · split
            · split
              · rename_i hv
                have hb := (sv_nums (okX_sv hv)).2
                obtain ⟨x, hx⟩ := Int.eq_ofNat_of_zero_le hb.1
                have := itoa_len (x := x) (by omega)
                rw [BA_size, hx]; omega
              · omega
            · omega
theorem ansL_size (s : ByteArray) : (ansL s).size ≤ 30 := by
  unfold ansL ansP
  split
  · exact ansKM_size _ _ _
  · decide
theorem dskL_succ {ss : List ByteArray} {k : Nat} (h : k < ss.length) : dskL (ss.take (k + 1)) = dskL (ss.take k) ++ ((ansL (elt ss k)).data.toList ++ [10]) := by
  have e : ss.take (k + 1) = ss.take k ++ [ss[k]] := by rw [List.take_add_one, List.getElem?_eq_getElem h]; rfl
  rw [dskL, e, List.flatMap_append, elt_lt h]
  simp [dskL]
theorem dskL_len : ∀ ss : List ByteArray, (dskL ss).length ≤ 31 * ss.length
  | [] => Nat.le_refl _
  | s :: ss => by
    have h1 := dskL_len ss
    have h2 := ansL_size s
    have e : (ansL s).data.toList.length = (ansL s).size := by rw [Array.length_toList]; rfl
    have e2 : dskL (s :: ss) = ((ansL s).data.toList ++ [10]) ++ dskL ss := rfl
    rw [e2, List.length_append, List.length_append, List.length_cons]
    simp only [List.length_cons, List.length_nil]
    omega

set_option maxHeartbeats 2000000 in
theorem dskS_any (ao : Option Addr) (n cap : Nat) (ss : List ByteArray) (w : World) (h : SlT w ao n cap ss) (hz : Hid (∀ j, j < n → (elt ss j).size ≤ 1048576)) :
    Calls Tryz.prog 7 #[.slice ao n cap] w (Says w (.string (dsk ss))) := by
  have hlen := hid h.len
  have hbig := h.big
  by_cases h20 : n ≤ 20
  · have hD : Hid (dsk ss = BA (dskL ss)) := hid (if_pos (by rw [hlen.out]; exact h20))
    have hni : ¬ (20 : Int) < (n : Int) := by omega
    have h20i : (n : Int) ≤ 20 := by omega
    go_enter Tryz.func7, Tryz.ntmps7
    go_wp2
    go_loopw [3, 4] (fun v i wr => ∃ (k : Nat) (s : ByteArray), k ≤ n ∧ v = .string s ∧ i = .int .i64 k ∧ Below w.heap.size w wr ∧ Hid (s = BA (dskL (ss.take k))) ∧ s.size ≤ 31 * k)
      (fun _ i _ => n - (intOf i).toNat)
    case atStart => exact ⟨0, _, Nat.zero_le _, rfl, rfl, Below.refl _ _, hid rfl, Nat.zero_le _⟩
    case round =>
      obtain ⟨k, s, hk, rfl, rfl, hbr, hS, hs10⟩ := hrel
      have hsz : (s.size : Int) ≤ 1000 := by omega
      by_cases hlt : k < n
      · have hki : (k : Int) < n := by omega
        obtain ⟨b, off, rfl, hblt, hc⟩ := h.row (by omega)
        have hcell := (hbr.cell (p := ⟨b, off + k, none⟩) hblt).trans (hc k hlt)
        have hkx : k < ss.length := by rw [hlen.out]; exact hlt
        have hzk := hz.out k hlt
        have Hs := hid (dskL_succ hkx)
        obtain ⟨l, hl⟩ : ∃ l, l = elt ss k := ⟨_, rfl⟩
        rw [← hl] at hcell hzk Hs
        have hal := ansL_size l
        have cA := fun w => ansS_any l w hzk
        obtain ⟨t, ht⟩ : ∃ t, t = ansL l := ⟨_, rfl⟩
        rw [← ht] at cA hal Hs
        have hali : (t.size : Int) ≤ 30 := by omega
        clear hl ht hc
        go_wp2_with fail
        refine (cA _).mono ?_
        rintro e w2 ⟨rfl, hb2⟩
        have hbr2 := hbr.trans (hb2.mono hbr.size)
        go_wp2
        go_roundw
        case rel =>
          refine ⟨k + 1, _, by omega, rfl, by go_num, hbr2, hid ?_, ?_⟩
          · rw [Hs.out, hS.out, show (⟨#[10]⟩ : ByteArray) = BA [10] from rfl, ← BA_of t, BA_app, BA_app, BA_list, List.append_assoc]
          · rw [ByteArray.size_append, ByteArray.size_append]
            have : (⟨#[10]⟩ : ByteArray).size = 1 := rfl
            omega
        case measure => simp [intOf]; omega
      · obtain rfl : k = n := by omega
        go_wp2
        go_ret
        exact says_str (by rw [hS.out, hD.out, ← hlen.out, List.take_length]) hbr
  · have hD : Hid (dsk ss = ⟨#[]⟩) := hid (if_neg (by rw [hlen.out]; exact h20))
    have hni : (20 : Int) < (n : Int) := by omega
    go_enter Tryz.func7, Tryz.ntmps7
    go_wp2
    go_ret
    exact says_str hD.out.symm (Below.refl _ _)

/-- A builder is as it was where nothing below has changed. -/
theorem bld_below {T e : TypeId} {B b : Nat} {bs : List Value} {w w' : World} (h : Lib.IsBuilder T e B b bs w) (hb : Below w.heap.size w w') : Lib.IsBuilder T e B b bs w' := by
  have go : ∀ p, Lib.BuilderAt T e B b p bs w → Lib.BuilderAt T e B b p bs w' := fun p h => by
    have hlt := h.lt
    obtain ⟨hB, v, hbk, ho, hne⟩ := h
    have hg : w.grownBy w' none := ⟨hb.os, hb.tape, hb.output, hb.size, fun j hj _ => hb.block j hj⟩
    exact ⟨hB, v, (hb.block b hlt).trans hbk, ho.kept hg (by cases hv : v.ownBlock <;> simp), hne⟩
  rcases h with h | h
  · exact Or.inl (go _ h)
  · exact Or.inr (go _ h)

/-- append(buf, c), buf the call's own. -/
theorem app_byte1 (w : World) (c : Int) {ops : Array Oper} {rest : List Oper} {o : Oper} {a : Act} {Q : Exit → Act → World → Prop}
    (hg : o.guard = none) (s x : Operand) (hop : o.op = Op.call { callee := Callee.builtin Builtin.append, args := #[s, x], argTypes := #[22, 22] })
    (B : Nat) (u : Value) (bs : List Value) (hs : a.eval s = u) (hown : w.ownsRow B 5 1 u bs.length bs) (hx : a.eval x = .slice (some ⟨w.heap.size, 0, none⟩) 1 1) (hlen : bs.length ≤ 2000000) (hB : B ≤ w.heap.size)
    (hK : ∀ u' w', w'.ownsRow B 5 1 u' (bs.length + 1) (bs ++ [.int .u8 c]) → w.grownBy w' u.ownBlock → wpList Tryz.prog ops Q rest (a.put o.dst u') w') :
    wpList Tryz.prog ops Q (o :: rest) a (w.alloc (.cells #[.int .u8 c] 5)) := by
  obtain ⟨i0, hi, hz0, hz1, hz2⟩ := info_parts Tryz.Builder_Extra_169.infoByte
  refine wpList_plain hg fun _ hK' => wp_app2 (P := Tryz.prog) _ s x 22 hop B 5 i0 (.int .u8 0) Tryz.underlying22 hi hz0 hz1 (by rw [hz2]; decide) rfl u bs.length _ hs (World.ownsRow.alloc hown _) ⟨w.heap.size, 0, none⟩ 1 (.int .u8 c) hx ?_ rfl hlen ?_ ?_
  · simp
  · simp; omega
  · intro v' w' hown' hgrow _
    exact hK' _ _ (hK v' w' hown' (grown_trans (World.grownBy_alloc w _ _) hgrow))

set_option maxHeartbeats 2000000 in
set_option maxRecDepth 100000 in
theorem wbt_any (B b : Nat) (bs : List Value) (c : Int) (w : World) (h : Lib.IsBuilder 43 5 B b bs w) (hlen : bs.length ≤ 2000000) (hBw : B ≤ w.heap.size) :
    Calls Tryz.prog 23 #[.pointer (some ⟨b, 0, none⟩), .int .u8 c] w fun e w' => e = .returned .nilIface ∧ (Lib.BuilderAt 43 5 B b (.pointer (some ⟨b, 0, none⟩)) (bs ++ [.int .u8 c]) w' ∧ Below B w w') := by
  go_enter Tryz.func23, Tryz.ntmps23
  go_wp2_with fail
  refine (cpk_any B b bs _ h).mono ?_
  rintro e w1 ⟨rfl, h1, hb1⟩
  obtain ⟨hB, v, hbk, hown, hne⟩ := h1
  have c0 : w1.cell? ⟨b, 0, none⟩ = some (.pointer (some ⟨b, 0, none⟩)) := by rw [Lib.cell_of_heap hbk]; rfl
  have c1 : w1.cell? ⟨b, 1, none⟩ = some v := by rw [Lib.cell_of_heap hbk]; rfl
  go_wp2_with (at_builtin; refine app_byte1 _ c rfl _ _ rfl B v bs rfl hown rfl hlen (by have := hb1.size; omega) ?_)
  intro v' w2 hown' hgrow
  have hlt : b < w1.heap.size := by
    rcases Nat.lt_or_ge b w1.heap.size with h' | h'
    · exact h'
    · simp [Array.getElem?_eq_none h'] at hbk
  have hb2 : w2.heap[b]? = some (.cells #[.pointer (some ⟨b, 0, none⟩), v] 43 (0, 0)) := by
    rw [hgrow.block b hlt (fun e => hne e.symm)]
    exact hbk
  have d0 : w2.cell? ⟨b, 0, none⟩ = some (.pointer (some ⟨b, 0, none⟩)) := by rw [Lib.cell_of_heap hb2]; rfl
  have d1 : w2.cell? ⟨b, 1, none⟩ = some v := by rw [Lib.cell_of_heap hb2]; rfl
  have f1 : w2.frozen? ⟨b, 1, none⟩ = false := Lib.frozen_of_heap hb2 1
  obtain ⟨ao, n', cap, rfl⟩ : ∃ ao n' cap, v' = .slice ao n' cap := by
    rcases hown'.2 with ⟨hv, _⟩ | ⟨g, cap, cur, hv, _⟩
    · exact ⟨_, _, _, hv⟩
    · exact ⟨_, _, _, hv⟩
  go_wp2
  go_ret
  refine ⟨rfl, ?_, ?_⟩
  · exact Lib.BuilderAt.put (T := 43) (e := 5) hB hb2 (bs' := bs ++ [.int .u8 c]) (by simpa using hown') Tryz.Builder_Extra_169.neB5
  · exact (hb1.grown hgrow (by have := hb1.size; omega) (fun k hk => (hown.lt k hk).1)).setCell (p := ⟨b, 1, none⟩) hB _

set_option maxHeartbeats 4000000 in
theorem dskI_any (ao : Option Addr) (n cap : Nat) (ss : List ByteArray) (w : World) (h : SlT w ao n cap ss) (hz : Hid (∀ j, j < n → (elt ss j).size ≤ 1048576)) (hg : Glb w) :
    Calls Tryz.prog 6 #[.slice ao n cap] w (Says w (.string (dsk ss))) := by
  have hlen := hid h.len
  have hbig := h.big
  by_cases h20 : n ≤ 20
  · have hD : Hid (dsk ss = BA (dskL ss)) := hid (if_pos (by rw [hlen.out]; exact h20))
    have hni : ¬ (20 : Int) < (n : Int) := by omega
    have h20i : (n : Int) ≤ 20 := by omega
    have HG := hid hg
    clear hg
    go_enter Tryz.func6, Tryz.ntmps6
    go_wp2
    go_loopw [11] (fun i wr => ∃ (k : Nat), k ≤ n ∧ i = .int .i64 k ∧ Below w.heap.size w wr ∧ w.heap.size ≤ wr.heap.size ∧ Lib.IsBuilder 43 5 w.heap.size w.heap.size (Lib.byteCells (dskL (ss.take k))) wr)
      (fun i _ => n - (intOf i).toNat)
    case atStart => exact ⟨0, Nat.zero_le _, rfl, (Below.refl _ _).alloc (Nat.le_refl _) _, by simp, Lib.fresh_isBuilder _ _ _⟩
    case round =>
      obtain ⟨k, hk, rfl, hbr, hsr, hB⟩ := hrel
      by_cases hlt : k < n
      · have hki : (k : Int) < n := by omega
        obtain ⟨b, off, rfl, hblt, hc⟩ := h.row (by omega)
        have hcell := (hbr.cell (p := ⟨b, off + k, none⟩) hblt).trans (hc k hlt)
        have hkx : k < ss.length := by rw [hlen.out]; exact hlt
        have hzk := hz.out k hlt
        have Hs := hid (dskL_succ hkx)
        have hgr := HG.out.later hbr
        have hdl : (dskL (ss.take k)).length ≤ 620 := by have := dskL_len (ss.take k); rw [List.length_take] at this; omega
        obtain ⟨l, hl⟩ : ∃ l, l = elt ss k := ⟨_, rfl⟩
        rw [← hl] at hcell hzk Hs
        have hal := ansL_size l
        have cA := fun w hg => ansI_any l w hg hzk
        obtain ⟨t, ht⟩ : ∃ t, t = ansL l := ⟨_, rfl⟩
        rw [← ht] at cA hal Hs
        clear hl ht hc
        go_wp2_with fail
        refine (cA _ hgr).mono ?_
        rintro e w2 ⟨rfl, hb2⟩
        have hB2 := bld_below hB hb2
        have hbr2 := hbr.trans (hb2.mono hbr.size)
        have hsr2 := Nat.le_trans hsr hb2.size
        clear hB hcell
        go_wp2_with fail
        refine (wst_any _ _ _ t _ hB2 (by rw [Lib.byteCells_length]; omega) hsr2).mono ?_
        rintro e w3 ⟨rfl, hB3, hb3⟩
        have hl3 : (Lib.byteCells (dskL (ss.take k)) ++ Lib.strCells t).length ≤ 2000000 := by rw [List.length_append, Lib.byteCells_length, Lib.strCells_length]; omega
        have hbr3 := hbr2.trans hb3
        have hsr3 := Nat.le_trans hsr2 hb3.size
        go_wp2_with fail
        refine (wbt_any _ _ _ 10 _ (Or.inr hB3) hl3 hsr3).mono ?_
        rintro e w4 ⟨rfl, hB4, hb4⟩
        have hbr4 := hbr3.trans hb4
        have hsr4 := Nat.le_trans hsr3 hb4.size
        have e4 : Lib.byteCells (dskL (ss.take k)) ++ Lib.strCells t ++ [Value.int .u8 10] = Lib.byteCells (dskL (ss.take (k + 1))) := by
          rw [Hs.out, Lib.byteCells_append, Lib.byteCells_append, List.append_assoc]
          rfl
        rw [e4] at hB4
        clear e4 hB3 hl3
        go_wp2
        go_roundw
        case rel => exact ⟨k + 1, by omega, by go_num, hbr4, hsr4, Or.inr hB4⟩
        case measure => simp [intOf]; omega
      · obtain rfl : k = n := by omega
        go_wp2_with fail
        refine (Tryz.Builder_String_any _ _ _ _ hB hsr).mono ?_
        rintro e w2 ⟨rfl, hb2⟩
        go_wp2
        go_ret
        refine says_str ?_ (hbr.trans hb2)
        rw [hD.out, ← hlen.out, List.take_length]
        rfl
  · have hD : Hid (dsk ss = ⟨#[]⟩) := hid (if_neg (by rw [hlen.out]; exact h20))
    have hni : (20 : Int) < (n : Int) := by omega
    go_enter Tryz.func6, Tryz.ntmps6
    go_wp2
    go_ret
    exact says_str hD.out.symm (Below.refl _ _)

end Go.Proofs.YtaceiebmgnhdgaaGreatDoor
