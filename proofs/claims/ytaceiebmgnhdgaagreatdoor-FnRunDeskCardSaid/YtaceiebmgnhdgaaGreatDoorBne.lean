/- Texts of this claim put into one: Dkr, Draw, Draw2, Draw3, Draw4, DrawS, DrawG, DrawY, F72. -/
import Derived.Test.YtaceiebmgnhdgaaGreatDoorDkx
import Derived.Test.YtaceiebmgnhdgaaGreatDoorDkB
import Derived.Test.YtaceiebmgnhdgaaGreatDoorBnd
import Derived.Test.YtaceiebmgnhdgaaGreatDoorReg
import Derived.Test.YtaceiebmgnhdgaaGreatDoorText
import Derived.Test.YtaceiebmgnhdgaaGreatDoorParse
import Derived.Deep.RegionWith
import Derived.Test.YtaceiebmgnhdgaaGreatDoorSgtZ
import Derived.Test.YtaceiebmgnhdgaaGreatDoorStr
import Derived.Test.YtaceiebmgnhdgaaGreatDoorDkA
/- All answers of the desk, in the model and in the program. Conditions: the list of lines can be read, each line has at most 2^20 bytes; the program's and the library's variables hold what their initialisers lay. -/
namespace Go.Proofs.YtaceiebmgnhdgaaGreatDoor
open Go.RowKit

theorem son_size (xs : List Int) : (strOfNums xs).size = xs.length := by simp [strOfNums, ByteArray.size]
theorem dgs_len (xs : List Int) : (dgs xs).length = xs.length := by simp [dgs]
theorem ansKM_size (k m : Nat) (xs : List Int) : (ansKM k m xs).size ≤ 30 := by
  have hw : bWrong.size = 5 := rfl
  have hh : bWhat.size = 4 := rfl
  unfold ansKM
  split
  · rename_i hk
    split
    · rename_i hv
      obtain ⟨x, hx⟩ := Int.eq_ofNat_of_zero_le (valN_bd hv hk).1
      have := itoa_len (x := x) (by have := (valN_bd hv hk).2; omega)
      rw [BA_size, hx]; omega
    · omega
  · split
    · split
      · rename_i hv
        have h1 := lsP_eq (table xs) (table xs).length (Nat.le_refl _)
        rw [List.take_length] at h1
        have h2 := lsP_len (table xs) (table_100 hv) (table xs).length (Nat.le_refl _)
        rw [BA_size, ← h1]
        have := hv.len
        rw [table_len] at h2 ⊢
        omega
      · omega
    · split
      · split
        · rename_i hv
          have := (foat_perm xs).length_eq
          have := hv.len
          rw [son_size, dgs_len]; omega
        · omega
      · split
        · split
          · rename_i hv
            have := (lb_facts hv).2.1
            have := hv.len
            rw [son_size, dgs_len]; omega
          · omega
        · split
          · split
            · rename_i hv
              have hb := (sv_nums (okX_sv hv)).1
              obtain ⟨x, hx⟩ := Int.eq_ofNat_of_zero_le hb.1
              have := itoa_len (x := x) (by omega)
              rw [BA_size, hx]; omega
            · omega
          · split
            · split
              · rename_i hv
                have hb := (sv_nums (okX_sv hv)).2
                obtain ⟨x, hx⟩ := Int.eq_ofNat_of_zero_le hb.1
                have := itoa_len (x := x) (by omega)
                rw [BA_size, hx]; omega
              · omega
            · omega
theorem ansL_size (s : ByteArray) : (ansL s).size ≤ 30 := by
  unfold ansL ansP
  split
  · exact ansKM_size _ _ _
  · decide
theorem dskL_succ {ss : List ByteArray} {k : Nat} (h : k < ss.length) : dskL (ss.take (k + 1)) = dskL (ss.take k) ++ ((ansL (elt ss k)).data.toList ++ [10]) := by
  have e : ss.take (k + 1) = ss.take k ++ [ss[k]] := by rw [List.take_add_one, List.getElem?_eq_getElem h]; rfl
  rw [dskL, e, List.flatMap_append, elt_lt h]
  simp [dskL]
theorem dskL_len : ∀ ss : List ByteArray, (dskL ss).length ≤ 31 * ss.length
  | [] => Nat.le_refl _
  | s :: ss => by
    have h1 := dskL_len ss
    have h2 := ansL_size s
    have e : (ansL s).data.toList.length = (ansL s).size := by rw [Array.length_toList]; rfl
    have e2 : dskL (s :: ss) = ((ansL s).data.toList ++ [10]) ++ dskL ss := rfl
    rw [e2, List.length_append, List.length_append, List.length_cons]
    simp only [List.length_cons, List.length_nil]
    omega

set_option maxHeartbeats 2000000 in
theorem dskS_any (ao : Option Addr) (n cap : Nat) (ss : List ByteArray) (w : World) (h : SlT w ao n cap ss) (hz : Hid (∀ j, j < n → (elt ss j).size ≤ 1048576)) :
    Calls Tryz.prog 7 #[.slice ao n cap] w (Says w (.string (dsk ss))) := by
  have hlen := hid h.len
  have hbig := h.big
  by_cases h20 : n ≤ 20
  · have hD : Hid (dsk ss = BA (dskL ss)) := hid (if_pos (by rw [hlen.out]; exact h20))
    have hni : ¬ (20 : Int) < (n : Int) := by omega
    have h20i : (n : Int) ≤ 20 := by omega
    go_enter Tryz.func7, Tryz.ntmps7
    go_wp2
    go_loopw [3, 4] (fun v i wr => ∃ (k : Nat) (s : ByteArray), k ≤ n ∧ v = .string s ∧ i = .int .i64 k ∧ Below w.heap.size w wr ∧ Hid (s = BA (dskL (ss.take k))) ∧ s.size ≤ 31 * k)
      (fun _ i _ => n - (intOf i).toNat)
    case atStart => exact ⟨0, _, Nat.zero_le _, rfl, rfl, Below.refl _ _, hid rfl, Nat.zero_le _⟩
    case round =>
      obtain ⟨k, s, hk, rfl, rfl, hbr, hS, hs10⟩ := hrel
      have hsz : (s.size : Int) ≤ 1000 := by omega
      by_cases hlt : k < n
      · have hki : (k : Int) < n := by omega
        obtain ⟨b, off, rfl, hblt, hc⟩ := h.row (by omega)
        have hcell := (hbr.cell (p := ⟨b, off + k, none⟩) hblt).trans (hc k hlt)
        have hkx : k < ss.length := by rw [hlen.out]; exact hlt
        have hzk := hz.out k hlt
        have Hs := hid (dskL_succ hkx)
        obtain ⟨l, hl⟩ : ∃ l, l = elt ss k := ⟨_, rfl⟩
        rw [← hl] at hcell hzk Hs
        have hal := ansL_size l
        have cA := fun w => ansS_any l w hzk
        obtain ⟨t, ht⟩ : ∃ t, t = ansL l := ⟨_, rfl⟩
        rw [← ht] at cA hal Hs
        have hali : (t.size : Int) ≤ 30 := by omega
        clear hl ht hc
        go_wp2_with fail
        refine (cA _).mono ?_
        rintro e w2 ⟨rfl, hb2⟩
        have hbr2 := hbr.trans (hb2.mono hbr.size)
        go_wp2
        go_roundw
        case rel =>
          refine ⟨k + 1, _, by omega, rfl, by go_num, hbr2, hid ?_, ?_⟩
          · rw [Hs.out, hS.out, show (⟨#[10]⟩ : ByteArray) = BA [10] from rfl, ← BA_of t, BA_app, BA_app, BA_list, List.append_assoc]
          · rw [ByteArray.size_append, ByteArray.size_append]
            have : (⟨#[10]⟩ : ByteArray).size = 1 := rfl
            omega
        case measure => simp [intOf]; omega
      · obtain rfl : k = n := by omega
        go_wp2
        go_ret
        exact says_str (by rw [hS.out, hD.out, ← hlen.out, List.take_length]) hbr
  · have hD : Hid (dsk ss = ⟨#[]⟩) := hid (if_neg (by rw [hlen.out]; exact h20))
    have hni : (20 : Int) < (n : Int) := by omega
    go_enter Tryz.func7, Tryz.ntmps7
    go_wp2
    go_ret
    exact says_str hD.out.symm (Below.refl _ _)

/-- A builder is as it was where nothing below has changed. -/
theorem bld_below {T e : TypeId} {B b : Nat} {bs : List Value} {w w' : World} (h : Lib.IsBuilder T e B b bs w) (hb : Below w.heap.size w w') : Lib.IsBuilder T e B b bs w' := by
  have go : ∀ p, Lib.BuilderAt T e B b p bs w → Lib.BuilderAt T e B b p bs w' := fun p h => by
    have hlt := h.lt
    obtain ⟨hB, v, hbk, ho, hne⟩ := h
    have hg : w.grownBy w' none := ⟨hb.os, hb.tape, hb.output, hb.size, fun j hj _ => hb.block j hj⟩
    exact ⟨hB, v, (hb.block b hlt).trans hbk, ho.kept hg (by cases hv : v.ownBlock <;> simp), hne⟩
  rcases h with h | h
  · exact Or.inl (go _ h)
  · exact Or.inr (go _ h)

/-- append(buf, c), buf the call's own. -/
theorem app_byte1 (w : World) (c : Int) {ops : Array Oper} {rest : List Oper} {o : Oper} {a : Act} {Q : Exit → Act → World → Prop}
    (hg : o.guard = none) (s x : Operand) (hop : o.op = Op.call { callee := Callee.builtin Builtin.append, args := #[s, x], argTypes := #[22, 22] })
    (B : Nat) (u : Value) (bs : List Value) (hs : a.eval s = u) (hown : w.ownsRow B 5 1 u bs.length bs) (hx : a.eval x = .slice (some ⟨w.heap.size, 0, none⟩) 1 1) (hlen : bs.length ≤ 2000000) (hB : B ≤ w.heap.size)
    (hK : ∀ u' w', w'.ownsRow B 5 1 u' (bs.length + 1) (bs ++ [.int .u8 c]) → w.grownBy w' u.ownBlock → wpList Tryz.prog ops Q rest (a.put o.dst u') w') :
    wpList Tryz.prog ops Q (o :: rest) a (w.alloc (.cells #[.int .u8 c] 5)) := by
  obtain ⟨i0, hi, hz0, hz1, hz2⟩ := info_parts Tryz.Builder_Extra_169.infoByte
  refine wpList_plain hg fun _ hK' => wp_app2 (P := Tryz.prog) _ s x 22 hop B 5 i0 (.int .u8 0) Tryz.underlying22 hi hz0 hz1 (by rw [hz2]; decide) rfl u bs.length _ hs (World.ownsRow.alloc hown _) ⟨w.heap.size, 0, none⟩ 1 (.int .u8 c) hx ?_ rfl hlen ?_ ?_
  · simp
  · simp; omega
  · intro v' w' hown' hgrow _
    exact hK' _ _ (hK v' w' hown' (grown_trans (World.grownBy_alloc w _ _) hgrow))

set_option maxHeartbeats 2000000 in
set_option maxRecDepth 100000 in
theorem wbt_any (B b : Nat) (bs : List Value) (c : Int) (w : World) (h : Lib.IsBuilder 43 5 B b bs w) (hlen : bs.length ≤ 2000000) (hBw : B ≤ w.heap.size) :
    Calls Tryz.prog 23 #[.pointer (some ⟨b, 0, none⟩), .int .u8 c] w fun e w' => e = .returned .nilIface ∧ (Lib.BuilderAt 43 5 B b (.pointer (some ⟨b, 0, none⟩)) (bs ++ [.int .u8 c]) w' ∧ Below B w w') := by
  go_enter Tryz.func23, Tryz.ntmps23
  go_wp2_with fail
  refine (cpk_any B b bs _ h).mono ?_
  rintro e w1 ⟨rfl, h1, hb1⟩
  obtain ⟨hB, v, hbk, hown, hne⟩ := h1
  have c0 : w1.cell? ⟨b, 0, none⟩ = some (.pointer (some ⟨b, 0, none⟩)) := by rw [Lib.cell_of_heap hbk]; rfl
  have c1 : w1.cell? ⟨b, 1, none⟩ = some v := by rw [Lib.cell_of_heap hbk]; rfl
  go_wp2_with (at_builtin; refine app_byte1 _ c rfl _ _ rfl B v bs rfl hown rfl hlen (by have := hb1.size; omega) ?_)
  intro v' w2 hown' hgrow
  have hlt : b < w1.heap.size := by
    rcases Nat.lt_or_ge b w1.heap.size with h' | h'
    · exact h'
    · simp [Array.getElem?_eq_none h'] at hbk
  have hb2 : w2.heap[b]? = some (.cells #[.pointer (some ⟨b, 0, none⟩), v] 43 (0, 0)) := by
    rw [hgrow.block b hlt (fun e => hne e.symm)]
    exact hbk
  have d0 : w2.cell? ⟨b, 0, none⟩ = some (.pointer (some ⟨b, 0, none⟩)) := by rw [Lib.cell_of_heap hb2]; rfl
  have d1 : w2.cell? ⟨b, 1, none⟩ = some v := by rw [Lib.cell_of_heap hb2]; rfl
  have f1 : w2.frozen? ⟨b, 1, none⟩ = false := Lib.frozen_of_heap hb2 1
  obtain ⟨ao, n', cap, rfl⟩ : ∃ ao n' cap, v' = .slice ao n' cap := by
    rcases hown'.2 with ⟨hv, _⟩ | ⟨g, cap, cur, hv, _⟩
    · exact ⟨_, _, _, hv⟩
    · exact ⟨_, _, _, hv⟩
  go_wp2
  go_ret
  refine ⟨rfl, ?_, ?_⟩
  · exact Lib.BuilderAt.put (T := 43) (e := 5) hB hb2 (bs' := bs ++ [.int .u8 c]) (by simpa using hown') Tryz.Builder_Extra_169.neB5
  · exact (hb1.grown hgrow (by have := hb1.size; omega) (fun k hk => (hown.lt k hk).1)).setCell (p := ⟨b, 1, none⟩) hB _

set_option maxHeartbeats 4000000 in
theorem dskI_any (ao : Option Addr) (n cap : Nat) (ss : List ByteArray) (w : World) (h : SlT w ao n cap ss) (hz : Hid (∀ j, j < n → (elt ss j).size ≤ 1048576)) (hg : Glb w) :
    Calls Tryz.prog 6 #[.slice ao n cap] w (Says w (.string (dsk ss))) := by
  have hlen := hid h.len
  have hbig := h.big
  by_cases h20 : n ≤ 20
  · have hD : Hid (dsk ss = BA (dskL ss)) := hid (if_pos (by rw [hlen.out]; exact h20))
    have hni : ¬ (20 : Int) < (n : Int) := by omega
    have h20i : (n : Int) ≤ 20 := by omega
    have HG := hid hg
    clear hg
    go_enter Tryz.func6, Tryz.ntmps6
    go_wp2
    go_loopw [11] (fun i wr => ∃ (k : Nat), k ≤ n ∧ i = .int .i64 k ∧ Below w.heap.size w wr ∧ w.heap.size ≤ wr.heap.size ∧ Lib.IsBuilder 43 5 w.heap.size w.heap.size (Lib.byteCells (dskL (ss.take k))) wr)
      (fun i _ => n - (intOf i).toNat)
    case atStart => exact ⟨0, Nat.zero_le _, rfl, (Below.refl _ _).alloc (Nat.le_refl _) _, by simp, Lib.fresh_isBuilder _ _ _⟩
    case round =>
      obtain ⟨k, hk, rfl, hbr, hsr, hB⟩ := hrel
      by_cases hlt : k < n
      · have hki : (k : Int) < n := by omega
        obtain ⟨b, off, rfl, hblt, hc⟩ := h.row (by omega)
        have hcell := (hbr.cell (p := ⟨b, off + k, none⟩) hblt).trans (hc k hlt)
        have hkx : k < ss.length := by rw [hlen.out]; exact hlt
        have hzk := hz.out k hlt
        have Hs := hid (dskL_succ hkx)
        have hgr := HG.out.later hbr
        have hdl : (dskL (ss.take k)).length ≤ 620 := by have := dskL_len (ss.take k); rw [List.length_take] at this; omega
        obtain ⟨l, hl⟩ : ∃ l, l = elt ss k := ⟨_, rfl⟩
        rw [← hl] at hcell hzk Hs
        have hal := ansL_size l
        have cA := fun w hg => ansI_any l w hg hzk
        obtain ⟨t, ht⟩ : ∃ t, t = ansL l := ⟨_, rfl⟩
        rw [← ht] at cA hal Hs
        clear hl ht hc
        go_wp2_with fail
        refine (cA _ hgr).mono ?_
        rintro e w2 ⟨rfl, hb2⟩
        have hB2 := bld_below hB hb2
        have hbr2 := hbr.trans (hb2.mono hbr.size)
        have hsr2 := Nat.le_trans hsr hb2.size
        clear hB hcell
        go_wp2_with fail
        refine (wst_any _ _ _ t _ hB2 (by rw [Lib.byteCells_length]; omega) hsr2).mono ?_
        rintro e w3 ⟨rfl, hB3, hb3⟩
        have hl3 : (Lib.byteCells (dskL (ss.take k)) ++ Lib.strCells t).length ≤ 2000000 := by rw [List.length_append, Lib.byteCells_length, Lib.strCells_length]; omega
        have hbr3 := hbr2.trans hb3
        have hsr3 := Nat.le_trans hsr2 hb3.size
        go_wp2_with fail
        refine (wbt_any _ _ _ 10 _ (Or.inr hB3) hl3 hsr3).mono ?_
        rintro e w4 ⟨rfl, hB4, hb4⟩
        have hbr4 := hbr3.trans hb4
        have hsr4 := Nat.le_trans hsr3 hb4.size
        have e4 : Lib.byteCells (dskL (ss.take k)) ++ Lib.strCells t ++ [Value.int .u8 10] = Lib.byteCells (dskL (ss.take (k + 1))) := by
          rw [Hs.out, Lib.byteCells_append, Lib.byteCells_append, List.append_assoc]
          rfl
        rw [e4] at hB4
        clear e4 hB3 hl3
        go_wp2
        go_roundw
        case rel => exact ⟨k + 1, by omega, by go_num, hbr4, hsr4, Or.inr hB4⟩
        case measure => simp [intOf]; omega
      · obtain rfl : k = n := by omega
        go_wp2_with fail
        refine (Tryz.Builder_String_any _ _ _ _ hB hsr).mono ?_
        rintro e w2 ⟨rfl, hb2⟩
        go_wp2
        go_ret
        refine says_str ?_ (hbr.trans hb2)
        rw [hD.out, ← hlen.out, List.take_length]
        rfl
  · have hD : Hid (dsk ss = ⟨#[]⟩) := hid (if_neg (by rw [hlen.out]; exact h20))
    have hni : (20 : Int) < (n : Int) := by omega
    go_enter Tryz.func6, Tryz.ntmps6
    go_wp2
    go_ret
    exact says_str hD.out.symm (Below.refl _ _)

end Go.Proofs.YtaceiebmgnhdgaaGreatDoor

/- The readers by which the laws draw their inputs: whatever the bytes, each pick lies in its range, and each drawn list has few numbers. Condition: the bytes can be read. -/
namespace Go.Proofs.YtaceiebmgnhdgaaGreatDoor
open Go.RowKit

/-- A slice of bytes can be read. -/
structure Slb (w : World) (bo : Option Addr) (n cap : Nat) (cs : List Int) : Prop where
  len : cs.length = n
  le : n ≤ cap
  max : cap ≤ maxLen
  bd : ∀ j, j < n → 0 ≤ el cs j ∧ el cs j ≤ 255
  row : 0 < n → ∃ b off, bo = some ⟨b, off, none⟩ ∧ b < w.heap.size ∧ ∀ j, j < n → w.cell? ⟨b, off + j, none⟩ = some (.int .u8 (el cs j))

theorem Slb.big {w : World} {bo : Option Addr} {n cap : Nat} {cs : List Int} (h : Slb w bo n cap cs) : n ≤ 9223372036854775807 := by
  have := h.le
  have := h.max
  unfold maxLen at this
  omega

theorem Slb.below {w w' : World} {B : Nat} {bo : Option Addr} {n cap : Nat} {cs : List Int} (h : Slb w bo n cap cs) (hB : w.heap.size ≤ B) (hb : Below B w w') : Slb w' bo n cap cs := by
  refine ⟨h.len, h.le, h.max, h.bd, fun hn => ?_⟩
  obtain ⟨b, off, rfl, hlt, hc⟩ := h.row hn
  exact ⟨b, off, rfl, Nat.lt_of_lt_of_le hlt hb.size, fun j hj => (hb.cell (p := ⟨b, off + j, none⟩) (Nat.lt_of_lt_of_le hlt hB)).trans (hc j hj)⟩

theorem Slb.take {w : World} {bo : Option Addr} {n cap : Nat} {cs : List Int} (h : Slb w bo n cap cs) {m : Nat} (hm : m ≤ n) : Slb w bo m cap (cs.take m) := by
  refine ⟨by rw [List.length_take, h.len]; omega, by have := h.le; omega, h.max, fun j hj => ?_, fun hn => ?_⟩
  · have e : el (cs.take m) j = el cs j := by simp [el, hj]
    rw [e]; exact h.bd j (by omega)
  · obtain ⟨b, off, rfl, hlt, hc⟩ := h.row (by omega)
    refine ⟨b, off, rfl, hlt, fun j hj => ?_⟩
    have e : el (cs.take m) j = el cs j := by simp [el, hj]
    rw [e]; exact hc j (by omega)

/-- Block R is a reader: of these bytes, which can be read and lie below it, after q picks. -/
structure Rdr (w : World) (R : Nat) (q : Nat) : Prop where
  ex : ∃ bo n cap cs, w.heap[R]? = some (.cells #[.slice bo n cap, .int .i64 (q : Int)] 52 (0, 0)) ∧ n ≤ 2000 ∧ cs.length = n ∧ (∀ j, j < n → 0 ≤ el cs j ∧ el cs j ≤ 255) ∧
    (0 < n → ∃ b off, bo = some ⟨b, off, none⟩ ∧ b < R ∧ ∀ j, j < n → w.cell? ⟨b, off + j, none⟩ = some (.int .u8 (el cs j)))

theorem Rdr.lt {w : World} {R q : Nat} (h : Rdr w R q) : R < w.heap.size := by
  obtain ⟨bo, n, cap, cs, hh, _⟩ := h.ex
  exact (Array.getElem?_eq_some_iff.1 hh).1

/-- A reader stays a reader where it and what lies below it have not turned. -/
theorem Rdr.kept {w w' : World} {R q : Nat} (h : Rdr w R q) (hb : Below (R + 1) w w') : Rdr w' R q := by
  obtain ⟨bo, n, cap, cs, hh, h1, h2, h3, h4⟩ := h.ex
  refine ⟨bo, n, cap, cs, (hb.block R (by omega)).trans hh, h1, h2, h3, fun hn => ?_⟩
  obtain ⟨b, off, rfl, hlt, hc⟩ := h4 hn
  exact ⟨b, off, rfl, hlt, fun j hj => (hb.cell (p := ⟨b, off + j, none⟩) (by show b < R + 1; omega)).trans (hc j hj)⟩

theorem Rdr.below {w w' : World} {R q : Nat} (h : Rdr w R q) (hb : Below w.heap.size w w') : Rdr w' R q := h.kept (hb.mono h.lt)

/-- What a pick turns: the reader alone. -/
def Picked (w : World) (R q : Nat) (lo hi : Int) (e : Ending) (w' : World) : Prop := ∃ v : Int, e = .returned (.int .i64 v) ∧ lo ≤ v ∧ v ≤ hi ∧ Rdr w' R (q + 1) ∧ w.grownBy w' (some R)

set_option maxHeartbeats 400000 in
theorem newReader_any (bo : Option Addr) (n cap : Nat) (cs : List Int) (w : World) (h : Slb w bo n cap cs) :
    Calls Tryz.prog 12 #[.slice bo n cap] w fun e w' => e = .returned (.pointer (some ⟨w.heap.size, 0, none⟩)) ∧ Rdr w' w.heap.size 0 ∧ Below w.heap.size w w' := by
  have hbig := h.big
  have hcap := h.le
  have hmax : cap ≤ 9223372036854775807 := by have := h.max; unfold maxLen at this; omega
  by_cases hn : n ≤ 2000
  · go_enter Tryz.func12, Tryz.ntmps12
    go_wp2
    go_ret
    refine ⟨rfl, ⟨bo, n, cap, cs, heap_alloc_new w _, hn, h.len, h.bd, fun hn => ?_⟩, (Below.refl _ _).alloc (Nat.le_refl _) _⟩
    obtain ⟨b, off, rfl, hlt, hc⟩ := h.row hn
    exact ⟨b, off, rfl, hlt, fun j hj => (World.cell?_alloc_lt (a := ⟨b, off + j, none⟩) _ _ hlt).trans (hc j hj)⟩
  · have ht := h.take (m := 2000) (by omega)
    obtain ⟨b, off, rfl, hlt0, hc0⟩ := h.row (by omega)
    have hc2 : (2000 : Int) ≤ cap := by omega
    clear hc0
    go_enter Tryz.func12, Tryz.ntmps12
    go_wp2
    go_ret
    refine ⟨rfl, ⟨_, 2000, cap, cs.take 2000, heap_alloc_new w _, Nat.le_refl _, ht.len, ht.bd, fun hn => ?_⟩, (Below.refl _ _).alloc (Nat.le_refl _) _⟩
    obtain ⟨b, off, hbb, hlt, hc⟩ := ht.row hn
    exact ⟨b, off, hbb, hlt, fun j hj => (World.cell?_alloc_lt (a := ⟨b, off + j, none⟩) _ _ hlt).trans (hc j hj)⟩

theorem set_far {w : World} {R b o o' : Nat} {v : Value} (h : b ≠ R) : (w.setCell ⟨R, o, none⟩ v).cell? ⟨b, o', none⟩ = w.cell? ⟨b, o', none⟩ :=
  World.cell?_setCell_other _ _ _ _ (fun e => h (congrArg Addr.block e).symm)

theorem Rdr.step {w : World} {R q : Nat} (h : Rdr w R q) : Rdr (w.setCell ⟨R, 1, none⟩ (.int .i64 ((q : Int) + 1))) R (q + 1) := by
  obtain ⟨bo, n, cap, cs, hh, h1, h2, h3, h4⟩ := h.ex
  refine ⟨bo, n, cap, cs, ?_, h1, h2, h3, fun hn => ?_⟩
  · have := heap_setCell_same w R 1 _ _ (.int .i64 ((q : Int) + 1)) hh
    rw [this]; simp
  · obtain ⟨b, off, rfl, hlt, hc⟩ := h4 hn
    refine ⟨b, off, rfl, hlt, fun j hj => ?_⟩
    rw [set_far (by omega)]
    exact hc j hj

theorem Rdr.drewN {w : World} {R q : Nat} (h : Rdr w R q) (m : Nat) : Rdr (w.drewN m) R q := ⟨h.ex⟩

theorem xor_nn {a b : Int} (ha : 0 ≤ a) (ha' : a < 4611686018427387904) (hb : 0 ≤ b) (hb' : b < 4611686018427387904) : 0 ≤ bits .xor .i64 a b := by
  obtain ⟨x, rfl⟩ := Int.eq_ofNat_of_zero_le ha
  obtain ⟨y, rfl⟩ := Int.eq_ofNat_of_zero_le hb
  have hx : x ^^^ y < 2 ^ 62 := Nat.xor_lt_two_pow (by omega) (by omega)
  have h1 : (BitVec.ofInt 64 (x : Int)).toNat = x := by
    rw [BitVec.ofInt_natCast, BitVec.toNat_ofNat]; exact Nat.mod_eq_of_lt (by omega)
  have h2 : (BitVec.ofInt 64 (y : Int)).toNat = y := by
    rw [BitVec.ofInt_natCast, BitVec.toNat_ofNat]; exact Nat.mod_eq_of_lt (by omega)
  show 0 ≤ IntKind.i64.wrap ((BitVec.ofInt 64 (x : Int) ^^^ BitVec.ofInt 64 (y : Int)).toNat : Int)
  rw [BitVec.toNat_xor, h1, h2, IntKind.wrap_i64]
  omega

theorem mixed_bd {X m : Int} (h0 : 0 ≤ X) (h1 : X < 4611686018427387904) (hm : 1 ≤ m) : 0 ≤ (bits .xor .i64 X (X / 64)).tmod m ∧ (bits .xor .i64 X (X / 64)).tmod m ≤ m - 1 := by
  have hx := xor_nn h0 h1 (show 0 ≤ X / 64 by omega) (by omega)
  rw [Int.tmod_eq_emod_of_nonneg hx]
  exact ⟨Int.emod_nonneg _ (by omega), by have := Int.emod_lt_of_pos (bits .xor .i64 X (X / 64)) (show 0 < m by omega); omega⟩

theorem pick_bd {a b m : Int} {q n : Nat} (ha : 0 ≤ a) (ha' : a ≤ 255) (hb : 0 ≤ b) (hb' : b ≤ 255) (hq : q ≤ 100000) (hm : 1 ≤ m) :
    0 ≤ (bits .xor .i64 (wrap64 (a * 131 + b * 1117 + q * 29 + wrap64 (wrap64 ((q : Int) / n) * 53))) (wrap64 ((wrap64 (a * 131 + b * 1117 + q * 29 + wrap64 (wrap64 ((q : Int) / n) * 53))).tdiv 64))).tmod m ∧
    (bits .xor .i64 (wrap64 (a * 131 + b * 1117 + q * 29 + wrap64 (wrap64 ((q : Int) / n) * 53))) (wrap64 ((wrap64 (a * 131 + b * 1117 + q * 29 + wrap64 (wrap64 ((q : Int) / n) * 53))).tdiv 64))).tmod m ≤ m - 1 := by
  have z0 : 0 ≤ (q : Int) / n := Int.ediv_nonneg (by omega) (by omega)
  have z1 : (q : Int) / n ≤ q := Int.ediv_le_self _ (by omega)
  generalize (q : Int) / n = z at z0 z1
  rw [IntWalk.wrap64_in z ⟨by omega, by omega⟩, IntWalk.wrap64_in (z * 53) ⟨by omega, by omega⟩, IntWalk.wrap64_in (a * 131 + b * 1117 + q * 29 + z * 53) ⟨by omega, by omega⟩]
  have h0 : 0 ≤ a * 131 + b * 1117 + q * 29 + z * 53 := by omega
  have h1 : a * 131 + b * 1117 + q * 29 + z * 53 < 4611686018427387904 := by omega
  generalize a * 131 + b * 1117 + (q : Int) * 29 + z * 53 = X at h0 h1
  rw [Int.tdiv_eq_ediv_of_nonneg h0, IntWalk.wrap64_in (X / 64) ⟨by omega, by omega⟩]
  exact mixed_bd h0 h1 hm

set_option maxHeartbeats 1000000 in
theorem pick_any (R q : Nat) (m : Int) (w : World) (h : Rdr w R q) (hq : q ≤ 100000) (hm : m ≤ 1000000) :
    Calls Tryz.prog 17 #[.pointer (some ⟨R, 0, none⟩), .int .i64 m] w (Picked w R q 0 (max m 1 - 1)) := by
  have hst := h.step
  have hgr : w.grownBy (w.setCell ⟨R, 1, none⟩ (.int .i64 ((q : Int) + 1))) (some R) := grown_set
  obtain ⟨bo, n, cap, cs, hh, h1, h2, h3, h4⟩ := h.ex
  have c0 := cell_of_row w R 0 _ _ (0, 0) hh
  have c1 := cell_of_row w R 1 _ _ (0, 0) hh
  have f1 := frozen_of_row w R 1 _ _ hh
  simp only [List.getElem?_toArray, List.getElem?_cons_zero, List.getElem?_cons_succ] at c0 c1
  have hmin := Int.le_max_right m 1
  have Hst := hid hst
  have Hgr := hid hgr
  have H4 := hid h4
  have H3 := hid h3
  clear hst hgr h4 h3 hh h
  by_cases hm1 : m < 1
  · go_enter Tryz.func17, Tryz.ntmps17
    go_wp2
    go_ret
    exact ⟨0, rfl, Int.le_refl _, by omega, Hst.out, Hgr.out⟩
  · by_cases hn : n = 0
    · subst hn
      go_enter Tryz.func17, Tryz.ntmps17
      go_wp2
      go_ret
      exact ⟨0, rfl, Int.le_refl _, by omega, Hst.out, Hgr.out⟩
    · obtain ⟨b, off, rfl, hlt, hc⟩ := H4.out (by omega)
      have hbR : ¬ b = R := by omega
      by_cases hqn : q < n
      · have hcq := hc q hqn
        have hbd := H3.out q hqn
        have hb0 := hbd.1
        have hb1 := hbd.2
        have hcq' : (w.setCell ⟨R, 1, none⟩ (.int .i64 ((q : Int) + 1))).cell? ⟨b, off + q, none⟩ = some (.int .u8 (el cs q)) := by
          rw [set_far hbR]; exact hcq
        have hmm : max m 1 = m := by omega
        have Hmm := hid hmm
        clear hc hbd hmm
        go_enter Tryz.func17, Tryz.ntmps17
        go_wp2
        go_ret
        exact ⟨_, rfl, Int.emod_nonneg _ (by omega), by rw [Hmm.out]; have := Int.emod_lt_of_pos (el cs q) (show 0 < m by omega); omega, Hst.out, Hgr.out⟩
      · obtain ⟨i1, hi1⟩ : ∃ i1 : Nat, i1 = q % n := ⟨_, rfl⟩
        obtain ⟨i2, hi2⟩ : ∃ i2 : Nat, i2 = (q * 7 + 3) % n := ⟨_, rfl⟩
        have hl1 : i1 < n := by rw [hi1]; exact Nat.mod_lt _ (by omega)
        have hl2 : i2 < n := by rw [hi2]; exact Nat.mod_lt _ (by omega)
        have e1 : (q : Int) % n = i1 := by rw [hi1]; exact (Int.natCast_emod q n).symm
        have e2 : ((q : Int) * 7 + 3) % n = i2 := by rw [hi2]; simp
        have hw : ∀ o, (w.setCell ⟨R, 1, none⟩ (.int .i64 ((q : Int) + 1))).cell? ⟨b, o, none⟩ = w.cell? ⟨b, o, none⟩ := fun o => set_far hbR
        have k1 := (hw (off + i1)).trans (hc i1 hl1)
        have k2 := (hw (off + i2)).trans (hc i2 hl2)
        have b1 := H3.out i1 hl1
        have b2 := H3.out i2 hl2
        have b10 := b1.1
        have b11 := b1.2
        have b20 := b2.1
        have b21 := b2.2
        have hmm : max m 1 = m := by omega
        have Hmm := hid hmm
        clear hc hmm hw hi1 hi2 b1 b2
        go_enter Tryz.func17, Tryz.ntmps17
        go_wp2
        go_quiet (fail)
        go_wp2
        go_ret
        have hpb := pick_bd (n := n) b10 b11 b20 b21 hq (show 1 ≤ m by omega)
        exact ⟨_, rfl, hpb.1, by rw [Hmm.out]; exact hpb.2, Hst.out.drewN _, grown_drewN Hgr.out _⟩

end Go.Proofs.YtaceiebmgnhdgaaGreatDoor

/- More of the readers: one of a list, a value put in, orders and bent orders. Condition: the bytes can be read. -/
namespace Go.Proofs.YtaceiebmgnhdgaaGreatDoor
open Go.RowKit

theorem grown_far {w w' : World} {R b o : Nat} {v : Value} (hg : w.grownBy w' (some R)) (hb : b ≠ R) (h : w.cell? ⟨b, o, none⟩ = some v) : w'.cell? ⟨b, o, none⟩ = some v :=
  hg.cell h (fun e => hb (by simpa using e))

/-- What one of a list turns: the reader alone. -/
def Oned (w : World) (R q : Nat) (fs : List Int) (e : Ending) (w' : World) : Prop := ∃ j, j < fs.length ∧ e = .returned (.int .i64 (el fs j)) ∧ Rdr w' R (q + 1) ∧ w.grownBy w' (some R)

set_option maxHeartbeats 400000 in
theorem one_any (R q g n T : Nat) (fs : List Int) (w : World) (h : Rdr w R q) (hq : q ≤ 100000) (ha : Arr w g T fs) (hl : fs.length = n) (hn : 0 < n) (hn2 : n ≤ 1000) (hg : g ≠ R) :
    Calls Tryz.prog 13 #[.pointer (some ⟨R, 0, none⟩), .slice (some ⟨g, 0, none⟩) n n] w (Oned w R q fs) := by
  have hcell := fun j (hj : j < n) => ha.cell (j := j) (by omega)
  have Hc := hid hcell
  have Hl := hid hl
  clear hcell hl
  go_enter Tryz.func13, Tryz.ntmps13
  go_wp2_with fail
  refine (pick_any R q n w h hq (by omega)).mono ?_
  rintro e w1 ⟨v, rfl, hv0, hv1, hr, hgr⟩
  obtain ⟨j, rfl⟩ := Int.eq_ofNat_of_zero_le hv0
  have hj : j < n := by have := Int.max_eq_left (show (1 : Int) ≤ n by omega); omega
  have hc := grown_far hgr hg (Hc.out j hj)
  clear hv0 hv1
  go_wp2
  go_ret
  exact ⟨j, by rw [Hl.out]; exact hj, rfl, hr, hgr⟩

set_option maxHeartbeats 1000000 in
theorem insertAt_any (ao : Option Addr) (n cap : Nat) (xs : List Int) (x : Int) (k : Nat) (w : World) (h : Sl w ao n cap xs) (hnil : ao = none → cap = 0) (hk : k ≤ n) (hn : n ≤ 1000) :
    Calls Tryz.prog 42 #[.slice ao n cap, .int .i64 x, .int .i64 k] w (Made w (xs.take k ++ [x] ++ xs.drop k)) := by
  have hle := h.le
  have hmax : cap ≤ 9223372036854775807 := by have := h.max; unfold maxLen at this; omega
  have hlen := hid h.len
  have hkc : k ≤ cap := by omega
  go_enter Tryz.func42, Tryz.ntmps42
  go_wp2_with fail
  have hlit2 : Own (((w.alloc (.cells #[.int .i64 x] 3)).alloc (.cells #[] 3)).drew) w.heap.size (.slice (some ⟨w.heap.size + 1, 0, none⟩) 0 0) [] := by
    have := own_lit_at (w := w.alloc (.cells #[.int .i64 x] 3)) (B := w.heap.size) (by simp)
    rw [World.size_alloc] at this
    exact this.drew
  go_region_law (first
    | (refine step_app rfl (.tmp 7) (.tmp 10) rfl w (.slice (some ⟨w.heap.size, 0, none⟩) 0 0) [] rfl (by first | exact own_lit_at (Nat.le_refl _) | exact (own_lit_at (Nat.le_refl _)).alloc _) ao k cap (xs.take k) rfl (by first | exact ((h.take hk).drew).alloc _ | exact (((h.take hk).drew).alloc _).alloc _) hnil (by simp; omega) (by go_grown) ?_
       intro u1 w1 ho1 hg1 hb1
       first
         | (have hx1 := ((Sl.new (w.alloc (.cells #[] 3)) x).drew).grown hg1 (fun e => absurd (Option.some.inj e) (by simp)); simp only [World.size_alloc] at hx1)
         | skip)
    | (refine step_app rfl (.tmp 7) (.tmp 10) rfl w (.slice (some ⟨w.heap.size + 1, 0, none⟩) 0 0) [] rfl hlit2 ao k cap (xs.take k) rfl ((((h.take hk).drew).alloc _).alloc _) hnil (by simp; omega) (by go_grown) ?_
       intro u1 w1 ho1 hg1 hb1
       have hx1 := (((Sl.new w x).alloc (.cells #[] 3)).drew).grown hg1 (fun e => absurd (Option.some.inj e) (by simp)))
    | (refine step_app rfl (.tmp 11) (.tmp 13) rfl w u1 (xs.take k) rfl (by first | exact ho1 | exact ho1.alloc _) _ 1 1 [x] rfl (by first | exact Sl.new w1 x | exact hx1) (by simp) (by rw [List.length_take]; omega) (by first | exact hb1 | exact hb1.alloc hb1.size _) ?_
       intro u2 w2 ho2 hg2 hb2)
    | (refine step_app rfl (.tmp 14) (.tmp 17) rfl w u2 (xs.take k ++ [x]) rfl ho2 _ (n - k) (cap - k) (xs.drop k) rfl ((h.below (Nat.le_refl _) hb2).dropIf hk) (drop_nil hnil) (by rw [List.length_append, List.length_take, List.length_singleton]; omega) hb2 ?_
       intro u3 w3 ho3 hg3 hb3))
  all_goals go_wp2
  all_goals go_ret
  all_goals exact ⟨_, rfl, by have := ho3; rw [List.append_assoc] at this; exact this, hb3⟩

end Go.Proofs.YtaceiebmgnhdgaaGreatDoor

/- The orders and bent orders that the laws draw: whatever the bytes, a list of at most nine numbers. Condition: the bytes can be read. -/
namespace Go.Proofs.YtaceiebmgnhdgaaGreatDoor
open Go.RowKit

theorem grown_of_below {w w' : World} {row : Option Nat} (h : Below w.heap.size w w') : w.grownBy w' row := ⟨h.os, h.tape, h.output, h.size, fun k hk _ => h.block k hk⟩

theorem Own.farR {w : World} {B R : Nat} {u : Value} {ys : List Int} (h : Own w B u ys) (hR : R < B) : u.ownBlock = none ∨ u.ownBlock ≠ some R := by
  cases e : u.ownBlock with
  | none => exact Or.inl rfl
  | some k =>
    refine Or.inr (fun e2 => ?_)
    have := (h.blocks k e).1
    have := Option.some.inj e2
    omega

/-- A call that draws a list of n numbers: it makes a list and turns the reader. -/
def Drew (w : World) (R n Q : Nat) (e : Ending) (w' : World) : Prop := ∃ u ys q, e = .returned u ∧ Own w' w.heap.size u ys ∧ ys.length = n ∧ q ≤ Q ∧ Rdr w' R q ∧ w.grownBy w' (some R)

set_option maxHeartbeats 1000000 in
theorem anOrder_any (R q n : Nat) (w : World) (h : Rdr w R q) (hq : q ≤ 60000) (hn : n ≤ 8) :
    Calls Tryz.prog 26 #[.pointer (some ⟨R, 0, none⟩), .int .i64 n] w (Drew w R n (q + 8)) := by
  have hlt := h.lt
  go_enter Tryz.func26, Tryz.ntmps26
  go_wp2
  go_loopw [5, 6] (fun p x wr => ∃ (k : Nat) (ao : Option Addr) (cap : Nat) (ys : List Int), k ≤ n ∧ p = .slice ao k cap ∧ x = .int .i64 k ∧ Own wr w.heap.size (.slice ao k cap) ys ∧ Rdr wr R (q + k) ∧ w.grownBy wr (some R))
    (fun p _ _ => n - lenOf p)
  case atStart => exact ⟨0, _, _, [], Nat.zero_le _, rfl, rfl, own_lit w, h.below ((Below.refl _ _).alloc (Nat.le_refl _) _), World.grownBy_alloc w _ _⟩
  case round =>
    obtain ⟨k, ao, cap, ys, hk, rfl, rfl, ho, hr, hg⟩ := hrel
    by_cases hlt2 : k < n
    · go_wp2_with fail
      refine (pick_any R (q + k) ((k : Int) + 1) wr hr (by omega) (by omega)).mono ?_
      rintro e w1 ⟨v, rfl, hv0, hv1, hr1, hg1⟩
      obtain ⟨j, rfl⟩ := Int.eq_ofNat_of_zero_le hv0
      have hj : j ≤ k := by have := Int.max_eq_left (show (1 : Int) ≤ (k : Int) + 1 by omega); omega
      have ho1 := ho.kept hg1 (ho.farR hlt)
      have hyl := ho1.read.len
      clear hv0 hv1
      go_wp2_with fail
      refine (insertAt_any ao k cap ys k j w1 ho1.read ho1.nilcap hj (by omega)).mono ?_
      rintro e w2 ⟨u2, rfl, ho2, hb2⟩
      have hl2 : (ys.take j ++ [(k : Int)] ++ ys.drop j).length = k + 1 := by
        rw [List.length_append, List.length_append, List.length_take, List.length_drop, List.length_singleton, hyl]; omega
      have hsz : w.heap.size ≤ w1.heap.size := Nat.le_trans hg.size hg1.size
      have ho3 := ho2.mono hsz
      have hr2 := hr1.below hb2
      have hg2 := grown_trans (grown_trans hg hg1) (grown_of_below (row := some R) hb2)
      obtain ⟨ao2, cap2, rfl, -⟩ := ho3.sl
      rw [hl2] at ho3 ⊢
      clear ho2 hl2 hyl
      go_wp2
      go_roundw
      case rel => exact ⟨k + 1, _, _, _, by omega, rfl, by go_num, ho3, hr2, hg2⟩
      case measure => simp [lenOf]; omega
    · obtain rfl : k = n := by omega
      go_wp2
      go_ret
      exact ⟨_, ys, _, rfl, ho, ho.read.len, by omega, hr, hg⟩

theorem lit_arr (w : World) (fs : List Int) : Arr (w.alloc (.cells (fs.map (Value.int .i64)).toArray 3)) w.heap.size 3 fs := Arr.made w 3 fs

set_option maxHeartbeats 1000000 in
theorem goodOrder_any (R q : Nat) (w : World) (h : Rdr w R q) (hq : q ≤ 50000) :
    Calls Tryz.prog 16 #[.pointer (some ⟨R, 0, none⟩)] w fun e w' => ∃ n, n ≤ 7 ∧ Drew w R n (q + 9) e w' := by
  have hlt := h.lt
  have ha := lit_arr w [4, 5, 6, 3, 7, 2, 1, 0]
  have hr := h.below ((Below.refl w.heap.size w).alloc (Nat.le_refl _) (.cells ([4, 5, 6, 3, 7, 2, 1, 0].map (Value.int .i64)).toArray 3))
  have Ha := hid ha
  have Hr := hid hr
  clear ha hr
  go_enter Tryz.func16, Tryz.ntmps16
  go_wp2_with fail
  refine (one_any R q w.heap.size 8 3 [4, 5, 6, 3, 7, 2, 1, 0] _ Hr.out (by omega) Ha.out rfl (by omega) (by omega) (by omega)).mono ?_
  rintro e w1 ⟨j, hj, rfl, hr1, hg1⟩
  have hv : ∀ j, j < 8 → 0 ≤ el [4, 5, 6, 3, 7, 2, 1, 0] j ∧ el [4, 5, 6, 3, 7, 2, 1, 0] j ≤ 7 := by decide
  obtain ⟨n, hn⟩ := Int.eq_ofNat_of_zero_le (hv j hj).1
  have hn7 : n ≤ 7 := by have := (hv j hj).2; omega
  rw [hn]
  clear hv hn hj
  go_wp2_with fail
  refine (anOrder_any R (q + 1) n w1 hr1 (by omega) (by omega)).mono ?_
  rintro e w2 ⟨u, ys, q2, rfl, ho, hl, hq2, hr2, hg2⟩
  have hsz : w.heap.size ≤ w1.heap.size := Nat.le_trans (by simp) hg1.size
  go_wp2
  go_ret
  exact ⟨n, hn7, _, ys, q2, rfl, ho.mono hsz, hl, hq2, hr2, grown_trans (grown_trans (World.grownBy_alloc w _ _) hg1) hg2⟩

end Go.Proofs.YtaceiebmgnhdgaaGreatDoor

/- The bent orders that the laws draw, and the draws themselves: whatever the bytes, lists of at most nine numbers. Condition: the bytes can be read. -/
namespace Go.Proofs.YtaceiebmgnhdgaaGreatDoor
open Go.RowKit

/-- Below B all is as it was but for block R. -/
structure ExR (B R : Nat) (w w' : World) : Prop where
  os : w'.os = w.os
  tape : w'.tape = w.tape
  output : w'.output = w.output
  size : w.heap.size ≤ w'.heap.size
  block : ∀ k, k < B → k ≠ R → w'.heap[k]? = w.heap[k]?

theorem ExR.of_grown {B R : Nat} {w w' : World} (h : w.grownBy w' (some R)) (hB : B ≤ w.heap.size) : ExR B R w w' :=
  ⟨h.os, h.tape, h.output, h.size, fun k hk hne => h.block k (by omega) (fun e => hne (Option.some.inj e))⟩
theorem ExR.trans {B R : Nat} {a b c : World} (h : ExR B R a b) (k : ExR B R b c) : ExR B R a c :=
  ⟨k.os.trans h.os, k.tape.trans h.tape, k.output.trans h.output, Nat.le_trans h.size k.size, fun i hi hne => (k.block i hi hne).trans (h.block i hi hne)⟩
theorem ExR.of_row {B R : Nat} {w w' : World} {row : Option Nat} (h : w.grownBy w' row) (hB : B ≤ w.heap.size) (hr : ∀ k, row = some k → B ≤ k) : ExR B R w w' :=
  ⟨h.os, h.tape, h.output, h.size, fun k hk _ => h.block k (by omega) (fun e => by have := hr k e.symm; omega)⟩
theorem grown_exR {R : Nat} {w a b : World} (h : w.grownBy a (some R)) (k : ExR w.heap.size R a b) : w.grownBy b (some R) :=
  ⟨k.os.trans h.os, k.tape.trans h.tape, k.output.trans h.output, Nat.le_trans h.size k.size, fun i hi hne => (k.block i hi (fun e => hne (by rw [e]))).trans (h.block i hi hne)⟩

/-- A list was bent: it is the call's own still, and has at most one number more. -/
def Bent (w : World) (B R n Q : Nat) (e : Ending) (w' : World) : Prop := ∃ u ys q, e = .returned u ∧ Own w' B u ys ∧ ys.length ≤ n ∧ q ≤ Q ∧ Rdr w' R q ∧ ExR B R w w'

theorem Rdr.row {w w' : World} {R q : Nat} {row : Option Nat} (h : Rdr w R q) (hg : w.grownBy w' row) (hr : ∀ k, row = some k → R < k) : Rdr w' R q :=
  h.kept (below_of_grown hg h.lt (fun k hk => hr k hk))

/-- A call that draws a list of at most m numbers: it makes a list and turns the reader. -/
def DrewU (w : World) (R m Q : Nat) (e : Ending) (w' : World) : Prop := ∃ u ys q, e = .returned u ∧ Own w' w.heap.size u ys ∧ ys.length ≤ m ∧ q ≤ Q ∧ Rdr w' R q ∧ w.grownBy w' (some R)

/-- What a law's draw of one list leaves: a list of at most nine numbers; nothing that was there has turned. -/
def Drawn (w : World) (e : Ending) (w' : World) : Prop := ∃ u ys, e = .returned u ∧ Own w' w.heap.size u ys ∧ ys.length ≤ 9 ∧ Below w.heap.size w w'

theorem below_reader {w w1 w2 : World} (h : Below w.heap.size w w1) (hg : w1.grownBy w2 (some w.heap.size)) : Below w.heap.size w w2 :=
  h.grown hg h.size (fun k hk => by have := Option.some.inj hk; omega)

end Go.Proofs.YtaceiebmgnhdgaaGreatDoor

/- The texts that the laws draw: whatever the bytes, a text of at most twelve bytes. Condition: the bytes can be read. -/
namespace Go.Proofs.YtaceiebmgnhdgaaGreatDoor
open Go.RowKit

/-- A call that draws a list of n numbers, each below n: it makes a list and turns the reader. -/
def DrewV (w : World) (R n Q : Nat) (e : Ending) (w' : World) : Prop := ∃ u ys q, e = .returned u ∧ Own w' w.heap.size u ys ∧ ys.length = n ∧ q ≤ Q ∧ Rdr w' R q ∧ w.grownBy w' (some R) ∧ Hid (∀ y ∈ ys, 0 ≤ y ∧ y < n)

set_option maxHeartbeats 1000000 in
theorem anOrderV_any (R q n : Nat) (w : World) (h : Rdr w R q) (hq : q ≤ 60000) (hn : n ≤ 8) :
    Calls Tryz.prog 26 #[.pointer (some ⟨R, 0, none⟩), .int .i64 n] w (DrewV w R n (q + 8)) := by
  have hlt := h.lt
  go_enter Tryz.func26, Tryz.ntmps26
  go_wp2
  go_loopw [5, 6] (fun p x wr => ∃ (k : Nat) (ao : Option Addr) (cap : Nat) (ys : List Int), k ≤ n ∧ p = .slice ao k cap ∧ x = .int .i64 k ∧ Own wr w.heap.size (.slice ao k cap) ys ∧ Rdr wr R (q + k) ∧ w.grownBy wr (some R) ∧ Hid (∀ y ∈ ys, 0 ≤ y ∧ y < k))
    (fun p _ _ => n - lenOf p)
  case atStart => exact ⟨0, _, _, [], Nat.zero_le _, rfl, rfl, own_lit w, h.below ((Below.refl _ _).alloc (Nat.le_refl _) _), World.grownBy_alloc w _ _, fun y hy => by simp at hy⟩
  case round =>
    obtain ⟨k, ao, cap, ys, hk, rfl, rfl, ho, hr, hg, hy⟩ := hrel
    by_cases hlt2 : k < n
    · go_wp2_with fail
      refine (pick_any R (q + k) ((k : Int) + 1) wr hr (by omega) (by omega)).mono ?_
      rintro e w1 ⟨v, rfl, hv0, hv1, hr1, hg1⟩
      obtain ⟨j, rfl⟩ := Int.eq_ofNat_of_zero_le hv0
      have hj : j ≤ k := by have := Int.max_eq_left (show (1 : Int) ≤ (k : Int) + 1 by omega); omega
      have ho1 := ho.kept hg1 (ho.farR hlt)
      have hyl := ho1.read.len
      clear hv0 hv1
      go_wp2_with fail
      refine (insertAt_any ao k cap ys k j w1 ho1.read ho1.nilcap hj (by omega)).mono ?_
      rintro e w2 ⟨u2, rfl, ho2, hb2⟩
      have hl2 : (ys.take j ++ [(k : Int)] ++ ys.drop j).length = k + 1 := by
        rw [List.length_append, List.length_append, List.length_take, List.length_drop, List.length_singleton, hyl]; omega
      have hy2 : Hid (∀ y ∈ ys.take j ++ [(k : Int)] ++ ys.drop j, 0 ≤ y ∧ y < ((k + 1 : Nat) : Int)) := fun y hm => by
        rw [List.mem_append, List.mem_append, List.mem_singleton] at hm
        rcases hm with (hm | hm) | hm
        · have := hy.out y (List.mem_of_mem_take hm); omega
        · omega
        · have := hy.out y (List.mem_of_mem_drop hm); omega
      have hsz : w.heap.size ≤ w1.heap.size := Nat.le_trans hg.size hg1.size
      have ho3 := ho2.mono hsz
      have hr2 := hr1.below hb2
      have hg2 := grown_trans (grown_trans hg hg1) (grown_of_below (row := some R) hb2)
      obtain ⟨ao2, cap2, rfl, -⟩ := ho3.sl
      rw [hl2] at ho3 ⊢
      clear ho2 hl2 hyl
      go_wp2
      go_roundw
      case rel => exact ⟨k + 1, _, _, _, by omega, rfl, by go_num, ho3, hr2, hg2, hy2⟩
      case measure => simp [lenOf]; omega
    · obtain rfl : k = n := by omega
      go_wp2
      go_ret
      exact ⟨_, ys, _, rfl, ho, ho.read.len, by omega, hr, hg, hy⟩

set_option maxHeartbeats 1000000 in
theorem goodOrderV_any (R q : Nat) (w : World) (h : Rdr w R q) (hq : q ≤ 50000) :
    Calls Tryz.prog 16 #[.pointer (some ⟨R, 0, none⟩)] w fun e w' => ∃ n, n ≤ 7 ∧ DrewV w R n (q + 9) e w' := by
  have hlt := h.lt
  have ha := lit_arr w [4, 5, 6, 3, 7, 2, 1, 0]
  have hr := h.below ((Below.refl w.heap.size w).alloc (Nat.le_refl _) (.cells ([4, 5, 6, 3, 7, 2, 1, 0].map (Value.int .i64)).toArray 3))
  have Ha := hid ha
  have Hr := hid hr
  clear ha hr
  go_enter Tryz.func16, Tryz.ntmps16
  go_wp2_with fail
  refine (one_any R q w.heap.size 8 3 [4, 5, 6, 3, 7, 2, 1, 0] _ Hr.out (by omega) Ha.out rfl (by omega) (by omega) (by omega)).mono ?_
  rintro e w1 ⟨j, hj, rfl, hr1, hg1⟩
  have hv : ∀ j, j < 8 → 0 ≤ el [4, 5, 6, 3, 7, 2, 1, 0] j ∧ el [4, 5, 6, 3, 7, 2, 1, 0] j ≤ 7 := by decide
  obtain ⟨n, hn⟩ := Int.eq_ofNat_of_zero_le (hv j hj).1
  have hn7 : n ≤ 7 := by have := (hv j hj).2; omega
  rw [hn]
  clear hv hn hj
  go_wp2_with fail
  refine (anOrderV_any R (q + 1) n w1 hr1 (by omega) (by omega)).mono ?_
  rintro e w2 ⟨u, ys, q2, rfl, ho, hl, hq2, hr2, hg2, hy⟩
  have hsz : w.heap.size ≤ w1.heap.size := Nat.le_trans (by simp) hg1.size
  go_wp2
  go_ret
  exact ⟨n, hn7, _, ys, q2, rfl, ho.mono hsz, hl, hq2, hr2, grown_trans (grown_trans (World.grownBy_alloc w _ _) hg1) hg2, hy⟩

/-- Block g is an array that holds the texts ss. -/
def ArrS (w : World) (g T : Nat) (ss : List ByteArray) : Prop := w.heap[g]? = some (.cells (ss.map Value.string).toArray T (0, 0))
def els (ss : List ByteArray) (j : Nat) : ByteArray := ss.getD j ⟨#[]⟩
theorem ArrS.cell {w : World} {g T : Nat} {ss : List ByteArray} (h : ArrS w g T ss) {j : Nat} (hj : j < ss.length) : w.cell? ⟨g, j, none⟩ = some (.string (els ss j)) := by
  rw [cell_of_row w g j _ T (0, 0) h]
  simp [els, hj]
theorem ArrS.made (w : World) (T : Nat) (ss : List ByteArray) : ArrS (w.alloc (.cells (ss.map Value.string).toArray T)) w.heap.size T ss := heap_alloc_new w _

set_option maxHeartbeats 400000 in
theorem of_any (R q g n T : Nat) (ss : List ByteArray) (w : World) (h : Rdr w R q) (hq : q ≤ 100000) (ha : ArrS w g T ss) (hl : ss.length = n) (hn : 0 < n) (hn2 : n ≤ 1000) (hg : g ≠ R) :
    Calls Tryz.prog 14 #[.pointer (some ⟨R, 0, none⟩), .slice (some ⟨g, 0, none⟩) n n] w fun e w' => ∃ j, j < ss.length ∧ e = .returned (.string (els ss j)) ∧ Rdr w' R (q + 1) ∧ w.grownBy w' (some R) := by
  have hcell := fun j (hj : j < n) => ha.cell (j := j) (by omega)
  have Hc := hid hcell
  have Hl := hid hl
  clear hcell hl
  go_enter Tryz.func14, Tryz.ntmps14
  go_wp2_with fail
  refine (pick_any R q n w h hq (by omega)).mono ?_
  rintro e w1 ⟨v, rfl, hv0, hv1, hr, hgr⟩
  obtain ⟨j, rfl⟩ := Int.eq_ofNat_of_zero_le hv0
  have hj : j < n := by have := Int.max_eq_left (show (1 : Int) ≤ n by omega); omega
  have hc := grown_far hgr hg (Hc.out j hj)
  clear hv0 hv1
  go_wp2
  go_ret
  exact ⟨j, by rw [Hl.out]; exact hj, rfl, hr, hgr⟩

theorem grown_drew (w : World) (row : Option Nat) : w.grownBy w.drew row := ⟨rfl, rfl, rfl, Nat.le_refl _, fun _ _ _ => rfl⟩

/-- A text was drawn. -/
def DrewS (w : World) (R : Nat) (e : Ending) (w' : World) : Prop := ∃ t : ByteArray, e = .returned (.string t) ∧ t.size ≤ 12 ∧ w.grownBy w' (some R)
def s7 : List ByteArray := [⟨#[48]⟩, ⟨#[49]⟩, ⟨#[54]⟩, ⟨#[55]⟩, ⟨#[45]⟩, ⟨#[97]⟩, ⟨#[32]⟩]
def s5 : List ByteArray := [⟨#[48]⟩, ⟨#[49]⟩, ⟨#[32]⟩, ⟨#[45]⟩, ⟨#[57]⟩]
theorem s7_one : ∀ j, j < 7 → (els s7 j).size = 1 := by decide
theorem s5_one : ∀ j, j < 5 → (els s5 j).size = 1 := by decide

set_option maxHeartbeats 4000000 in
theorem mutate_any (R q : Nat) (s : ByteArray) (w : World) (h : Rdr w R q) (hq : q ≤ 60000) (hs : s.size ≤ 10) :
    Calls Tryz.prog 20 #[.pointer (some ⟨R, 0, none⟩), .string s] w (DrewS w R) := by
  go_enter Tryz.func20, Tryz.ntmps20
  go_wp2_with fail
  refine (pick_any R q ((s.size : Int) + 1) w h (by omega) (by omega)).mono ?_
  rintro e w1 ⟨k, rfl, hk0, hk1, hr1, hg1⟩
  have hk2 : k ≤ s.size := by have := Int.max_eq_left (show (1 : Int) ≤ (s.size : Int) + 1 by omega); omega
  obtain ⟨k, rfl⟩ := Int.eq_ofNat_of_zero_le hk0
  have hkn : k ≤ s.size := by omega
  clear hk1
  go_wp2_with fail
  refine (pick_any R (q + 1) 5 w1 hr1 (by omega) (by omega)).mono ?_
  rintro e w2 ⟨c, rfl, hc0, hc1, hr2, hg2⟩
  have hg02 := grown_trans hg1 hg2
  have hc4 : c = 0 ∨ c = 1 ∨ c = 2 ∨ c = 3 ∨ c = 4 := by omega
  clear hc0 hc1
  have hne : w2.heap.size ≠ R := by have := hr2.lt; omega
  have Ha7 : Hid (ArrS (w2.alloc (.cells (s7.map Value.string).toArray 9)).drew w2.heap.size 9 s7) := hid (ArrS.made w2 9 s7)
  have Ha5 := hid (ArrS.made w2 9 s5)
  have Hr7 : Hid (Rdr (w2.alloc (.cells (s7.map Value.string).toArray 9)).drew R (q + 2)) := hid (hr2.below (((Below.refl w2.heap.size w2).alloc (Nat.le_refl _) _).drew))
  have Hr5 : Hid (Rdr (w2.alloc (.cells (s5.map Value.string).toArray 9)) R (q + 2)) := hid (hr2.below ((Below.refl w2.heap.size w2).alloc (Nat.le_refl _) _))
  have hg07 := grown_trans hg02 (grown_trans (World.grownBy_alloc w2 (.cells (s7.map Value.string).toArray 9) (some R)) (grown_drew _ _))
  have hg05 := grown_trans hg02 (World.grownBy_alloc w2 (.cells (s5.map Value.string).toArray 9) (some R))
  rcases hc4 with rfl | rfl | rfl | rfl | rfl
  · by_cases hlt : (k : Int) < s.size
    · have hkb : (k : Int) + 1 ≤ s.size := by omega
      have hk1 : 0 ≤ (k : Int) + 1 := by omega
      have hwk : IntKind.i64.wrap ((k : Int) + 1) = (k : Int) + 1 := IntWalk.i64_in _ ⟨by omega, by omega⟩
      have hkn2 : ((k : Int) + 1).toNat = k + 1 := by omega
      go_wp2_with fail
      go_region_with (go_at_call 14; refine (of_any R (q + 2) w2.heap.size 7 9 s7 _ Hr7.out (by omega) Ha7.out rfl (by omega) (by omega) hne).mono ?_; rintro e w3 ⟨j, hj, rfl, hr3, hg3⟩; obtain ⟨t1, ht1⟩ : ∃ t1, t1 = els s7 j := ⟨_, rfl⟩; have hone : t1.size = 1 := (by rw [ht1]; exact s7_one j hj); rw [← ht1]; clear ht1 hj)
      all_goals go_wp2
      all_goals go_ret
      all_goals exact ⟨_, rfl, by simp [ByteArray.size_extract, ByteArray.size_append]; omega, grown_trans hg07 hg3⟩
    · go_wp2
      go_ret
      exact ⟨_, rfl, by omega, hg02⟩
  · by_cases hlt : (k : Int) < s.size
    · have hkb : (k : Int) + 1 ≤ s.size := by omega
      have hk1 : 0 ≤ (k : Int) + 1 := by omega
      have hwk : IntKind.i64.wrap ((k : Int) + 1) = (k : Int) + 1 := IntWalk.i64_in _ ⟨by omega, by omega⟩
      have hkn2 : ((k : Int) + 1).toNat = k + 1 := by omega
      go_wp2_with fail
      go_region_with (go_at_call 14; refine (of_any R (q + 2) w2.heap.size 7 9 s7 _ Hr7.out (by omega) Ha7.out rfl (by omega) (by omega) hne).mono ?_; rintro e w3 ⟨j, hj, rfl, hr3, hg3⟩; obtain ⟨t1, ht1⟩ : ∃ t1, t1 = els s7 j := ⟨_, rfl⟩; have hone : t1.size = 1 := (by rw [ht1]; exact s7_one j hj); rw [← ht1]; clear ht1 hj)
      all_goals go_wp2
      all_goals go_ret
      all_goals exact ⟨_, rfl, by simp [ByteArray.size_extract, ByteArray.size_append]; omega, grown_trans hg07 hg3⟩
    · go_wp2
      go_ret
      exact ⟨_, rfl, by omega, hg02⟩
  · go_wp2
    go_ret
    exact ⟨_, rfl, by simp [ByteArray.size_extract]; omega, hg02⟩
  · go_wp2_with fail
    refine (of_any R (q + 2) w2.heap.size 5 9 s5 _ Hr5.out (by omega) Ha5.out rfl (by omega) (by omega) hne).mono ?_
    rintro e w3 ⟨j, hj, rfl, hr3, hg3⟩
    obtain ⟨t1, ht1⟩ : ∃ t1, t1 = els s5 j := ⟨_, rfl⟩
    have hone : t1.size = 1 := by rw [ht1]; exact s5_one j hj
    rw [← ht1]
    clear ht1 hj
    go_wp2
    go_ret
    exact ⟨_, rfl, by simp [ByteArray.size_append]; omega, grown_trans hg05 hg3⟩
  · go_wp2
    go_ret
    exact ⟨_, rfl, by omega, hg02⟩

end Go.Proofs.YtaceiebmgnhdgaaGreatDoor

/- The signed orders that the laws draw: whatever the bytes, a list of few numbers of 64 bits. Condition: the bytes can be read. -/
namespace Go.Proofs.YtaceiebmgnhdgaaGreatDoor
open Go.RowKit

/-- A call that draws a list of n numbers, each below n: it makes a list and turns the reader. -/
def DrewO (w : World) (R n Q : Nat) (e : Ending) (w' : World) : Prop := ∃ u ys q, e = .returned u ∧ Own w' w.heap.size u ys ∧ ys.length = n ∧ q ≤ Q ∧ Rdr w' R q ∧ w.grownBy w' (some R) ∧ Hid (∀ y ∈ ys, 0 ≤ y ∧ y < n)
/-- A call that draws numbers of 64 bits, at most six: it makes a list and turns the reader. -/
def DrewG (w : World) (R L Q : Nat) (e : Ending) (w' : World) : Prop := ∃ u ys q, e = .returned u ∧ Own w' w.heap.size u ys ∧ ys.length ≤ L ∧ q ≤ Q ∧ Rdr w' R q ∧ w.grownBy w' (some R) ∧ Hid (R64 ys)
/-- What a law's draw of numbers leaves: a list of at most twenty numbers of 64 bits; nothing that was there has turned. -/
def DrawnG (w : World) (e : Ending) (w' : World) : Prop := ∃ u ys, e = .returned u ∧ Own w' w.heap.size u ys ∧ Hid (R64 ys) ∧ ys.length ≤ 20 ∧ Below w.heap.size w w'
theorem Own.ows {w : World} {B g n cap : Nat} {ys : List Int} (h : Own w B (.slice (some ⟨g, 0, none⟩) n cap) ys) (hl : ys.length = n) : OwS w B g n cap ys := by
  subst hl
  exact h

set_option maxHeartbeats 1000000 in
theorem anOrderG_any (R q n : Nat) (w : World) (h : Rdr w R q) (hq : q ≤ 60000) (hn : n ≤ 8) :
    Calls Tryz.prog 26 #[.pointer (some ⟨R, 0, none⟩), .int .i64 n] w (DrewO w R n (q + 8)) := by
  have hlt := h.lt
  go_enter Tryz.func26, Tryz.ntmps26
  go_wp2
  go_loopw [5, 6] (fun p x wr => ∃ (k : Nat) (ao : Option Addr) (cap : Nat) (ys : List Int), k ≤ n ∧ p = .slice ao k cap ∧ x = .int .i64 k ∧ Own wr w.heap.size (.slice ao k cap) ys ∧ Rdr wr R (q + k) ∧ w.grownBy wr (some R) ∧ Hid (∀ y ∈ ys, 0 ≤ y ∧ y < k))
    (fun p _ _ => n - lenOf p)
  case atStart => exact ⟨0, _, _, [], Nat.zero_le _, rfl, rfl, own_lit w, h.below ((Below.refl _ _).alloc (Nat.le_refl _) _), World.grownBy_alloc w _ _, fun y hy => by simp at hy⟩
  case round =>
    obtain ⟨k, ao, cap, ys, hk, rfl, rfl, ho, hr, hg, hy⟩ := hrel
    by_cases hlt2 : k < n
    · go_wp2_with fail
      refine (pick_any R (q + k) ((k : Int) + 1) wr hr (by omega) (by omega)).mono ?_
      rintro e w1 ⟨v, rfl, hv0, hv1, hr1, hg1⟩
      obtain ⟨j, rfl⟩ := Int.eq_ofNat_of_zero_le hv0
      have hj : j ≤ k := by have := Int.max_eq_left (show (1 : Int) ≤ (k : Int) + 1 by omega); omega
      have ho1 := ho.kept hg1 (ho.farR hlt)
      have hyl := ho1.read.len
      clear hv0 hv1
      go_wp2_with fail
      refine (insertAt_any ao k cap ys k j w1 ho1.read ho1.nilcap hj (by omega)).mono ?_
      rintro e w2 ⟨u2, rfl, ho2, hb2⟩
      have hl2 : (ys.take j ++ [(k : Int)] ++ ys.drop j).length = k + 1 := by
        rw [List.length_append, List.length_append, List.length_take, List.length_drop, List.length_singleton, hyl]; omega
      have hy2 : Hid (∀ y ∈ ys.take j ++ [(k : Int)] ++ ys.drop j, 0 ≤ y ∧ y < ((k + 1 : Nat) : Int)) := fun y hm => by
        rw [List.mem_append, List.mem_append, List.mem_singleton] at hm
        rcases hm with (hm | hm) | hm
        · have := hy.out y (List.mem_of_mem_take hm); omega
        · omega
        · have := hy.out y (List.mem_of_mem_drop hm); omega
      have hsz : w.heap.size ≤ w1.heap.size := Nat.le_trans hg.size hg1.size
      have ho3 := ho2.mono hsz
      have hr2 := hr1.below hb2
      have hg2 := grown_trans (grown_trans hg hg1) (grown_of_below (row := some R) hb2)
      obtain ⟨ao2, cap2, rfl, -⟩ := ho3.sl
      rw [hl2] at ho3 ⊢
      clear ho2 hl2 hyl
      go_wp2
      go_roundw
      case rel => exact ⟨k + 1, _, _, _, by omega, rfl, by go_num, ho3, hr2, hg2, hy2⟩
      case measure => simp [lenOf]; omega
    · obtain rfl : k = n := by omega
      go_wp2
      go_ret
      exact ⟨_, ys, _, rfl, ho, ho.read.len, by omega, hr, hg, hy⟩

set_option maxHeartbeats 2000000 in
theorem aSigned_any (R q n : Nat) (w : World) (h : Rdr w R q) (hq : q ≤ 50000) (hn : n ≤ 6) :
    Calls Tryz.prog 19 #[.pointer (some ⟨R, 0, none⟩), .int .i64 n] w fun e w' => ∃ u ys q', e = .returned u ∧ Own w' w.heap.size u ys ∧ ys.length = n ∧ q' ≤ q + 20 ∧ Rdr w' R q' ∧ w.grownBy w' (some R) ∧ Hid (∀ j, j < n → -8 ≤ el ys j ∧ el ys j ≤ 8) := by
  have hlt := h.lt
  go_enter Tryz.func19, Tryz.ntmps19
  go_wp2_with fail
  refine (anOrderG_any R q n w h (by omega) (by omega)).mono ?_
  rintro e w1 ⟨u1, ys, q1, rfl, ho1, hl1, hq1, hr1, hg1, hy1⟩
  obtain ⟨a1, c1, rfl, -⟩ := ho1.sl
  rw [hl1] at ho1 ⊢
  have Hl1 := hid hl1
  have hyb : Hid (∀ j, j < n → -8 ≤ el ys j ∧ el ys j ≤ 8) := fun j hj => by have := hy1.out _ (el_mem (xs := ys) (j := j) (by rw [Hl1.out]; exact hj)); omega
  have hyc : Hid (∀ j, 0 ≤ j → j < n → 0 ≤ el ys j ∧ el ys j ≤ 7) := fun j _ hj => by have := hy1.out _ (el_mem (xs := ys) (j := j) (by rw [Hl1.out]; exact hj)); omega
  clear hl1
  go_wp2
  go_loopw [6] (fun i wr => ∃ (k : Nat) (zs : List Int), k ≤ n ∧ i = .int .i64 k ∧ Own wr w.heap.size (.slice a1 n c1) zs ∧ Hid (zs.length = n) ∧ Rdr wr R (q1 + k) ∧ w.grownBy wr (some R) ∧ Hid (∀ j, j < n → -8 ≤ el zs j ∧ el zs j ≤ 8) ∧ Hid (∀ j, k ≤ j → j < n → 0 ≤ el zs j ∧ el zs j ≤ 7))
    (fun i _ => n - (intOf i).toNat)
  case atStart => exact ⟨0, ys, Nat.zero_le _, rfl, ho1, Hl1, hr1, hg1, hyb, hyc⟩
  case round =>
    obtain ⟨k, zs, hk, rfl, ho, hzl, hr, hg, hzb, hzc⟩ := hrel
    by_cases hlt2 : k < n
    · rcases ho.place with ⟨e1, rfl⟩ | ⟨g, cap', e1, -⟩
      · simp only [Value.slice.injEq] at e1
        omega
      · simp only [Value.slice.injEq] at e1
        obtain ⟨rfl, -, rfl⟩ := e1
        have hs := ho.ows hzl.out
        have hgl := hs.lt
        have hfr := hs.frozen k
        have hcur := hs.cell hlt2
        have hb := hzc.out k (Nat.le_refl _) hlt2
        have hb1 := hb.1
        have hb2 := hb.2
        have hki : (k : Int) < n := by omega
        have hgR : g ≠ R := by omega
        have hgs : w.grownBy (wr.setCell ⟨g, k, none⟩ (.int .i64 (el zs k + 1))) (some R) := grown_exR hg (ExR.of_row (grown_set (g := g) (j := k)) hg.size (fun t ht => by have := Option.some.inj ht; omega))
        have hrs : Rdr (wr.setCell ⟨g, k, none⟩ (.int .i64 (el zs k + 1))) R (q1 + k) := hr.row (grown_set (g := g) (j := k)) (fun t ht => by have := Option.some.inj ht; omega)
        have hss := hs.set k (el zs k + 1)
        clear hb
        go_wp2_with fail
        refine (pick_any R (q1 + k) 2 _ hrs (by omega) (by omega)).mono ?_
        rintro e w3 ⟨v, rfl, hv0, hv1, hr3, hg3⟩
        have ho3 := hss.own.kept hg3 (hss.own.farR hlt)
        have hl3 : Hid ((zs.set k (el zs k + 1)).length = n) := hid (by rw [List.length_set, hzl.out])
        have hs3 := ho3.ows hl3.out
        have hG3 := grown_trans hgs hg3
        have hel : Hid (el (zs.set k (el zs k + 1)) k = el zs k + 1) := hid (el_set_same (by rw [hzl.out]; exact hlt2))
        have hzb3 : Hid (∀ j, j < n → -8 ≤ el (zs.set k (el zs k + 1)) j ∧ el (zs.set k (el zs k + 1)) j ≤ 8) := fun j hj => by
          by_cases e : j = k
          · rw [e, hel.out]; omega
          · rw [el_set_ne (by omega)]; exact hzb.out j hj
        have hzc3 : Hid (∀ j, k + 1 ≤ j → j < n → 0 ≤ el (zs.set k (el zs k + 1)) j ∧ el (zs.set k (el zs k + 1)) j ≤ 7) := fun j hjk hj => by
          rw [el_set_ne (by omega)]; exact hzc.out j (by omega) hj
        have ho3' := ho3
        clear ho
        by_cases e0 : v = 0
        · subst e0
          have hfr3 := hs3.frozen k
          have hcur3 := hs3.cell hlt2
          rw [hel.out] at hcur3
          have hr4 : Rdr (w3.setCell ⟨g, k, none⟩ (.int .i64 (-(el zs k + 1)))) R (q1 + k + 1) := hr3.row (grown_set (g := g) (j := k)) (fun t ht => by have := Option.some.inj ht; omega)
          have hg4 : w.grownBy (w3.setCell ⟨g, k, none⟩ (.int .i64 (-(el zs k + 1)))) (some R) := grown_exR hG3 (ExR.of_row (grown_set (g := g) (j := k)) hG3.size (fun t ht => by have := Option.some.inj ht; omega))
          have ho4 := (hs3.set k (-(el zs k + 1))).own
          have hl4 : Hid (((zs.set k (el zs k + 1)).set k (-(el zs k + 1))).length = n) := hid (by rw [List.length_set, hl3.out])
          have hl4' := hl4.out
          have hzb4 : Hid (∀ j, j < n → -8 ≤ el ((zs.set k (el zs k + 1)).set k (-(el zs k + 1))) j ∧ el ((zs.set k (el zs k + 1)).set k (-(el zs k + 1))) j ≤ 8) := fun j hj => by
            by_cases e : j = k
            · rw [e, el_set_same (by rw [hl3.out]; exact hlt2)]; omega
            · rw [el_set_ne (by omega)]; exact hzb3.out j hj
          have hzc4 : Hid (∀ j, k + 1 ≤ j → j < n → 0 ≤ el ((zs.set k (el zs k + 1)).set k (-(el zs k + 1))) j ∧ el ((zs.set k (el zs k + 1)).set k (-(el zs k + 1))) j ≤ 7) := fun j hjk hj => by
            rw [el_set_ne (by omega)]; exact hzc3.out j hjk hj
          obtain ⟨z4, hz4⟩ : ∃ z4, z4 = (zs.set k (el zs k + 1)).set k (-(el zs k + 1)) := ⟨_, rfl⟩
          rw [← hz4] at ho4 hl4 hzb4 hzc4
          clear hv0 hv1 hz4 hl4' hs3 ho3 ho3' hss hs
          go_wp2
          go_roundw
          case rel => exact ⟨k + 1, z4, by omega, by go_num, ho4, hl4, hr4, hg4, hzb4, hzc4⟩
          case measure => simp [intOf]; omega
        · obtain ⟨z4, hz4⟩ : ∃ z4, z4 = zs.set k (el zs k + 1) := ⟨_, rfl⟩
          rw [← hz4] at ho3' hl3 hzb3 hzc3
          clear hv0 hv1 hz4 hs3 ho3 hss hs hel
          go_wp2
          go_roundw
          case rel => exact ⟨k + 1, z4, by omega, by go_num, ho3', hl3, hr3, hG3, hzb3, hzc3⟩
          case measure => simp [intOf]; omega
    · obtain rfl : k = n := by omega
      go_wp2
      go_ret
      exact ⟨_, zs, _, rfl, ho, hzl.out, by omega, hr, hg, hzb⟩

end Go.Proofs.YtaceiebmgnhdgaaGreatDoor

/- The draw of RunDesk: whatever the bytes, at most six texts of at most 60 bytes. Condition: the bytes can be read. -/
namespace Go.Proofs.YtaceiebmgnhdgaaGreatDoor
open Go.RowKit

/-- A text was drawn; the reader goes on. -/
def DrewR (w : World) (R Q : Nat) (e : Ending) (w' : World) : Prop := ∃ (t : ByteArray) (q : Nat), e = .returned (.string t) ∧ t.size ≤ 42 ∧ q ≤ Q ∧ Rdr w' R q ∧ w.grownBy w' (some R)

set_option maxHeartbeats 4000000 in
theorem mutateR_any (R q : Nat) (s : ByteArray) (w : World) (h : Rdr w R q) (hq : q ≤ 60000) (hs : s.size ≤ 40) :
    Calls Tryz.prog 20 #[.pointer (some ⟨R, 0, none⟩), .string s] w (DrewR w R (q + 3)) := by
  go_enter Tryz.func20, Tryz.ntmps20
  go_wp2_with fail
  refine (pick_any R q ((s.size : Int) + 1) w h (by omega) (by omega)).mono ?_
  rintro e w1 ⟨k, rfl, hk0, hk1, hr1, hg1⟩
  have hk2 : k ≤ s.size := by have := Int.max_eq_left (show (1 : Int) ≤ (s.size : Int) + 1 by omega); omega
  obtain ⟨k, rfl⟩ := Int.eq_ofNat_of_zero_le hk0
  have hkn : k ≤ s.size := by omega
  clear hk1
  go_wp2_with fail
  refine (pick_any R (q + 1) 5 w1 hr1 (by omega) (by omega)).mono ?_
  rintro e w2 ⟨c, rfl, hc0, hc1, hr2, hg2⟩
  have hg02 := grown_trans hg1 hg2
  have hc4 : c = 0 ∨ c = 1 ∨ c = 2 ∨ c = 3 ∨ c = 4 := by omega
  clear hc0 hc1
  have hne : w2.heap.size ≠ R := by have := hr2.lt; omega
  have Ha7 : Hid (ArrS (w2.alloc (.cells (s7.map Value.string).toArray 9)).drew w2.heap.size 9 s7) := hid (ArrS.made w2 9 s7)
  have Ha5 := hid (ArrS.made w2 9 s5)
  have Hr7 : Hid (Rdr (w2.alloc (.cells (s7.map Value.string).toArray 9)).drew R (q + 2)) := hid (hr2.below (((Below.refl w2.heap.size w2).alloc (Nat.le_refl _) _).drew))
  have Hr5 : Hid (Rdr (w2.alloc (.cells (s5.map Value.string).toArray 9)) R (q + 2)) := hid (hr2.below ((Below.refl w2.heap.size w2).alloc (Nat.le_refl _) _))
  have hg07 := grown_trans hg02 (grown_trans (World.grownBy_alloc w2 (.cells (s7.map Value.string).toArray 9) (some R)) (grown_drew _ _))
  have hg05 := grown_trans hg02 (World.grownBy_alloc w2 (.cells (s5.map Value.string).toArray 9) (some R))
  rcases hc4 with rfl | rfl | rfl | rfl | rfl
  · by_cases hlt : (k : Int) < s.size
    · have hkb : (k : Int) + 1 ≤ s.size := by omega
      have hk1 : 0 ≤ (k : Int) + 1 := by omega
      have hwk : IntKind.i64.wrap ((k : Int) + 1) = (k : Int) + 1 := IntWalk.i64_in _ ⟨by omega, by omega⟩
      have hkn2 : ((k : Int) + 1).toNat = k + 1 := by omega
      go_wp2_with fail
      go_region_with (go_at_call 14; refine (of_any R (q + 2) w2.heap.size 7 9 s7 _ Hr7.out (by omega) Ha7.out rfl (by omega) (by omega) hne).mono ?_; rintro e w3 ⟨j, hj, rfl, hr3, hg3⟩; obtain ⟨t1, ht1⟩ : ∃ t1, t1 = els s7 j := ⟨_, rfl⟩; have hone : t1.size = 1 := (by rw [ht1]; exact s7_one j hj); rw [← ht1]; clear ht1 hj)
      all_goals go_wp2
      all_goals go_ret
      all_goals exact ⟨_, _, rfl, by simp [ByteArray.size_extract, ByteArray.size_append]; omega, Nat.le_refl _, hr3, grown_trans hg07 hg3⟩
    · go_wp2
      go_ret
      exact ⟨_, _, rfl, by omega, Nat.le_succ _, hr2, hg02⟩
  · by_cases hlt : (k : Int) < s.size
    · have hkb : (k : Int) + 1 ≤ s.size := by omega
      have hk1 : 0 ≤ (k : Int) + 1 := by omega
      have hwk : IntKind.i64.wrap ((k : Int) + 1) = (k : Int) + 1 := IntWalk.i64_in _ ⟨by omega, by omega⟩
      have hkn2 : ((k : Int) + 1).toNat = k + 1 := by omega
      go_wp2_with fail
      go_region_with (go_at_call 14; refine (of_any R (q + 2) w2.heap.size 7 9 s7 _ Hr7.out (by omega) Ha7.out rfl (by omega) (by omega) hne).mono ?_; rintro e w3 ⟨j, hj, rfl, hr3, hg3⟩; obtain ⟨t1, ht1⟩ : ∃ t1, t1 = els s7 j := ⟨_, rfl⟩; have hone : t1.size = 1 := (by rw [ht1]; exact s7_one j hj); rw [← ht1]; clear ht1 hj)
      all_goals go_wp2
      all_goals go_ret
      all_goals exact ⟨_, _, rfl, by simp [ByteArray.size_extract, ByteArray.size_append]; omega, Nat.le_refl _, hr3, grown_trans hg07 hg3⟩
    · go_wp2
      go_ret
      exact ⟨_, _, rfl, by omega, Nat.le_succ _, hr2, hg02⟩
  · go_wp2
    go_ret
    exact ⟨_, _, rfl, by simp [ByteArray.size_extract]; omega, Nat.le_succ _, hr2, hg02⟩
  · go_wp2_with fail
    refine (of_any R (q + 2) w2.heap.size 5 9 s5 _ Hr5.out (by omega) Ha5.out rfl (by omega) (by omega) hne).mono ?_
    rintro e w3 ⟨j, hj, rfl, hr3, hg3⟩
    obtain ⟨t1, ht1⟩ : ∃ t1, t1 = els s5 j := ⟨_, rfl⟩
    have hone : t1.size = 1 := by rw [ht1]; exact s5_one j hj
    rw [← ht1]
    clear ht1 hj
    go_wp2
    go_ret
    exact ⟨_, _, rfl, by simp [ByteArray.size_append]; omega, Nat.le_refl _, hr3, grown_trans hg05 hg3⟩
  · go_wp2
    go_ret
    exact ⟨_, _, rfl, by omega, Nat.le_succ _, hr2, hg02⟩

def s12 : List ByteArray := [⟨#[105, 110, 118, 101, 114, 115, 105, 111, 110, 115]⟩, ⟨#[109, 97, 106, 111, 114]⟩, ⟨#[100, 101, 115, 99, 101, 110, 116, 115]⟩, ⟨#[97, 98, 111, 118, 101]⟩, ⟨#[100, 101, 110, 101, 114, 116]⟩, ⟨#[114, 101, 99, 111, 114, 100, 115]⟩, ⟨#[99, 105, 114, 99, 108, 101, 115]⟩, ⟨#[99, 114, 111, 115, 115, 105, 110, 103, 115]⟩, ⟨#[110, 101, 115, 116, 105, 110, 103, 115]⟩, ⟨#[116, 97, 98, 108, 101]⟩, ⟨#[102, 111, 97, 116, 97]⟩, ⟨#[108, 105, 110, 101]⟩]
def s2w : List ByteArray := [⟨#[108, 101, 110, 103, 116, 104]⟩, ⟨#[102, 108, 97, 103]⟩]
def s8w : List ByteArray := [⟨#[]⟩, ⟨#[104, 101, 108, 112]⟩, ⟨#[109, 97, 106, 111, 114]⟩, ⟨#[109, 97, 106, 111, 114, 32, 120]⟩, ⟨#[119, 97, 108, 107, 32, 48, 49]⟩, ⟨#[116, 97, 98, 108, 101, 32]⟩, ⟨#[102, 108, 97, 103, 32, 45]⟩, ⟨#[108, 105, 110, 101, 32, 48, 32, 49]⟩]
theorem s12_len : ∀ j, j < 12 → (els s12 j).size ≤ 10 := by decide
theorem s2_len : ∀ j, j < 2 → (els s2w j).size ≤ 10 := by decide
theorem s8_len : ∀ j, j < 8 → (els s8w j).size ≤ 10 := by decide
theorem OwnT.farR {w : World} {B R : Nat} {u : Value} {ys : List ByteArray} (h : OwnT w B u ys) (hR : R < B) : u.ownBlock = none ∨ u.ownBlock ≠ some R := by
  cases e : u.ownBlock with
  | none => exact Or.inl rfl
  | some k =>
    refine Or.inr (fun e2 => ?_)
    have := (h.blocks k e).1
    simp only [Option.some.injEq] at e2
    omega
theorem txW_size (xs : List Int) (h : xs.length ≤ 6) : (BA (txW xs)).size ≤ 12 := by
  rw [BA_size]
  unfold txW
  split
  · have := flat_len xs; omega
  · simp


/-- What the draw of RunDesk leaves. -/
def DrawnT (w : World) (e : Ending) (w' : World) : Prop := ∃ u ss, e = .returned u ∧ OwnT w' w.heap.size u ss ∧ ss.length ≤ 6 ∧ (∀ s ∈ ss, s.size ≤ 60) ∧ Below w.heap.size w w'

set_option maxRecDepth 20000 in
set_option maxHeartbeats 8000000 in
theorem drawRunDesk_any (bo : Option Addr) (n cap : Nat) (cs : List Int) (w : World) (h : Slb w bo n cap cs) :
    Calls Tryz.prog 5 #[.slice bo n cap] w (DrawnT w) := by
  go_enter Tryz.func5, Tryz.ntmps5
  go_wp2_with fail
  refine (newReader_any bo n cap cs w h).mono ?_
  rintro e w1 ⟨rfl, hr1, hb1⟩
  have hR := hr1.lt
  have hs1 := hb1.size
  have oL := (ownT_lit w1).mono (show w.heap.size + 1 ≤ w1.heap.size by omega)
  have hrL := hr1.below ((Below.refl w1.heap.size w1).alloc (Nat.le_refl _) (.cells #[] 9))
  have hbL := hb1.alloc hs1 (.cells #[] 9)
  obtain ⟨wa, hwa⟩ : ∃ wa, wa = w1.alloc (.cells #[] 9) := ⟨_, rfl⟩
  rw [← hwa] at oL hrL hbL
  have hsa : wa.heap.size = w1.heap.size + 1 := by rw [hwa]; simp
  have ha := lit_arr wa [4, 6, 2, 0]
  have hr2 := hrL.below ((Below.refl wa.heap.size wa).alloc (Nat.le_refl _) (.cells ([4, 6, 2, 0].map (Value.int .i64)).toArray 3))
  have hb2 := hbL.alloc hbL.size (.cells ([4, 6, 2, 0].map (Value.int .i64)).toArray 3)
  have o2 := oL.below (Nat.le_refl _) ((Below.refl wa.heap.size wa).alloc (Nat.le_refl _) (.cells ([4, 6, 2, 0].map (Value.int .i64)).toArray 3))
  rw [hsa, hwa] at ha
  rw [hwa] at hr2 hb2 o2
  have Ha := hid ha
  have Hr := hid hr2
  have Hb := hid hb2
  have Ho := hid o2
  clear ha hr2 hb2 o2 oL hrL hbL hsa hwa
  go_wp2_with fail
  refine (one_any w.heap.size 0 (w1.heap.size + 1) 4 3 [4, 6, 2, 0] _ Hr.out (by omega) Ha.out rfl (by omega) (by omega) (by omega)).mono ?_
  rintro e w3 ⟨j, hj, rfl, hr3, hg3⟩
  have hv : ∀ j, j < 4 → 0 ≤ el [4, 6, 2, 0] j ∧ el [4, 6, 2, 0] j ≤ 6 := by decide
  obtain ⟨N, hN⟩ := Int.eq_ofNat_of_zero_le (hv j hj).1
  have hN8 : N ≤ 6 := by have := (hv j hj).2; omega
  rw [hN]
  have hf : (Value.slice (some ⟨w1.heap.size, 0, none⟩) 0 0).ownBlock = none ∨ (Value.slice (some ⟨w1.heap.size, 0, none⟩) 0 0).ownBlock ≠ some w.heap.size := Or.inr (by simp [Value.ownBlock]; omega)
  have o3 := Ho.out.kept hg3 hf
  have hb3 := below_reader Hb.out hg3
  clear hv hN hj hf
  go_wp2
  go_loopw [4, 5] (fun v i wr => ∃ (k m : Nat) (ao : Option Addr) (cp : Nat) (ss : List ByteArray) (q : Nat), m + k ≤ 6 ∧ i = .int .i64 k ∧ v = .slice ao m cp ∧ Hid (ss.length = m) ∧ OwnT wr (w.heap.size + 1) (.slice ao m cp) ss ∧ Rdr wr w.heap.size q ∧ q ≤ 1 + 60 * m ∧ Below w.heap.size w wr ∧ Hid (∀ s ∈ ss, s.size ≤ 60))
    (fun _ i _ => (intOf i).toNat)
  case atStart => exact ⟨N, 0, _, _, [], 1, by omega, rfl, rfl, rfl, o3, hr3, by omega, hb3, hid (fun s hs => by cases hs)⟩
  case round =>
    obtain ⟨k, m, ao, cp, ss, q, hmk, rfl, rfl, hyl, ho, hr, hq, hb, hss⟩ := hrel
    by_cases hlt : 0 < k
    · have hi1 : (0 : Int) < (k : Int) := by omega
      have hi2 : (k : Int) ≤ 6 := by omega
      have hne : wr.heap.size ≠ w.heap.size := by have := hr.lt; omega
      have Ha12 : Hid (ArrS (wr.alloc (.cells (s12.map Value.string).toArray 9)) wr.heap.size 9 s12) := hid (ArrS.made wr 9 s12)
      have Hr12 := hid (hr.below ((Below.refl wr.heap.size wr).alloc (Nat.le_refl _) (.cells (s12.map Value.string).toArray 9)))
      have G0 := World.grownBy_alloc wr (.cells (s12.map Value.string).toArray 9) (some w.heap.size)
      clear hr
      go_wp2_with fail
      refine (of_any w.heap.size q wr.heap.size 12 9 s12 _ Hr12.out (by omega) Ha12.out rfl (by omega) (by omega) hne).mono ?_
      rintro e wb ⟨j, hj, rfl, hrb, hgb⟩
      have G1 := grown_trans G0 hgb
      have hj10 := s12_len j hj
      obtain ⟨t1, ht1⟩ : ∃ t1, t1 = els s12 j := ⟨_, rfl⟩
      rw [← ht1] at hj10 ⊢
      have hj10i : (t1.size : Int) ≤ 10 := by omega
      clear ht1 hj Ha12 Hr12 G0 hgb hne
      go_wp2_with fail
      refine (goodOrderV_any w.heap.size (q + 1) wb hrb (by omega)).mono ?_
      rintro e wc ⟨m7, hm7, u, ys, q2, rfl, hoy, hl, hq2, hrc, hgc, hy⟩
      have G2 := grown_trans G1 hgc
      have hyl7 : ys.length ≤ 7 := by omega
      have hd : Hid (∀ j, j < ys.length → 0 ≤ el ys j ∧ el ys j ≤ 9) := fun j hj => by have := hy.out _ (el_mem hj); omega
      have hln : (strOfNums (dgs ys)).size ≤ 7 := by rw [strOfNums_size, dgs, map_range_len]; omega
      obtain ⟨a, c, rfl, hs⟩ := hoy.sl
      obtain ⟨tx, htx⟩ : ∃ tx, tx = strOfNums (dgs ys) := ⟨_, rfl⟩
      rw [← htx] at hln
      have Htx := hid htx
      have hlni : (tx.size : Int) ≤ 7 := by omega
      clear hl htx hy hrb
      go_wp2_with fail
      refine (digits_any _ _ _ ys _ hs (by omega) hd).mono ?_
      rw [← Htx.out]
      rintro e wd ⟨rfl, hbd⟩
      have hrd := hrc.below hbd
      have G3 := grown_trans G2 (grown_of_below (row := some w.heap.size) hbd)
      clear hs hd hbd hrc hgc hoy Htx
      go_wp2_with fail
      refine (pick_any w.heap.size q2 8 wd hrd (by omega) (by omega)).mono ?_
      rintro e we ⟨v, rfl, hv0, hv1, hre, hge⟩
      have G4 := grown_trans G3 hge
      clear G1 G2 G3 hge hrd
      obtain ⟨s0, hs0⟩ : ∃ s0, s0 = t1 ++ (⟨#[32]⟩ : ByteArray) ++ tx := ⟨_, rfl⟩
      have h18 : s0.size ≤ 18 := by
        rw [hs0, ByteArray.size_append, ByteArray.size_append]
        have : (⟨#[32]⟩ : ByteArray).size = 1 := rfl
        omega
      rw [← hs0]
      clear hs0 hj10 hj10i hln hlni
      have fin : ∀ (wx : World) (qx : Nat) (sx : ByteArray), sx.size ≤ 60 → Rdr wx w.heap.size qx → qx ≤ q + 60 → wr.grownBy wx (some w.heap.size) →
          OwnT wx (w.heap.size + 1) (.slice ao m cp) ss ∧ Below w.heap.size w wx ∧ w.heap.size + 1 ≤ wx.heap.size ∧ ss.length ≤ 2000000 := by
        intro wx qx sx _ hrx _ hgx
        refine ⟨ho.kept hgx (ho.farR (Nat.lt_succ_self _)), below_reader hb hgx, by have := hrx.lt; omega, by have := hyl.out; omega⟩
      have step : ∀ (wx w5 : World) (qx : Nat) (sx : ByteArray) (u5 : Value), sx.size ≤ 60 → Rdr wx w.heap.size qx → qx ≤ q + 60 → wr.grownBy wx (some w.heap.size) → OwnT w5 (w.heap.size + 1) u5 (ss ++ [sx]) → wx.grownBy w5 (Value.slice ao m cp).ownBlock →
          ∃ (ao5 : Option Addr) (cp5 : Nat), u5 = .slice ao5 (m + 1) cp5 ∧ Hid ((ss ++ [sx]).length = m + 1) ∧ OwnT w5 (w.heap.size + 1) (.slice ao5 (m + 1) cp5) (ss ++ [sx]) ∧ Rdr w5 w.heap.size qx ∧ qx ≤ 1 + 60 * (m + 1) ∧ Below w.heap.size w w5 ∧ Hid (∀ s ∈ ss ++ [sx], s.size ≤ 60) := by
        intro wx w5 qx sx u5 h60 hrx hqx hgx o5 g5
        obtain ⟨f1, f2, f3, f4⟩ := fin wx qx sx h60 hrx hqx hgx
        have hyl5 : (ss ++ [sx]).length = m + 1 := by rw [List.length_append, List.length_singleton, hyl.out]
        obtain ⟨ao5, cp5, rfl, -⟩ := o5.sl
        rw [hyl5] at o5
        refine ⟨ao5, cp5, by rw [hyl5], hyl5, o5, hrx.kept ((Below.refl (w.heap.size + 1) wx).grown g5 f3 (fun k hk => (f1.blocks k hk).1)), by omega, f2.grown g5 (by omega) (fun k hk => by have := (f1.blocks k hk).1; omega), hid fun s hs => ?_⟩
        rcases List.mem_append.1 hs with h1 | h1
        · exact hss.out s h1
        · rw [List.mem_singleton] at h1; subst h1; exact h60
      have hmeas : ∀ x : Int, x = (k : Int) - 1 → x.toNat < k := fun x hx => by omega
      have hdec : (k : Int) - 1 = ((k - 1 : Nat) : Int) := by omega
      have Hdec := hid hdec
      have Hfin := hid fin
      have Hstep := hid step
      clear fin step hdec
      by_cases v0 : v = 0
      · subst v0
        clear hv0 hv1
        have hne : we.heap.size ≠ w.heap.size := by have := hre.lt; omega
        have Ha2 : Hid (ArrS (we.alloc (.cells (s2w.map Value.string).toArray 9)) we.heap.size 9 s2w) := hid (ArrS.made we 9 s2w)
        have Hr2 := hid (hre.below ((Below.refl we.heap.size we).alloc (Nat.le_refl _) (.cells (s2w.map Value.string).toArray 9)))
        have G5 := grown_trans G4 (World.grownBy_alloc we (.cells (s2w.map Value.string).toArray 9) (some w.heap.size))
        clear hre G4
        go_wp2_with fail
        refine (of_any w.heap.size (q2 + 1) we.heap.size 2 9 s2w _ Hr2.out (by omega) Ha2.out rfl (by omega) (by omega) hne).mono ?_
        rintro e wf ⟨j, hj, rfl, hrf, hgf⟩
        have G6 := grown_trans G5 hgf
        have hj10 := s2_len j hj
        obtain ⟨t2, ht2⟩ : ∃ t2, t2 = els s2w j := ⟨_, rfl⟩
        rw [← ht2] at hj10 ⊢
        clear ht2 hj Ha2 Hr2 hgf G5 hne
        go_wp2_with fail
        refine (pick_any w.heap.size (q2 + 1 + 1) 6 wf hrf (by omega) (by omega)).mono ?_
        rintro e wg ⟨x, rfl, hx0, hx1, hrg, hgg⟩
        have G7 := grown_trans G6 hgg
        obtain ⟨x, rfl⟩ := Int.eq_ofNat_of_zero_le hx0
        have hx6 : x ≤ 6 := by have := Int.max_eq_left (show (1 : Int) ≤ 6 by omega); omega
        clear hx0 hx1 hrf G6 hgg
        go_wp2_with fail
        refine (aSigned_any w.heap.size (q2 + 1 + 1 + 1) x wg hrg (by omega) hx6).mono ?_
        rintro e wh ⟨u, zs, q3, rfl, hoz, hzl, hq3, hrh, hgh, -⟩
        have G8 := grown_trans G7 hgh
        obtain ⟨az, cz, rfl, hsz⟩ := hoz.sl
        have hz12 := txW_size zs (by omega)
        rw [hzl] at hsz ⊢
        obtain ⟨tz, htz⟩ : ∃ tz, tz = BA (txW zs) := ⟨_, rfl⟩
        have cZ := sgtS_any _ _ _ zs wh hsz
        rw [← htz] at hz12 cZ
        clear htz hrg G7 hgh hoz hsz hzl
        go_wp2_with fail
        refine cZ.mono ?_
        rintro e wi ⟨rfl, hbi⟩
        have hri := hrh.below hbi
        have G9 := grown_trans G8 (grown_of_below (row := some w.heap.size) hbi)
        clear hrh G8 hbi cZ
        have hj10i : (t2.size : Int) ≤ 10 := by omega
        have hz12i : (tz.size : Int) ≤ 12 := by omega
        obtain ⟨s9, hs9⟩ : ∃ s9, s9 = t2 ++ (⟨#[32]⟩ : ByteArray) ++ tz := ⟨_, rfl⟩
        have h30 : s9.size ≤ 30 := by
          rw [hs9, ByteArray.size_append, ByteArray.size_append]
          have : (⟨#[32]⟩ : ByteArray).size = 1 := rfl
          omega
        have HS9 := hid hs9
        clear hs9
        obtain ⟨f1, f2, f3, f4⟩ := Hfin.out _ _ (t2 ++ (⟨#[32]⟩ : ByteArray) ++ tz) (by rw [← HS9.out]; omega) hri (by omega) G9
        go_wp2_with (at_builtin; refine app_str2 _ (t2 ++ (⟨#[32]⟩ : ByteArray) ++ tz) rfl _ _ rfl (w.heap.size + 1) _ _ rfl f1 rfl f4 f3 ?_)
        intro u5 w5 o5 g5 _
        obtain ⟨ao5, cp5, rfl, l5, o5', r5, q5, b5, z5⟩ := Hstep.out _ _ _ (t2 ++ (⟨#[32]⟩ : ByteArray) ++ tz) _ (by rw [← HS9.out]; omega) hri (by omega) G9 o5 g5
        clear f1 f2 f3 f4 o5 g5
        go_wp2
        go_roundw
        case rel => exact ⟨k - 1, m + 1, _, _, _, _, by omega, by rw [← Hdec.out], rfl, l5, o5', r5, q5, b5, z5⟩
        case measure => simp [intOf]; omega
      · by_cases v1 : v = 1
        · subst v1
          clear hv0 hv1
          have hne : we.heap.size ≠ w.heap.size := by have := hre.lt; omega
          have Ha2 : Hid (ArrS (we.alloc (.cells (s8w.map Value.string).toArray 9)) we.heap.size 9 s8w) := hid (ArrS.made we 9 s8w)
          have Hr2 := hid (hre.below ((Below.refl we.heap.size we).alloc (Nat.le_refl _) (.cells (s8w.map Value.string).toArray 9)))
          have G5 := grown_trans G4 (World.grownBy_alloc we (.cells (s8w.map Value.string).toArray 9) (some w.heap.size))
          clear hre G4 v0
          go_wp2_with fail
          refine (of_any w.heap.size (q2 + 1) we.heap.size 8 9 s8w _ Hr2.out (by omega) Ha2.out rfl (by omega) (by omega) hne).mono ?_
          rintro e wf ⟨j, hj, rfl, hrf, hgf⟩
          have G6 := grown_trans G5 hgf
          have hj10 := s8_len j hj
          obtain ⟨t2, ht2⟩ : ∃ t2, t2 = els s8w j := ⟨_, rfl⟩
          rw [← ht2] at hj10 ⊢
          clear ht2 hj Ha2 Hr2 hgf G5 hne
          obtain ⟨f1, f2, f3, f4⟩ := Hfin.out _ _ t2 (by omega) hrf (by omega) G6
          go_wp2_with (at_builtin; refine app_str2 _ t2 rfl _ _ rfl (w.heap.size + 1) _ _ rfl f1 rfl f4 f3 ?_)
          intro u5 w5 o5 g5 _
          obtain ⟨ao5, cp5, rfl, l5, o5', r5, q5, b5, z5⟩ := Hstep.out _ _ _ t2 _ (by omega) hrf (by omega) G6 o5 g5
          clear f1 f2 f3 f4 o5 g5
          go_wp2
          go_roundw
          case rel => exact ⟨k - 1, m + 1, _, _, _, _, by omega, by rw [← Hdec.out], rfl, l5, o5', r5, q5, b5, z5⟩
          case measure => simp [intOf]; omega
        · by_cases v2 : v = 2
          · subst v2
            clear hv0 hv1 v0 v1
            go_wp2_with fail
            refine (mutateR_any w.heap.size (q2 + 1) s0 we hre (by omega) (by omega)).mono ?_
            rintro e wf ⟨t2, q3, rfl, ht2, hq3, hrf, hgf⟩
            have G6 := grown_trans G4 hgf
            clear hre G4 hgf
            obtain ⟨f1, f2, f3, f4⟩ := Hfin.out _ _ t2 (by omega) hrf (by omega) G6
            go_wp2_with (at_builtin; refine app_str2 _ t2 rfl _ _ rfl (w.heap.size + 1) _ _ rfl f1 rfl f4 f3 ?_)
            intro u5 w5 o5 g5 _
            obtain ⟨ao5, cp5, rfl, l5, o5', r5, q5, b5, z5⟩ := Hstep.out _ _ _ t2 _ (by omega) hrf (by omega) G6 o5 g5
            clear f1 f2 f3 f4 o5 g5
            go_wp2
            go_roundw
            case rel => exact ⟨k - 1, m + 1, _, _, _, _, by omega, by rw [← Hdec.out], rfl, l5, o5', r5, q5, b5, z5⟩
            case measure => simp [intOf]; omega
          · have e0 : (v == 0) = false := by simpa using v0
            have e1 : (v == 1) = false := by simpa using v1
            have e2 : (v == 2) = false := by simpa using v2
            clear hv0 hv1 v0 v1 v2
            obtain ⟨f1, f2, f3, f4⟩ := Hfin.out _ _ s0 (by omega) hre (by omega) G4
            go_wp2_with (at_builtin; refine app_str2 _ s0 rfl _ _ rfl (w.heap.size + 1) _ _ rfl f1 rfl f4 f3 ?_)
            intro u5 w5 o5 g5 _
            obtain ⟨ao5, cp5, rfl, l5, o5', r5, q5, b5, z5⟩ := Hstep.out _ _ _ s0 _ (by omega) hre (by omega) G4 o5 g5
            clear f1 f2 f3 f4 o5 g5
            go_wp2
            go_roundw
            case rel => exact ⟨k - 1, m + 1, _, _, _, _, by omega, by rw [← Hdec.out], rfl, l5, o5', r5, q5, b5, z5⟩
            case measure => simp [intOf]; omega
    · obtain rfl : k = 0 := by omega
      go_wp2
      go_ret
      exact ⟨_, ss, rfl, ho.mono (Nat.le_succ _), by have := hyl.out; omega, hss.out, hb⟩

end Go.Proofs.YtaceiebmgnhdgaaGreatDoor

/- The walk of the law of RunDesk. Conditions: the bytes can be read; the program's and the library's variables hold what their initialisers lay. -/
namespace Go.Proofs.YtaceiebmgnhdgaaGreatDoor
open Go.RowKit

/-- How many newlines there are. -/
def nlC : List UInt8 → Nat
  | [] => 0
  | c :: l => nlC l + if c = 10 then 1 else 0
theorem nlC_app : ∀ a b : List UInt8, nlC (a ++ b) = nlC a + nlC b
  | [], b => by simp [nlC]
  | c :: a, b => by rw [List.cons_append, nlC, nlC, nlC_app a b]; omega
theorem nlC_no : ∀ a : List UInt8, (∀ c ∈ a, c ≠ 10) → nlC a = 0
  | [], _ => rfl
  | c :: a, h => by rw [nlC, nlC_no a (fun x hx => h x (List.mem_cons_of_mem _ hx)), if_neg (h c List.mem_cons_self)]
theorem nlC_le (a : List UInt8) : nlC a ≤ a.length := by
  induction a with
  | nil => simp [nlC]
  | cons c a ih => rw [nlC]; simp only [List.length_cons]; split <;> omega
theorem itoa_no {x : Nat} (h : x < 100) : ∀ c ∈ Lib.itoa (x : Int), c ≠ 10 := by
  have h1 : ∀ y : Nat, y < 10 → ∀ c ∈ Lib.itoa (y : Int), c ≠ 10 := fun y hy c hc => by
    rw [itoa_one hy, List.mem_singleton] at hc
    subst hc
    have : ∀ y : Fin 10, UInt8.ofNat (48 + y.1) ≠ 10 := by decide
    exact this ⟨y, hy⟩
  by_cases h10 : x < 10
  · exact h1 x h10
  · intro c hc
    rw [itoa_two (by omega) h, List.mem_append] at hc
    rcases hc with hc | hc
    · exact h1 _ (by omega) c hc
    · exact h1 _ (by omega) c hc
theorem lsP_no (xs : List Int) (hb : ∀ j, j < xs.length → 0 ≤ el xs j ∧ el xs j < 100) : ∀ k, k ≤ xs.length → ∀ c ∈ lsP xs k, c ≠ 10
  | 0, _ => fun c hc => by simp [lsP] at hc
  | k + 1, h => fun c hc => by
    have h2 := hb k (by omega)
    obtain ⟨m, hm⟩ := Int.eq_ofNat_of_zero_le h2.1
    rw [lsP, hm, List.mem_append, List.mem_append] at hc
    rcases hc with (hc | hc) | hc
    · exact lsP_no xs hb k (by omega) c hc
    · split at hc
      · rw [List.mem_singleton] at hc; subst hc; decide
      · cases hc
    · exact itoa_no (by omega) c hc
theorem nums_elY {ys : List Int} {k : Nat} (h : k < ys.length) : el (prs (strOfNums ys)) k = (((UInt8.ofNat (el ys k).toNat).toNat : Nat) : Int) - 48 := by
  unfold prs
  rw [strOfNums_data, List.map_map, el_lt (by simpa using h), List.getElem_map, el_lt h]
  rfl
theorem son_no {xs : List Int} (h : Valid xs) : ∀ c ∈ (strOfNums (dgs xs)).data.toList, c ≠ 10 := fun c hc e => by
  obtain ⟨j, hj, rfl⟩ := List.mem_iff_getElem.1 hc
  have hl : j < xs.length := by
    have : (strOfNums (dgs xs)).data.toList.length = xs.length := by
      rw [Array.length_toList]
      exact (son_size _).trans (dgs_len xs)
    omega
  have h9 := valid_9 h rfl j hl
  have hr := nums_elY (ys := dgs xs) (k := j) (by rw [dgs_len]; exact hl)
  have hr2 : el (prs (strOfNums (dgs xs))) j = ((strOfNums (dgs xs)).data.toList[j].toNat : Int) - 48 := by
    have hjs : j < (strOfNums (dgs xs)).size := by rw [son_size, dgs_len]; exact hl
    rw [el_prs hjs]
    congr 2
  rw [e] at hr2
  rw [hr2] at hr
  have hd : el (dgs xs) j = 48 + el xs j := by rw [dgs]; exact el_map hl
  rw [hd] at hr
  obtain ⟨m, hm⟩ := Int.eq_ofNat_of_zero_le h9.1
  have hm9 : m ≤ 9 := by omega
  rw [hm, show (48 + (m : Int)).toNat = 48 + m by omega] at hr
  have : ∀ m : Fin 10, (10 : UInt8).toNat ≠ (UInt8.ofNat (48 + m.1)).toNat := by decide
  have h3 := this ⟨m, by omega⟩
  simp only at h3
  omega
theorem ansKM_no (k m : Nat) (xs : List Int) : ∀ c ∈ (ansKM k m xs).data.toList, c ≠ 10 := by
  have hw : ∀ c ∈ bWrong.data.toList, c ≠ 10 := by decide
  have hh : ∀ c ∈ bWhat.data.toList, c ≠ 10 := by decide
  unfold ansKM
  split
  · rename_i hk
    split
    · rename_i hv
      obtain ⟨x, hx⟩ := Int.eq_ofNat_of_zero_le (valN_bd hv hk).1
      rw [BA_list, hx]
      exact itoa_no (by have := (valN_bd hv hk).2; omega)
    · exact hw
  · split
    · split
      · rename_i hv
        have h1 := lsP_eq (table xs) (table xs).length (Nat.le_refl _)
        rw [List.take_length] at h1
        rw [BA_list, ← h1]
        exact lsP_no _ (table_100 hv) _ (Nat.le_refl _)
      · exact hw
    · split
      · split
        · rename_i hv
          exact son_no (foat_valid hv)
        · exact hw
      · split
        · split
          · rename_i hv
            exact son_no (lb_facts hv).1
          · exact hw
        · split
          · split
            · rename_i hv
              have hb := (sv_nums (okX_sv hv)).1
              obtain ⟨x, hx⟩ := Int.eq_ofNat_of_zero_le hb.1
              rw [BA_list, hx]
              exact itoa_no (by omega)
            · exact hw
          · split
            · split
              · rename_i hv
                have hb := (sv_nums (okX_sv hv)).2
                obtain ⟨x, hx⟩ := Int.eq_ofNat_of_zero_le hb.1
                rw [BA_list, hx]
                exact itoa_no (by omega)
              · exact hw
            · exact hh
theorem ansL_no (s : ByteArray) : ∀ c ∈ (ansL s).data.toList, c ≠ 10 := by
  unfold ansL ansP
  split
  · exact ansKM_no _ _ _
  · decide
theorem dskL_nl : ∀ ss : List ByteArray, nlC (dskL ss) = ss.length
  | [] => rfl
  | s :: ss => by
    have e2 : dskL (s :: ss) = ((ansL s).data.toList ++ [10]) ++ dskL ss := rfl
    rw [e2, nlC_app, nlC_app, nlC_no _ (ansL_no s), dskL_nl ss, List.length_cons]
    simp [nlC]
    omega
theorem dskL_pre (ss : List ByteArray) (k : Nat) : dskL ss = dskL (ss.take k) ++ dskL (ss.drop k) := by
  unfold dskL
  rw [← List.flatMap_append, List.take_append_drop]
theorem dskL_some {ss : List ByteArray} (h : 0 < ss.length) : 0 < (dskL ss).length := by
  have := dskL_nl ss
  have := nlC_le (dskL ss)
  omega
theorem BA_pre (a b : List UInt8) : (BA (a ++ b)).extract 0 a.length = BA a := by
  rw [← BA_of ((BA (a ++ b)).extract 0 a.length), extract_toList, BA_list, List.drop_zero, List.take_left]

set_option maxHeartbeats 2000000 in
theorem newl_any (l : List UInt8) (w : World) (hl : l.length ≤ 100000) :
    Calls Tryz.prog 8 #[.string (BA l)] w (Says w (.int .i64 (nlC l))) := by
  have hz := BA_size l
  have hge : ∀ k (h : k < l.length) (h2 : k < (BA l).size), (BA l)[k] = l[k] := fun k h h2 => by
    show (BA l).data[k] = l[k]
    simp [BA]
    try rfl
  obtain ⟨s, hs⟩ : ∃ s, s = BA l := ⟨_, rfl⟩
  rw [← hs] at hz ⊢
  have Hge : Hid (∀ k (h : k < l.length) (h2 : k < s.size), s[k] = l[k]) := hid (by subst hs; exact hge)
  have Hz := hid hz
  clear hge hs hz
  go_enter Tryz.func8, Tryz.ntmps8
  go_wp2
  go_loopw [3, 4] (fun a i wr => ∃ (k x : Nat), k ≤ s.size ∧ a = .int .i64 x ∧ i = .int .i64 k ∧ x ≤ k ∧ Hid (x = nlC (l.take k)) ∧ Below w.heap.size w wr)
    (fun _ i _ => s.size - (intOf i).toNat)
  case atStart => exact ⟨0, 0, Nat.zero_le _, rfl, rfl, Nat.le_refl _, hid rfl, Below.refl _ _⟩
  case round =>
    obtain ⟨k, x, hk, rfl, rfl, hxk, Hx, hbr⟩ := hrel
    have hs1 : s.size ≤ 100000 := by rw [Hz.out]; exact hl
    by_cases hlt : k < s.size
    · have hki : (k : Int) < s.size := by omega
      have hkl : k < l.length := by rw [← Hz.out]; exact hlt
      have hxi : (x : Int) ≤ 100000 := by omega
      have h255 : (s[k].toNat : Int) ≤ 255 := by have := s[k].toNat_lt; omega
      have Hst : Hid (nlC (l.take (k + 1)) = nlC (l.take k) + if s[k] = 10 then 1 else 0) := hid (by
        rw [List.take_add_one, List.getElem?_eq_getElem hkl, nlC_app, Hge.out k hkl hlt]
        simp [nlC])
      by_cases hc : s[k] = 10
      · have hc2 : (s[k].toNat : Int) = 10 := by rw [hc]; rfl
        have Hc := hid hc
        clear hc
        go_wp2
        go_roundw
        case rel => exact ⟨k + 1, x + 1, by omega, by go_num, by go_num, by omega, hid (by rw [Hst.out, if_pos Hc.out, Hx.out]), hbr⟩
        case measure => simp [intOf]; omega
      · have hc2 : ¬ (s[k].toNat : Int) = 10 := fun e => hc (UInt8.toNat_inj.1 (show s[k].toNat = 10 by omega))
        have Hc := hid hc
        clear hc
        go_wp2
        go_roundw
        case rel => exact ⟨k + 1, x, by omega, rfl, by go_num, by omega, hid (by rw [Hst.out, if_neg Hc.out, Hx.out]; rfl), hbr⟩
        case measure => simp [intOf]; omega
    · have e : k = s.size := by omega
      have hx2 : (x : Int) = nlC l := by rw [Hx.out, e, Hz.out, List.take_length]
      go_wp2
      go_ret
      exact says_int hx2 hbr

theorem SlT.take {w : World} {ao : Option Addr} {n cap : Nat} {ss : List ByteArray} (h : SlT w ao n cap ss) {k : Nat} (hk : k ≤ n) : SlT w ao k cap (ss.take k) := by
  have h1 := h.len
  have h2 := h.le
  refine ⟨by rw [List.length_take]; omega, by omega, h.max, fun hk0 => ?_⟩
  obtain ⟨b, off, e, hlt, hc⟩ := h.row (by omega)
  refine ⟨b, off, e, hlt, fun j hj => ?_⟩
  rw [hc j (by omega)]
  have : elt (ss.take k) j = elt ss j := by simp [elt, hj]
  rw [this]

set_option maxRecDepth 20000 in
set_option maxHeartbeats 4000000 in
theorem fnRunDesk_any (bo : Option Addr) (n cap : Nat) (cs : List Int) (W : World) (h : Slb W bo n cap cs) (hg : Glb W) :
    Calls Tryz.prog 3 #[.slice bo n cap] W (Says W (.bool true)) := by
  have hbig := h.big
  have HG := hid hg
  clear hg
  by_cases hn : n ≤ 1048576
  · have hni : ¬ (1048576 : Int) < (n : Int) := by omega
    go_enter Tryz.func3, Tryz.ntmps3
    go_wp2_with fail
    refine (drawRunDesk_any _ _ _ cs _ h).mono ?_
    rintro e w1 ⟨u, ss, rfl, ho, hl6, h60, hb1⟩
    obtain ⟨a, c, rfl, hs⟩ := ho.sl
    obtain ⟨m, hm⟩ : ∃ m, m = ss.length := ⟨_, rfl⟩
    rw [← hm] at hs hl6 ⊢
    have Hm := hid hm
    have hz : Hid (∀ j, j < m → (elt ss j).size ≤ 1048576) := hid (fun j hj => by
      have hj2 : j < ss.length := by rw [← hm]; exact hj
      rw [elt_lt hj2]
      have := h60 _ (List.getElem_mem hj2)
      omega)
    have hg1 := HG.out.later hb1
    clear ho h60 hm hni
    have hD : dsk ss = BA (dskL ss) := if_pos (by rw [← Hm.out]; omega)
    have cI := fun w h hg => says_tos (dskI_any a m c ss w h hz hg) hD
    have cS := fun w h => says_tos (dskS_any a m c ss w h hz) hD
    have Hpre := hid (dskL_pre ss)
    have Hnl := hid (dskL_nl ss)
    have hdl := dskL_len ss
    have cN := fun w => newl_any (dskL ss) w (by have := Hm.out; omega)
    have cE := fun k hk w h hg => dskI_any a k c (ss.take k) w h (hid fun j hj => by
      have := hz.out j (Nat.lt_of_lt_of_le hj hk)
      have e : elt (ss.take k) j = elt ss j := by simp [elt, hj]
      rw [e]; exact this) hg
    have Hsome := hid (fun h => dskL_some (ss := ss) h)
    obtain ⟨L, hL⟩ : ∃ L, L = dskL ss := ⟨_, rfl⟩
    rw [← hL] at cI cS Hpre Hnl hdl cN Hsome
    have hLl : L.length ≤ 186 := by have := Hm.out; omega
    clear hL hD hdl
    have hzL := BA_size L
    obtain ⟨D, hDD⟩ : ∃ D, D = BA L := ⟨_, rfl⟩
    rw [← hDD] at cI cS cN hzL
    have HD := hid hDD
    have hDs : (D.size : Int) ≤ 186 := by omega
    have HzL := hid hzL
    clear hDD hzL
    go_wp2_with fail
    refine (cI _ hs hg1).mono ?_
    rintro e w2 ⟨rfl, hb2⟩
    have hb12 := hb1.trans (hb2.mono hb1.size)
    have hs2 := hs.later hb2
    go_wp2_with fail
    refine (cS _ hs2).mono ?_
    rintro e w3 ⟨rfl, hb3⟩
    have hb13 := hb12.trans (hb3.mono hb12.size)
    have hs3 := hs2.later hb3
    clear hb1 hb2 hb3 hb12 hs hs2 hg1
    by_cases h0 : m = 0
    · have hDe : D = ⟨#[]⟩ := by
        have h1 : ss = [] := List.eq_nil_of_length_eq_zero (by rw [← Hm.out]; exact h0)
        have h2 : L.length = 0 := by
          have := Hpre.out 0
          have h3 := Hnl.out
          rw [h1] at this
          rw [this]; rfl
        rw [HD.out, List.eq_nil_of_length_eq_zero h2]; rfl
      subst hDe
      have H0 := hid h0
      clear h0
      go_wp2_with fail
      refine (cS _ hs3).mono ?_
      rintro e w4 ⟨rfl, hb4⟩
      go_wp2
      go_ret
      exact ⟨rfl, hb13.trans (hb4.mono hb13.size)⟩
    · have hne : (D.toList == []) = false := by
        have h1 := Hsome.out (by rw [← Hm.out]; omega)
        rw [HD.out, ByteArray.toList_eq, BA_list]
        cases L with
        | nil => simp at h1
        | cons x l => rfl
      have H0 := hid h0
      clear h0
      go_wp2
      go_loopw [5] (fun i wr => ∃ (k : Nat), k ≤ m + 1 ∧ i = .int .i64 k ∧ Below W.heap.size W wr ∧ SlT wr a m c ss) (fun i _ => m + 1 - (intOf i).toNat)
      case atStart => exact ⟨0, Nat.zero_le _, rfl, hb13, hs3⟩
      case round =>
        obtain ⟨k, hk, rfl, hbr, hsr⟩ := hrel
        have hgr := HG.out.later hbr
        have hle := hsr.le
        have hmx := hsr.max
        unfold maxLen at hmx
        have hmi : (m : Int) ≤ 6 := by omega
        by_cases hlt : k ≤ m
        · have hki : (k : Int) ≤ (m : Int) := by omega
          have hkc : k ≤ c := by omega
          have hst := hsr.take hlt
          have hpk := Hpre.out k
          have hEk : dsk (ss.take k) = BA (dskL (ss.take k)) := if_pos (by rw [List.length_take]; omega)
          have cE2 := says_tos (cE k hlt wr hst hgr) hEk
          have hzE := BA_size (dskL (ss.take k))
          have hzle : (dskL (ss.take k)).length ≤ L.length := by rw [hpk, List.length_append]; omega
          have hext : D.extract 0 (dskL (ss.take k)).length = BA (dskL (ss.take k)) := by rw [HD.out, hpk]; exact BA_pre _ _
          rw [← hzE] at hext hzle
          obtain ⟨E, hE⟩ : ∃ E, E = BA (dskL (ss.take k)) := ⟨_, rfl⟩
          rw [← hE] at cE2 hext hzle
          have hED : (E.size : Int) ≤ D.size := by have := HzL.out; omega
          have hED2 : ¬ (D.size : Int) < (E.size : Int) := by omega
          have hE0 : (E.size : Int) ≤ 186 := by omega
          clear hE hzE hEk hpk hst hzle
          go_wp2_with fail
          refine cE2.mono ?_
          rintro e w5 ⟨rfl, hb5⟩
          have hbr5 := hbr.trans (hb5.mono hbr.size)
          have hsr5 := hsr.later hb5
          go_wp2
          go_roundw
          case rel => exact ⟨k + 1, by omega, by go_num, hbr5, hsr5⟩
          case measure => simp [intOf]; omega
        · obtain rfl : k = m + 1 := by omega
          have hki : ¬ ((m + 1 : Nat) : Int) ≤ (m : Int) := by omega
          have hki2 : ¬ (m : Int) + 1 ≤ (m : Int) := by omega
          have hNm : Hid ((nlC L : Int) = (m : Int)) := hid (by rw [Hnl.out, Hm.out])
          go_wp2_with fail
          refine (cN _).mono ?_
          rintro e w6 ⟨rfl, hb6⟩
          rw [hNm.out]
          go_wp2
          go_ret
          exact ⟨rfl, hbr.trans (hb6.mono hbr.size)⟩
  · have hni : (1048576 : Int) < (n : Int) := by omega
    go_enter Tryz.func3, Tryz.ntmps3
    go_wp2
    go_ret
    exact ⟨rfl, Below.refl _ _⟩

end Go.Proofs.YtaceiebmgnhdgaaGreatDoor

