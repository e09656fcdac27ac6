/- Texts of orders, in the program and in its model. Condition: the list's cells can be read. -/
import Derived.Test.YtaceiebmgnhdgaaGreatDoorBnd
import Derived.Laws.BytesArg
namespace Go.Proofs.YtaceiebmgnhdgaaGreatDoor
open Go.RowKit

theorem infoB : (Tryz.prog.info? 5).map (fun i => (i.zero, i.size, i.bytes)) = some (some (.int .u8 0), 1, 1) := by kernel_rfl

/-- The digits of numbers, as bytes. -/
def dgs (xs : List Int) : List Int := (List.range xs.length).map fun j => 48 + el xs j
def txt (xs : List Int) : ByteArray := if Valid xs then strOfNums (dgs xs) else ⟨#[]⟩
theorem txt_yes {xs : List Int} (h : Valid xs) : txt xs = strOfNums (dgs xs) := if_pos h
theorem txt_no {xs : List Int} (h : ¬ Valid xs) : txt xs = ⟨#[]⟩ := if_neg h

theorem ten (v : Nat) (h : v < 10) : ((⟨#[48, 49, 50, 51, 52, 53, 54, 55, 56, 57]⟩ : ByteArray).extract v (v + 1)) = strOfNums [48 + (v : Int)] := by
  have : ∀ v : Nat, v < 10 → ((⟨#[48, 49, 50, 51, 52, 53, 54, 55, 56, 57]⟩ : ByteArray).extract v (v + 1)) = strOfNums [48 + (v : Int)] := by decide +kernel
  exact this v h

theorem nums_app (xs ys : List Int) : strOfNums xs ++ strOfNums ys = strOfNums (xs ++ ys) := by
  unfold strOfNums
  rw [ByteArray.mk_append_mk, List.map_append]

theorem slice_ten (v : Nat) (h : v < 10) (w : World) : (Instr.slice 9 (.string ⟨#[48, 49, 50, 51, 52, 53, 54, 55, 56, 57]⟩) (some (.int .i64 (v : Int))) (some (.int .i64 ((v : Int) + 1))) none).run Tryz.prog w = .ok (.string (strOfNums [48 + (v : Int)])) w := by
  have hs : ((⟨#[48, 49, 50, 51, 52, 53, 54, 55, 56, 57]⟩ : ByteArray).size) = 10 := rfl
  have := run_slice_string (P := Tryz.prog) w 9 ⟨#[48, 49, 50, 51, 52, 53, 54, 55, 56, 57]⟩ .i64 .i64 (v : Int) ((v : Int) + 1) Tryz.underlying9 (by omega) (by omega) (by rw [hs]; omega)
  rw [this, Int.toNat_natCast, show ((v : Int) + 1).toNat = v + 1 by omega, ten v h]

set_option maxHeartbeats 1000000 in
theorem digits_any (ao : Option Addr) (n cap : Nat) (xs : List Int) (w : World) (h : Sl w ao n cap xs) (h7 : n ≤ 1000) (hd : Hid (∀ j, j < n → 0 ≤ el xs j ∧ el xs j ≤ 9)) :
    Calls Tryz.prog 15 #[.slice ao n cap] w (Says w (.string (strOfNums (dgs xs)))) := by
  have hbig := h.big
  have hlen := hid h.len
  go_enter Tryz.func15, Tryz.ntmps15
  go_wp2
  go_loopw [3, 4] (fun v i wr => ∃ (k : Nat) (s : ByteArray), k ≤ n ∧ v = .string s ∧ i = .int .i64 k ∧ Below w.heap.size w wr ∧ s.size = k ∧ Hid (s = strOfNums ((List.range k).map fun j => 48 + el xs j)))
    (fun _ i _ => n - (intOf i).toNat)
  case atStart => exact ⟨0, _, Nat.zero_le _, rfl, rfl, Below.refl _ _, rfl, rfl⟩
  case round =>
    obtain ⟨k, s, hk, rfl, rfl, hbr, hs, hS⟩ := hrel
    have Hs := hid hs
    have hsz : (s.size : Int) ≤ 1000 := by omega
    clear hs
    by_cases hlt : k < n
    · obtain ⟨b, off, rfl, hblt, hc⟩ := h.row (by omega)
      have hcell := (hbr.cell (p := ⟨b, off + k, none⟩) hblt).trans (hc k hlt)
      have he := hd.out k hlt
      obtain ⟨v, hv⟩ := Int.eq_ofNat_of_zero_le he.1
      have hv9 : v ≤ 9 := by omega
      rw [hv] at hcell
      have Hv := hid hv
      have hsl := fun w => slice_ten v (by omega) w
      have hz : (strOfNums [48 + (v : Int)]).size = 1 := rfl
      have hi1 : (k : Int) < n := by omega
      have hv10 : (v : Int) ≤ 9 := by omega
      clear hc he hv
      go_wp2_with fail
      go_quiet (fail)
      go_wp2
      go_roundw
      case rel =>
        refine ⟨k + 1, _, by omega, rfl, by go_num, drewN_below hbr _, by rw [ByteArray.size_append, Hs.out, hz], ?_⟩
        show s ++ strOfNums [48 + (v : Int)] = _
        rw [hS.out, nums_app, map_range_succ (fun j => 48 + el xs j), Hv.out]
      case measure => simp [intOf]; omega
    · obtain rfl : k = n := by omega
      go_wp2
      go_ret
      exact says_str (by rw [hS.out, dgs, hlen.out]) hbr

/-- A row of bytes that the call has made. -/
def OwB (w : World) (B g n cap : Nat) (ys : List Int) : Prop := w.ownsRow B 5 1 (.slice (some ⟨g, 0, none⟩) n cap) n (ys.map (Value.int .u8))
theorem OwB.len {w : World} {B g n cap : Nat} {ys : List Int} (h : OwB w B g n cap ys) : ys.length = n := by
  have := h.1
  simpa using this
theorem OwB.cell {w : World} {B g n cap : Nat} {ys : List Int} (h : OwB w B g n cap ys) {j : Nat} (hj : j < n) : w.cell? ⟨g, j, none⟩ = some (.int .u8 (el ys j)) := by
  have h1 := World.ownsRow.cellAt h j (by omega)
  rw [h1]
  have := h.len
  simp [el, show j < ys.length by omega]
theorem OwB.frozen {w : World} {B g n cap : Nat} {ys : List Int} (h : OwB w B g n cap ys) (j : Nat) : w.frozen? ⟨g, j, none⟩ = false := World.ownsRow.frozenAt h j
theorem OwB.set {w : World} {B g n cap : Nat} {ys : List Int} (h : OwB w B g n cap ys) (j : Nat) (v : Int) : OwB (w.setCell ⟨g, j, none⟩ (.int .u8 v)) B g n cap (ys.set j v) := by
  have := (World.ownsRow.stored h j (.int .u8 v)).1
  rwa [← List.map_set] at this

/-- make([]byte, n). -/
theorem make_bytes (w : World) {ops : Array Oper} {rest : List Oper} {o : Oper} {a : Act} {Q : Exit → Act → World → Prop}
    (hg : o.guard = none) (l c : Operand) (hop : o.op = Op.makeSlice 22 l c) (L C : Int) (n : Nat) (hl : a.eval l = .int .i64 L) (hc : a.eval c = .int .i64 C) (hL : L = (n : Int)) (hC : C = (n : Int)) (hn : n ≤ 2000000)
    (hK : ∀ w', OwB w' w.heap.size w.heap.size n n (List.replicate n 0) → Below w.heap.size w w' → wpList Tryz.prog ops Q rest (a.put o.dst (.slice (some ⟨w.heap.size, 0, none⟩) n n)) w') :
    wpList Tryz.prog ops Q (o :: rest) a w := by
  obtain ⟨i0, hi, hz0, hz1, hz2⟩ := info_parts infoB
  refine wpList_make_full w hg l c 22 hop w.heap.size 5 i0 (.int .u8 0) 1 Tryz.underlying22 hi hz0 hz1 _ _ _ _ n hl hc hL hC (by rw [hz2]; omega) (by unfold maxLen; omega) (Nat.le_refl _) ?_
  intro w' hown hgrow
  refine hK w' ?_ ((Below.refl _ _).grown hgrow (Nat.le_refl _) (fun k hk => by simp at hk))
  unfold OwB
  have e : (madeCells (Value.cells (.int .u8 0)) (n * 1)).toList = (List.replicate n (0 : Int)).map (Value.int .u8) := by
    rw [Nat.mul_one, show Value.cells (.int .u8 0) = #[Value.int .u8 0] from rfl, toList_madeCells_one, List.map_replicate]
  rw [← e]; exact hown

set_option maxHeartbeats 1000000 in
theorem textI_any (ao : Option Addr) (n cap : Nat) (xs : List Int) (w : World) (h : Sl w ao n cap xs) :
    Calls Tryz.prog 70 #[.slice ao n cap] w (Says w (.string (txt xs))) := by
  have hbig := h.big
  have hlen := hid h.len
  by_cases hv : Valid xs
  · have Hv := hid hv
    have h7 : n ≤ 7 := by have := hv.len; rw [hlen.out] at this; exact this
    go_enter Tryz.func70, Tryz.ntmps70
    go_wp2_with fail
    refine (validI_any _ _ _ xs _ h).mono ?_
    rintro e w1 ⟨rfl, hb1⟩
    have hsz := hb1.size
    go_wp2_with (at_make; refine make_bytes _ rfl _ _ rfl _ _ n rfl rfl rfl rfl (by omega) ?_)
    intro w2 ho2 hb2
    clear hv
    have hb3 := hb1.trans (hb2.mono hb1.size)
    go_wp2
    go_loopw [14] (fun i wr => ∃ (k : Nat), k ≤ n ∧ i = .int .i64 k ∧ Below w.heap.size w wr ∧ OwB wr w1.heap.size w1.heap.size n n (iter (fun (a : List Int) k => a.set k (48 + el xs k)) (List.replicate n 0) k))
      (fun i _ => n - (intOf i).toNat)
    case atStart => exact ⟨0, Nat.zero_le _, rfl, hb3, ho2⟩
    case round =>
      obtain ⟨k, hk, rfl, hbr, hr⟩ := hrel
      by_cases hlt : k < n
      · obtain ⟨b, off, rfl, hblt, hc⟩ := h.row (by omega)
        have hcell := (hbr.cell (p := ⟨b, off + k, none⟩) hblt).trans (hc k hlt)
        have hkx : k < xs.length := by rw [hlen.out]; exact hlt
        have hx0 := Hv.out.lo k hkx
        have hx1 := Hv.out.hi k hkx
        rw [hlen.out] at hx1
        have hcv : IntKind.u8.wrap (48 + el xs k) = 48 + el xs k := by
          rw [IntKind.wrap_u8]; omega
        clear hc hkx
        have hfr := hr.frozen k
        have hcur := hr.cell hlt
        go_wp2
        go_roundw
        case rel =>
          refine ⟨k + 1, by omega, by go_num, hbr.setCell hsz _, ?_⟩
          exact hr.set k _
        case measure => simp [intOf]; omega
      · obtain rfl : k = n := by omega
        have e : iter (fun (a : List Int) k => a.set k (48 + el xs k)) (List.replicate k 0) k = dgs xs := by rw [iter_set, dgs, hlen.out]
        rw [e] at hr
        have hcv := run_convert_bytes_arg (P := Tryz.prog) wr 22 5 Tryz.underlying22 Tryz.underlying5 w1.heap.size 0 k k (dgs xs) hr.len (fun i hi => by rw [Nat.zero_add]; exact hr.cell hi) 9 Tryz.underlying9
        clear e
        go_wp2
        go_ret
        exact says_str (by rw [txt_yes Hv.out]) hbr
  · have Hv := hid hv
    go_enter Tryz.func70, Tryz.ntmps70
    go_wp2_with fail
    refine (validI_any _ _ _ xs _ h).mono ?_
    rintro e w1 ⟨rfl, hb1⟩
    go_wp2
    go_ret
    exact says_str (by rw [txt_no Hv.out]) hb1

end Go.Proofs.YtaceiebmgnhdgaaGreatDoor
