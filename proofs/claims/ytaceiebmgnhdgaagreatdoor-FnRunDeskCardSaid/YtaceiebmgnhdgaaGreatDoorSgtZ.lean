/- Texts of signed orders, in the program and in its model. Condition: the list's cells can be read; of the program that the library's table of powers of ten holds what its initialiser lays, and that the numbers have 64 bits. -/
import Derived.Test.YtaceiebmgnhdgaaGreatDoorBnd
import Derived.Test.YtaceiebmgnhdgaaGreatDoorBldZ
import Derived.Test.YtaceiebmgnhdgaaGreatDoorSgn
import Derived.Lib.LaidTab
namespace Go.Proofs.YtaceiebmgnhdgaaGreatDoor
open Go.RowKit

theorem itoa_dg {x : Int} (h : -9 ≤ x ∧ x ≤ 9) : Lib.itoa x = dgT x := by
  unfold Lib.itoa dgT
  split
  · rw [Lib.decDigits, dif_pos (by omega)]
  · rw [Lib.decDigits, dif_pos (by omega)]
theorem tenB (v : Nat) (h : v < 10) : ((⟨#[48, 49, 50, 51, 52, 53, 54, 55, 56, 57]⟩ : ByteArray).extract v (v + 1)) = BA (dgT (v : Int)) := by
  have : ∀ v : Nat, v < 10 → ((⟨#[48, 49, 50, 51, 52, 53, 54, 55, 56, 57]⟩ : ByteArray).extract v (v + 1)) = BA (dgT (v : Int)) := by decide +kernel
  exact this v h
theorem slice_tenB (v : Nat) (h : v < 10) (w : World) : (Instr.slice 9 (.string ⟨#[48, 49, 50, 51, 52, 53, 54, 55, 56, 57]⟩) (some (.int .i64 (v : Int))) (some (.int .i64 ((v : Int) + 1))) none).run Tryz.prog w = .ok (.string (BA (dgT (v : Int)))) w := by
  have hs : ((⟨#[48, 49, 50, 51, 52, 53, 54, 55, 56, 57]⟩ : ByteArray).size) = 10 := rfl
  have := run_slice_string (P := Tryz.prog) w 9 ⟨#[48, 49, 50, 51, 52, 53, 54, 55, 56, 57]⟩ .i64 .i64 (v : Int) ((v : Int) + 1) Tryz.underlying9 (by omega) (by omega) (by rw [hs]; omega)
  rw [this, Int.toNat_natCast, show ((v : Int) + 1).toNat = v + 1 by omega, tenB v h]
theorem minus_dg (v : Nat) (h1 : 1 ≤ v) : (⟨#[45]⟩ : ByteArray) ++ BA (dgT (v : Int)) = BA (dgT (-(v : Int))) := by
  have e : (⟨#[45]⟩ : ByteArray) = BA [45] := rfl
  rw [e, BA_app]
  congr 1
  unfold dgT
  rw [if_neg (by omega), if_pos (by omega)]
  have : (-(v : Int)).natAbs = (v : Int).toNat := by omega
  rw [this]
  rfl

set_option maxHeartbeats 1000000 in
theorem numP_any (v : Nat) (h : v < 10) (w : World) :
    Calls Tryz.prog 28 #[.int .i64 (v : Int)] w fun e w' => e = .returned (.string (BA (dgT (v : Int)))) ∧ w' = w := by
  have hsl := fun w => slice_tenB v h w
  have h0 : ¬ (v : Int) < 0 := by omega
  have h9 : (v : Int) < 10 := by omega
  have h8 : (v : Int) ≤ 9 := by omega
  go_enter Tryz.func28, Tryz.ntmps28
  go_wp2
  go_ret
  exact ⟨rfl, rfl⟩

set_option maxHeartbeats 1000000 in
theorem numN_any (v : Nat) (h : v < 10) (h1 : 1 ≤ v) (w : World) :
    Calls Tryz.prog 28 #[.int .i64 (-(v : Int))] w fun e w' => e = .returned (.string (BA (dgT (-(v : Int))))) ∧ w' = w := by
  have h0 : (-(v : Int)) < 0 := by omega
  have h9 : (v : Int) ≤ 9 := by omega
  have hz := BA_size (dgT (v : Int))
  have hz2 : (dgT (v : Int)).length = 1 := by rw [dgT_len, if_neg (by omega)]
  rw [hz2] at hz
  have Hm := hid (minus_dg v h1)
  have hn : - -(v : Int) = v := by omega
  generalize hg : BA (dgT (v : Int)) = s at *
  go_enter Tryz.func28, Tryz.ntmps28
  go_wp2_with fail
  refine (numP_any v h _).mono ?_
  rintro e w' ⟨rfl, rfl⟩
  rw [hg]
  go_wp2
  go_ret
  exact ⟨ret_eq (congrArg Value.string Hm.out), rfl⟩

theorem num_any (x : Int) (h : -9 ≤ x ∧ x ≤ 9) (w : World) :
    Calls Tryz.prog 28 #[.int .i64 x] w fun e w' => e = .returned (.string (BA (dgT x))) ∧ w' = w := by
  by_cases h0 : 0 ≤ x
  · obtain ⟨v, rfl⟩ := Int.eq_ofNat_of_zero_le h0
    exact numP_any v (by omega) w
  · obtain ⟨v, hv⟩ := Int.eq_ofNat_of_zero_le (a := -x) (by omega)
    obtain rfl : x = -(v : Int) := by omega
    exact numN_any v (by omega) (by omega) w

set_option maxHeartbeats 1000000 in
theorem sgtS_any (ao : Option Addr) (n cap : Nat) (xs : List Int) (w : World) (h : Sl w ao n cap xs) :
    Calls Tryz.prog 18 #[.slice ao n cap] w (Says w (.string (BA (txW xs)))) := by
  have hbig := h.big
  have hlen := hid h.len
  by_cases hv : SV xs
  · have Hv := hid hv
    have h5 : n ≤ 5 := by have := hv.len; rw [hlen.out] at this; exact this
    go_enter Tryz.func18, Tryz.ntmps18
    go_wp2_with fail
    refine (svS0_any _ _ _ xs _ h).mono ?_
    rintro e w1 ⟨rfl, hb1⟩
    rw [decide_eq_true Hv.out]
    go_wp2
    go_loopw [3, 4] (fun v i wr => ∃ (k : Nat) (s : ByteArray), k ≤ n ∧ v = .string s ∧ i = .int .i64 k ∧ Below w.heap.size w wr ∧ Hid (s = BA ((xs.take k).flatMap dgT)) ∧ s.size ≤ 10)
      (fun _ i _ => n - (intOf i).toNat)
    case atStart => exact ⟨0, _, Nat.zero_le _, rfl, rfl, hb1, hid rfl, Nat.zero_le _⟩
    case round =>
      obtain ⟨k, s, hk, rfl, rfl, hbr, hS, hs10⟩ := hrel
      have hsz : (s.size : Int) ≤ 10 := by omega
      by_cases hlt : k < n
      · obtain ⟨b, off, rfl, hblt, hc⟩ := h.row (by omega)
        have hcell := (hbr.cell (p := ⟨b, off + k, none⟩) hblt).trans (hc k hlt)
        have hkx : k < xs.length := by rw [hlen.out]; exact hlt
        have hbd := sv_bd Hv.out _ (el_mem hkx)
        have hb9 : -9 ≤ el xs k ∧ el xs k ≤ 9 := by omega
        have hz := BA_size (dgT (el xs k))
        have hz2 : (BA (dgT (el xs k))).size ≤ 2 := by rw [hz, dgT_len]; split <;> omega
        have Hf := hid (flat_succ hkx)
        have Hl := hid (flat_len (xs.take (k + 1)))
        clear hc hbd hz
        go_wp2_with fail
        refine (num_any _ hb9 _).mono ?_
        rintro e w2 ⟨rfl, rfl⟩
        generalize hg : BA (dgT (el xs k)) = t at *
        go_wp2
        go_roundw
        case rel =>
          have e1 : s ++ t = BA ((xs.take (k + 1)).flatMap dgT) := by rw [hS.out, ← hg, BA_app, Hf.out]
          refine ⟨k + 1, _, by omega, rfl, by go_num, hbr, e1, ?_⟩
          rw [e1, BA_size]
          have := Hl.out
          rw [List.length_take] at this
          omega
        case measure => simp [intOf]; omega
      · obtain rfl : k = n := by omega
        go_wp2
        go_ret
        exact says_str (by rw [hS.out, txW_yes Hv.out, ← hlen.out, List.take_length]) hbr
  · have Hv := hid hv
    go_enter Tryz.func18, Tryz.ntmps18
    go_wp2_with fail
    refine (svS0_any _ _ _ xs _ h).mono ?_
    rintro e w1 ⟨rfl, hb1⟩
    rw [decide_eq_false Hv.out]
    go_wp2
    go_ret
    exact says_str (by rw [txW_no Hv.out]; rfl) hb1

/-- The table that Itoa reads. -/
def Pow (w : World) : Prop := Lib.TabIs Tryz.prog w "internal/strconv.uint64pow10" .u64 Lib.pow10Tab
theorem gPow : Tryz.prog.globalNamed "internal/strconv.uint64pow10" = some 3 := by kernel_rfl
theorem Pow.lt {w : World} (h : Pow w) : 3 < w.heap.size := by
  have h1 := h
  unfold Pow Lib.TabIs World.var? at h1
  rw [gPow, Option.bind_some] at h1
  rcases Nat.lt_or_ge 3 w.heap.size with e | e
  · exact e
  · rw [Array.getElem?_eq_none (by omega)] at h1
    cases h1
theorem Pow.below {w w' : World} {B : Nat} (h : Pow w) (hb : Below B w w') (h0 : 3 < B) : Pow w' := by
  unfold Pow Lib.TabIs World.var? at h ⊢
  rw [gPow] at h ⊢
  rw [Option.bind_some] at h ⊢
  rw [hb.block _ h0]
  exact h
theorem Pow.later {w w' : World} (h : Pow w) (hb : Below w.heap.size w w') : Pow w' := h.below hb h.lt

theorem grow_below (B : Nat) (w : World) (hB : B ≤ w.heap.size) (k : Nat) (os : Array Obj) : Below B w (Sort.grow (w.drewN k) os) := by
  refine ⟨rfl, rfl, rfl, ?_, fun j hj => ?_⟩
  · show w.heap.size ≤ (w.heap ++ os).size
    rw [Array.size_append]; omega
  · show (w.heap ++ os)[j]? = w.heap[j]?
    rw [Array.getElem?_append_left (by omega)]
theorem bld_grow {T e : TypeId} {B b : Nat} {bs : List Value} {w : World} (h : Lib.IsBuilder T e B b bs w) (k : Nat) (os : Array Obj) : Lib.IsBuilder T e B b bs (Sort.grow (w.drewN k) os) := by
  have go : ∀ p, Lib.BuilderAt T e B b p bs w → Lib.BuilderAt T e B b p bs (Sort.grow (w.drewN k) os) := fun p h => by
    have hlt := h.lt
    obtain ⟨hB, v, hb, ho, hne⟩ := h
    have hg : w.grownBy (Sort.grow (w.drewN k) os) none := by
      have := grow_below w.heap.size w (Nat.le_refl _) k os
      exact ⟨this.os, this.tape, this.output, this.size, fun j hj _ => this.block j hj⟩
    exact ⟨hB, v, (hg.block b hlt (by simp)).trans hb, ho.kept hg (by cases hv : v.ownBlock <;> simp), hne⟩
  rcases h with h | h
  · exact Or.inl (go _ h)
  · exact Or.inr (go _ h)
theorem bytes_app (l m : List UInt8) : Lib.byteCells l ++ Lib.strCells (BA m) = Lib.byteCells (l ++ m) := by
  simp [Lib.byteCells, Lib.strCells, BA]

end Go.Proofs.YtaceiebmgnhdgaaGreatDoor
