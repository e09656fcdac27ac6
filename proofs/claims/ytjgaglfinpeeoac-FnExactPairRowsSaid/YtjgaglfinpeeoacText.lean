/- Texts of orders, in the program and in its model. Condition: the list's cells can be read. -/
import Derived.Test.YtjgaglfinpeeoacBnd
import Derived.Laws.BytesArg
namespace Go.Proofs.Ytjgaglfinpeeoac
open Go.RowKit

theorem infoB : (Try.prog.info? 5).map (fun i => (i.zero, i.size, i.bytes)) = some (some (.int .u8 0), 1, 1) := by kernel_rfl

/-- The digits of numbers, as bytes. -/
def dgs (xs : List Int) : List Int := (List.range xs.length).map fun j => 48 + el xs j
def txt (xs : List Int) : ByteArray := if Valid xs then strOfNums (dgs xs) else ⟨#[]⟩
theorem txt_yes {xs : List Int} (h : Valid xs) : txt xs = strOfNums (dgs xs) := if_pos h
theorem txt_no {xs : List Int} (h : ¬ Valid xs) : txt xs = ⟨#[]⟩ := if_neg h

theorem ten (v : Nat) (h : v < 10) : ((⟨#[48, 49, 50, 51, 52, 53, 54, 55, 56, 57]⟩ : ByteArray).extract v (v + 1)) = strOfNums [48 + (v : Int)] := by
  have : ∀ v : Nat, v < 10 → ((⟨#[48, 49, 50, 51, 52, 53, 54, 55, 56, 57]⟩ : ByteArray).extract v (v + 1)) = strOfNums [48 + (v : Int)] := by decide +kernel
  exact this v h

theorem nums_app (xs ys : List Int) : strOfNums xs ++ strOfNums ys = strOfNums (xs ++ ys) := by
  unfold strOfNums
  rw [ByteArray.mk_append_mk, List.map_append]

theorem slice_ten (v : Nat) (h : v < 10) (w : World) : (Instr.slice 9 (.string ⟨#[48, 49, 50, 51, 52, 53, 54, 55, 56, 57]⟩) (some (.int .i64 (v : Int))) (some (.int .i64 ((v : Int) + 1))) none).run Try.prog w = .ok (.string (strOfNums [48 + (v : Int)])) w := by
  have hs : ((⟨#[48, 49, 50, 51, 52, 53, 54, 55, 56, 57]⟩ : ByteArray).size) = 10 := rfl
  have := run_slice_string (P := Try.prog) w 9 ⟨#[48, 49, 50, 51, 52, 53, 54, 55, 56, 57]⟩ .i64 .i64 (v : Int) ((v : Int) + 1) Try.underlying9 (by omega) (by omega) (by rw [hs]; omega)
  rw [this, Int.toNat_natCast, show ((v : Int) + 1).toNat = v + 1 by omega, ten v h]

/-- A row of bytes that the call has made. -/
def OwB (w : World) (B g n cap : Nat) (ys : List Int) : Prop := w.ownsRow B 5 1 (.slice (some ⟨g, 0, none⟩) n cap) n (ys.map (Value.int .u8))
theorem OwB.len {w : World} {B g n cap : Nat} {ys : List Int} (h : OwB w B g n cap ys) : ys.length = n := by
  have := h.1
  simpa using this
theorem OwB.cell {w : World} {B g n cap : Nat} {ys : List Int} (h : OwB w B g n cap ys) {j : Nat} (hj : j < n) : w.cell? ⟨g, j, none⟩ = some (.int .u8 (el ys j)) := by
  have h1 := World.ownsRow.cellAt h j (by omega)
  rw [h1]
  have := h.len
  simp [el, show j < ys.length by omega]
theorem OwB.frozen {w : World} {B g n cap : Nat} {ys : List Int} (h : OwB w B g n cap ys) (j : Nat) : w.frozen? ⟨g, j, none⟩ = false := World.ownsRow.frozenAt h j
theorem OwB.set {w : World} {B g n cap : Nat} {ys : List Int} (h : OwB w B g n cap ys) (j : Nat) (v : Int) : OwB (w.setCell ⟨g, j, none⟩ (.int .u8 v)) B g n cap (ys.set j v) := by
  have := (World.ownsRow.stored h j (.int .u8 v)).1
  rwa [← List.map_set] at this

/-- make([]byte, n). -/
theorem make_bytes (w : World) {ops : Array Oper} {rest : List Oper} {o : Oper} {a : Act} {Q : Exit → Act → World → Prop}
    (hg : o.guard = none) (l c : Operand) (hop : o.op = Op.makeSlice 22 l c) (L C : Int) (n : Nat) (hl : a.eval l = .int .i64 L) (hc : a.eval c = .int .i64 C) (hL : L = (n : Int)) (hC : C = (n : Int)) (hn : n ≤ 2000000)
    (hK : ∀ w', OwB w' w.heap.size w.heap.size n n (List.replicate n 0) → Below w.heap.size w w' → wpList Try.prog ops Q rest (a.put o.dst (.slice (some ⟨w.heap.size, 0, none⟩) n n)) w') :
    wpList Try.prog ops Q (o :: rest) a w := by
  obtain ⟨i0, hi, hz0, hz1, hz2⟩ := info_parts infoB
  refine wpList_make_full w hg l c 22 hop w.heap.size 5 i0 (.int .u8 0) 1 Try.underlying22 hi hz0 hz1 _ _ _ _ n hl hc hL hC (by rw [hz2]; omega) (by unfold maxLen; omega) (Nat.le_refl _) ?_
  intro w' hown hgrow
  refine hK w' ?_ ((Below.refl _ _).grown hgrow (Nat.le_refl _) (fun k hk => by simp at hk))
  unfold OwB
  have e : (madeCells (Value.cells (.int .u8 0)) (n * 1)).toList = (List.replicate n (0 : Int)).map (Value.int .u8) := by
    rw [Nat.mul_one, show Value.cells (.int .u8 0) = #[Value.int .u8 0] from rfl, toList_madeCells_one, List.map_replicate]
  rw [← e]; exact hown

end Go.Proofs.Ytjgaglfinpeeoac
