/- The readers by which the laws draw their inputs: whatever the bytes, each pick lies in its range, and each drawn list has few numbers. Condition: the bytes can be read. -/
import Derived.Test.YtlhphgldmefefacOrd1S
namespace Go.Proofs.Ytlhphgldmefefac
open Go.RowKit

/-- A slice of bytes can be read. -/
structure Slb (w : World) (bo : Option Addr) (n cap : Nat) (cs : List Int) : Prop where
  len : cs.length = n
  le : n ≤ cap
  max : cap ≤ maxLen
  bd : ∀ j, j < n → 0 ≤ el cs j ∧ el cs j ≤ 255
  row : 0 < n → ∃ b off, bo = some ⟨b, off, none⟩ ∧ b < w.heap.size ∧ ∀ j, j < n → w.cell? ⟨b, off + j, none⟩ = some (.int .u8 (el cs j))

theorem Slb.big {w : World} {bo : Option Addr} {n cap : Nat} {cs : List Int} (h : Slb w bo n cap cs) : n ≤ 9223372036854775807 := by
  have := h.le
  have := h.max
  unfold maxLen at this
  omega

theorem Slb.below {w w' : World} {B : Nat} {bo : Option Addr} {n cap : Nat} {cs : List Int} (h : Slb w bo n cap cs) (hB : w.heap.size ≤ B) (hb : Below B w w') : Slb w' bo n cap cs := by
  refine ⟨h.len, h.le, h.max, h.bd, fun hn => ?_⟩
  obtain ⟨b, off, rfl, hlt, hc⟩ := h.row hn
  exact ⟨b, off, rfl, Nat.lt_of_lt_of_le hlt hb.size, fun j hj => (hb.cell (p := ⟨b, off + j, none⟩) (Nat.lt_of_lt_of_le hlt hB)).trans (hc j hj)⟩

theorem Slb.take {w : World} {bo : Option Addr} {n cap : Nat} {cs : List Int} (h : Slb w bo n cap cs) {m : Nat} (hm : m ≤ n) : Slb w bo m cap (cs.take m) := by
  refine ⟨by rw [List.length_take, h.len]; omega, by have := h.le; omega, h.max, fun j hj => ?_, fun hn => ?_⟩
  · have e : el (cs.take m) j = el cs j := by simp [el, hj]
    rw [e]; exact h.bd j (by omega)
  · obtain ⟨b, off, rfl, hlt, hc⟩ := h.row (by omega)
    refine ⟨b, off, rfl, hlt, fun j hj => ?_⟩
    have e : el (cs.take m) j = el cs j := by simp [el, hj]
    rw [e]; exact hc j (by omega)

theorem set_far {w : World} {R b o o' : Nat} {v : Value} (h : b ≠ R) : (w.setCell ⟨R, o, none⟩ v).cell? ⟨b, o', none⟩ = w.cell? ⟨b, o', none⟩ :=
  World.cell?_setCell_other _ _ _ _ (fun e => h (congrArg Addr.block e).symm)

theorem xor_nn {a b : Int} (ha : 0 ≤ a) (ha' : a < 4611686018427387904) (hb : 0 ≤ b) (hb' : b < 4611686018427387904) : 0 ≤ bits .xor .i64 a b := by
  obtain ⟨x, rfl⟩ := Int.eq_ofNat_of_zero_le ha
  obtain ⟨y, rfl⟩ := Int.eq_ofNat_of_zero_le hb
  have hx : x ^^^ y < 2 ^ 62 := Nat.xor_lt_two_pow (by omega) (by omega)
  have h1 : (BitVec.ofInt 64 (x : Int)).toNat = x := by
    rw [BitVec.ofInt_natCast, BitVec.toNat_ofNat]; exact Nat.mod_eq_of_lt (by omega)
  have h2 : (BitVec.ofInt 64 (y : Int)).toNat = y := by
    rw [BitVec.ofInt_natCast, BitVec.toNat_ofNat]; exact Nat.mod_eq_of_lt (by omega)
  show 0 ≤ IntKind.i64.wrap ((BitVec.ofInt 64 (x : Int) ^^^ BitVec.ofInt 64 (y : Int)).toNat : Int)
  rw [BitVec.toNat_xor, h1, h2, IntKind.wrap_i64]
  omega

theorem mixed_bd {X m : Int} (h0 : 0 ≤ X) (h1 : X < 4611686018427387904) (hm : 1 ≤ m) : 0 ≤ (bits .xor .i64 X (X / 64)).tmod m ∧ (bits .xor .i64 X (X / 64)).tmod m ≤ m - 1 := by
  have hx := xor_nn h0 h1 (show 0 ≤ X / 64 by omega) (by omega)
  rw [Int.tmod_eq_emod_of_nonneg hx]
  exact ⟨Int.emod_nonneg _ (by omega), by have := Int.emod_lt_of_pos (bits .xor .i64 X (X / 64)) (show 0 < m by omega); omega⟩

theorem pick_bd {a b m : Int} {q n : Nat} (ha : 0 ≤ a) (ha' : a ≤ 255) (hb : 0 ≤ b) (hb' : b ≤ 255) (hq : q ≤ 100000) (hm : 1 ≤ m) :
    0 ≤ (bits .xor .i64 (wrap64 (a * 131 + b * 1117 + q * 29 + wrap64 (wrap64 ((q : Int) / n) * 53))) (wrap64 ((wrap64 (a * 131 + b * 1117 + q * 29 + wrap64 (wrap64 ((q : Int) / n) * 53))).tdiv 64))).tmod m ∧
    (bits .xor .i64 (wrap64 (a * 131 + b * 1117 + q * 29 + wrap64 (wrap64 ((q : Int) / n) * 53))) (wrap64 ((wrap64 (a * 131 + b * 1117 + q * 29 + wrap64 (wrap64 ((q : Int) / n) * 53))).tdiv 64))).tmod m ≤ m - 1 := by
  have z0 : 0 ≤ (q : Int) / n := Int.ediv_nonneg (by omega) (by omega)
  have z1 : (q : Int) / n ≤ q := Int.ediv_le_self _ (by omega)
  generalize (q : Int) / n = z at z0 z1
  rw [IntWalk.wrap64_in z ⟨by omega, by omega⟩, IntWalk.wrap64_in (z * 53) ⟨by omega, by omega⟩, IntWalk.wrap64_in (a * 131 + b * 1117 + q * 29 + z * 53) ⟨by omega, by omega⟩]
  have h0 : 0 ≤ a * 131 + b * 1117 + q * 29 + z * 53 := by omega
  have h1 : a * 131 + b * 1117 + q * 29 + z * 53 < 4611686018427387904 := by omega
  generalize a * 131 + b * 1117 + (q : Int) * 29 + z * 53 = X at h0 h1
  rw [Int.tdiv_eq_ediv_of_nonneg h0, IntWalk.wrap64_in (X / 64) ⟨by omega, by omega⟩]
  exact mixed_bd h0 h1 hm

end Go.Proofs.Ytlhphgldmefefac
