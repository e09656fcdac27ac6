/- The readers by which the laws draw their inputs: whatever the bytes, each pick lies in its range, and each drawn list has few numbers. Condition: the bytes can be read. -/
import Derived.Test.YtjphaphnmclbcaaBnf
namespace Go.Proofs.Ytjphaphnmclbcaa
open Go.RowKit

/-- A slice of bytes can be read. -/
structure Slb (w : World) (bo : Option Addr) (n cap : Nat) (cs : List Int) : Prop where
  len : cs.length = n
  le : n ≤ cap
  max : cap ≤ maxLen
  bd : ∀ j, j < n → 0 ≤ el cs j ∧ el cs j ≤ 255
  row : 0 < n → ∃ b off, bo = some ⟨b, off, none⟩ ∧ b < w.heap.size ∧ ∀ j, j < n → w.cell? ⟨b, off + j, none⟩ = some (.int .u8 (el cs j))

theorem Slb.big {w : World} {bo : Option Addr} {n cap : Nat} {cs : List Int} (h : Slb w bo n cap cs) : n ≤ 9223372036854775807 := by
  have := h.le
  have := h.max
  unfold maxLen at this
  omega

theorem Slb.below {w w' : World} {B : Nat} {bo : Option Addr} {n cap : Nat} {cs : List Int} (h : Slb w bo n cap cs) (hB : w.heap.size ≤ B) (hb : Below B w w') : Slb w' bo n cap cs := by
  refine ⟨h.len, h.le, h.max, h.bd, fun hn => ?_⟩
  obtain ⟨b, off, rfl, hlt, hc⟩ := h.row hn
  exact ⟨b, off, rfl, Nat.lt_of_lt_of_le hlt hb.size, fun j hj => (hb.cell (p := ⟨b, off + j, none⟩) (Nat.lt_of_lt_of_le hlt hB)).trans (hc j hj)⟩

theorem Slb.take {w : World} {bo : Option Addr} {n cap : Nat} {cs : List Int} (h : Slb w bo n cap cs) {m : Nat} (hm : m ≤ n) : Slb w bo m cap (cs.take m) := by
  refine ⟨by rw [List.length_take, h.len]; omega, by have := h.le; omega, h.max, fun j hj => ?_, fun hn => ?_⟩
  · have e : el (cs.take m) j = el cs j := by simp [el, hj]
    rw [e]; exact h.bd j (by omega)
  · obtain ⟨b, off, rfl, hlt, hc⟩ := h.row (by omega)
    refine ⟨b, off, rfl, hlt, fun j hj => ?_⟩
    have e : el (cs.take m) j = el cs j := by simp [el, hj]
    rw [e]; exact hc j (by omega)

/-- Block R is a reader: of these bytes, which can be read and lie below it, after q picks. -/
structure Rdr (w : World) (R : Nat) (q : Nat) : Prop where
  ex : ∃ bo n cap cs, w.heap[R]? = some (.cells #[.slice bo n cap, .int .i64 (q : Int)] 74 (0, 0)) ∧ n ≤ 2000 ∧ cs.length = n ∧ (∀ j, j < n → 0 ≤ el cs j ∧ el cs j ≤ 255) ∧
    (0 < n → ∃ b off, bo = some ⟨b, off, none⟩ ∧ b < R ∧ ∀ j, j < n → w.cell? ⟨b, off + j, none⟩ = some (.int .u8 (el cs j)))

theorem Rdr.lt {w : World} {R q : Nat} (h : Rdr w R q) : R < w.heap.size := by
  obtain ⟨bo, n, cap, cs, hh, _⟩ := h.ex
  exact (Array.getElem?_eq_some_iff.1 hh).1

/-- A reader stays a reader where it and what lies below it have not turned. -/
theorem Rdr.kept {w w' : World} {R q : Nat} (h : Rdr w R q) (hb : Below (R + 1) w w') : Rdr w' R q := by
  obtain ⟨bo, n, cap, cs, hh, h1, h2, h3, h4⟩ := h.ex
  refine ⟨bo, n, cap, cs, (hb.block R (by omega)).trans hh, h1, h2, h3, fun hn => ?_⟩
  obtain ⟨b, off, rfl, hlt, hc⟩ := h4 hn
  exact ⟨b, off, rfl, hlt, fun j hj => (hb.cell (p := ⟨b, off + j, none⟩) (by show b < R + 1; omega)).trans (hc j hj)⟩

theorem Rdr.below {w w' : World} {R q : Nat} (h : Rdr w R q) (hb : Below w.heap.size w w') : Rdr w' R q := h.kept (hb.mono h.lt)

/-- What a pick turns: the reader alone. -/
def Picked (w : World) (R q : Nat) (lo hi : Int) (e : Ending) (w' : World) : Prop := ∃ v : Int, e = .returned (.int .i64 v) ∧ lo ≤ v ∧ v ≤ hi ∧ Rdr w' R (q + 1) ∧ w.grownBy w' (some R)

set_option maxHeartbeats 400000 in
theorem newReader_any (bo : Option Addr) (n cap : Nat) (cs : List Int) (w : World) (h : Slb w bo n cap cs) :
    Calls Try.prog 60 #[.slice bo n cap] w fun e w' => e = .returned (.pointer (some ⟨w.heap.size, 0, none⟩)) ∧ Rdr w' w.heap.size 0 ∧ Below w.heap.size w w' := by
  have hbig := h.big
  have hcap := h.le
  have hmax : cap ≤ 9223372036854775807 := by have := h.max; unfold maxLen at this; omega
  by_cases hn : n ≤ 2000
  · go_enter Try.func60, Try.ntmps60
    go_wp2
    go_ret
    refine ⟨rfl, ⟨bo, n, cap, cs, heap_alloc_new w _, hn, h.len, h.bd, fun hn => ?_⟩, (Below.refl _ _).alloc (Nat.le_refl _) _⟩
    obtain ⟨b, off, rfl, hlt, hc⟩ := h.row hn
    exact ⟨b, off, rfl, hlt, fun j hj => (World.cell?_alloc_lt (a := ⟨b, off + j, none⟩) _ _ hlt).trans (hc j hj)⟩
  · have ht := h.take (m := 2000) (by omega)
    obtain ⟨b, off, rfl, hlt0, hc0⟩ := h.row (by omega)
    have hc2 : (2000 : Int) ≤ cap := by omega
    clear hc0
    go_enter Try.func60, Try.ntmps60
    go_wp2
    go_ret
    refine ⟨rfl, ⟨_, 2000, cap, cs.take 2000, heap_alloc_new w _, Nat.le_refl _, ht.len, ht.bd, fun hn => ?_⟩, (Below.refl _ _).alloc (Nat.le_refl _) _⟩
    obtain ⟨b, off, hbb, hlt, hc⟩ := ht.row hn
    exact ⟨b, off, hbb, hlt, fun j hj => (World.cell?_alloc_lt (a := ⟨b, off + j, none⟩) _ _ hlt).trans (hc j hj)⟩

theorem set_far {w : World} {R b o o' : Nat} {v : Value} (h : b ≠ R) : (w.setCell ⟨R, o, none⟩ v).cell? ⟨b, o', none⟩ = w.cell? ⟨b, o', none⟩ :=
  World.cell?_setCell_other _ _ _ _ (fun e => h (congrArg Addr.block e).symm)

theorem Rdr.step {w : World} {R q : Nat} (h : Rdr w R q) : Rdr (w.setCell ⟨R, 1, none⟩ (.int .i64 ((q : Int) + 1))) R (q + 1) := by
  obtain ⟨bo, n, cap, cs, hh, h1, h2, h3, h4⟩ := h.ex
  refine ⟨bo, n, cap, cs, ?_, h1, h2, h3, fun hn => ?_⟩
  · have := heap_setCell_same w R 1 _ _ (.int .i64 ((q : Int) + 1)) hh
    rw [this]; simp
  · obtain ⟨b, off, rfl, hlt, hc⟩ := h4 hn
    refine ⟨b, off, rfl, hlt, fun j hj => ?_⟩
    rw [set_far (by omega)]
    exact hc j hj

theorem Rdr.drewN {w : World} {R q : Nat} (h : Rdr w R q) (m : Nat) : Rdr (w.drewN m) R q := ⟨h.ex⟩

theorem xor_nn {a b : Int} (ha : 0 ≤ a) (ha' : a < 4611686018427387904) (hb : 0 ≤ b) (hb' : b < 4611686018427387904) : 0 ≤ bits .xor .i64 a b := by
  obtain ⟨x, rfl⟩ := Int.eq_ofNat_of_zero_le ha
  obtain ⟨y, rfl⟩ := Int.eq_ofNat_of_zero_le hb
  have hx : x ^^^ y < 2 ^ 62 := Nat.xor_lt_two_pow (by omega) (by omega)
  have h1 : (BitVec.ofInt 64 (x : Int)).toNat = x := by
    rw [BitVec.ofInt_natCast, BitVec.toNat_ofNat]; exact Nat.mod_eq_of_lt (by omega)
  have h2 : (BitVec.ofInt 64 (y : Int)).toNat = y := by
    rw [BitVec.ofInt_natCast, BitVec.toNat_ofNat]; exact Nat.mod_eq_of_lt (by omega)
  show 0 ≤ IntKind.i64.wrap ((BitVec.ofInt 64 (x : Int) ^^^ BitVec.ofInt 64 (y : Int)).toNat : Int)
  rw [BitVec.toNat_xor, h1, h2, IntKind.wrap_i64]
  omega

theorem mixed_bd {X m : Int} (h0 : 0 ≤ X) (h1 : X < 4611686018427387904) (hm : 1 ≤ m) : 0 ≤ (bits .xor .i64 X (X / 64)).tmod m ∧ (bits .xor .i64 X (X / 64)).tmod m ≤ m - 1 := by
  have hx := xor_nn h0 h1 (show 0 ≤ X / 64 by omega) (by omega)
  rw [Int.tmod_eq_emod_of_nonneg hx]
  exact ⟨Int.emod_nonneg _ (by omega), by have := Int.emod_lt_of_pos (bits .xor .i64 X (X / 64)) (show 0 < m by omega); omega⟩

theorem pick_bd {a b m : Int} {q n : Nat} (ha : 0 ≤ a) (ha' : a ≤ 255) (hb : 0 ≤ b) (hb' : b ≤ 255) (hq : q ≤ 100000) (hm : 1 ≤ m) :
    0 ≤ (bits .xor .i64 (wrap64 (a * 131 + b * 1117 + q * 29 + wrap64 (wrap64 ((q : Int) / n) * 53))) (wrap64 ((wrap64 (a * 131 + b * 1117 + q * 29 + wrap64 (wrap64 ((q : Int) / n) * 53))).tdiv 64))).tmod m ∧
    (bits .xor .i64 (wrap64 (a * 131 + b * 1117 + q * 29 + wrap64 (wrap64 ((q : Int) / n) * 53))) (wrap64 ((wrap64 (a * 131 + b * 1117 + q * 29 + wrap64 (wrap64 ((q : Int) / n) * 53))).tdiv 64))).tmod m ≤ m - 1 := by
  have z0 : 0 ≤ (q : Int) / n := Int.ediv_nonneg (by omega) (by omega)
  have z1 : (q : Int) / n ≤ q := Int.ediv_le_self _ (by omega)
  generalize (q : Int) / n = z at z0 z1
  rw [IntWalk.wrap64_in z ⟨by omega, by omega⟩, IntWalk.wrap64_in (z * 53) ⟨by omega, by omega⟩, IntWalk.wrap64_in (a * 131 + b * 1117 + q * 29 + z * 53) ⟨by omega, by omega⟩]
  have h0 : 0 ≤ a * 131 + b * 1117 + q * 29 + z * 53 := by omega
  have h1 : a * 131 + b * 1117 + q * 29 + z * 53 < 4611686018427387904 := by omega
  generalize a * 131 + b * 1117 + (q : Int) * 29 + z * 53 = X at h0 h1
  rw [Int.tdiv_eq_ediv_of_nonneg h0, IntWalk.wrap64_in (X / 64) ⟨by omega, by omega⟩]
  exact mixed_bd h0 h1 hm

set_option maxHeartbeats 1000000 in
theorem pick_any (R q : Nat) (m : Int) (w : World) (h : Rdr w R q) (hq : q ≤ 100000) (hm : m ≤ 1000000) :
    Calls Try.prog 62 #[.pointer (some ⟨R, 0, none⟩), .int .i64 m] w (Picked w R q 0 (max m 1 - 1)) := by
  have hst := h.step
  have hgr : w.grownBy (w.setCell ⟨R, 1, none⟩ (.int .i64 ((q : Int) + 1))) (some R) := grown_set
  obtain ⟨bo, n, cap, cs, hh, h1, h2, h3, h4⟩ := h.ex
  have c0 := cell_of_row w R 0 _ _ (0, 0) hh
  have c1 := cell_of_row w R 1 _ _ (0, 0) hh
  have f1 := frozen_of_row w R 1 _ _ hh
  simp only [List.getElem?_toArray, List.getElem?_cons_zero, List.getElem?_cons_succ] at c0 c1
  have hmin := Int.le_max_right m 1
  have Hst := hid hst
  have Hgr := hid hgr
  have H4 := hid h4
  have H3 := hid h3
  clear hst hgr h4 h3 hh h
  by_cases hm1 : m < 1
  · go_enter Try.func62, Try.ntmps62
    go_wp2
    go_ret
    exact ⟨0, rfl, Int.le_refl _, by omega, Hst.out, Hgr.out⟩
  · by_cases hn : n = 0
    · subst hn
      go_enter Try.func62, Try.ntmps62
      go_wp2
      go_ret
      exact ⟨0, rfl, Int.le_refl _, by omega, Hst.out, Hgr.out⟩
    · obtain ⟨b, off, rfl, hlt, hc⟩ := H4.out (by omega)
      have hbR : ¬ b = R := by omega
      by_cases hqn : q < n
      · have hcq := hc q hqn
        have hbd := H3.out q hqn
        have hb0 := hbd.1
        have hb1 := hbd.2
        have hcq' : (w.setCell ⟨R, 1, none⟩ (.int .i64 ((q : Int) + 1))).cell? ⟨b, off + q, none⟩ = some (.int .u8 (el cs q)) := by
          rw [set_far hbR]; exact hcq
        have hmm : max m 1 = m := by omega
        have Hmm := hid hmm
        clear hc hbd hmm
        go_enter Try.func62, Try.ntmps62
        go_wp2
        go_ret
        exact ⟨_, rfl, Int.emod_nonneg _ (by omega), by rw [Hmm.out]; have := Int.emod_lt_of_pos (el cs q) (show 0 < m by omega); omega, Hst.out, Hgr.out⟩
      · obtain ⟨i1, hi1⟩ : ∃ i1 : Nat, i1 = q % n := ⟨_, rfl⟩
        obtain ⟨i2, hi2⟩ : ∃ i2 : Nat, i2 = (q * 7 + 3) % n := ⟨_, rfl⟩
        have hl1 : i1 < n := by rw [hi1]; exact Nat.mod_lt _ (by omega)
        have hl2 : i2 < n := by rw [hi2]; exact Nat.mod_lt _ (by omega)
        have e1 : (q : Int) % n = i1 := by rw [hi1]; exact (Int.natCast_emod q n).symm
        have e2 : ((q : Int) * 7 + 3) % n = i2 := by rw [hi2]; simp
        have hw : ∀ o, (w.setCell ⟨R, 1, none⟩ (.int .i64 ((q : Int) + 1))).cell? ⟨b, o, none⟩ = w.cell? ⟨b, o, none⟩ := fun o => set_far hbR
        have k1 := (hw (off + i1)).trans (hc i1 hl1)
        have k2 := (hw (off + i2)).trans (hc i2 hl2)
        have b1 := H3.out i1 hl1
        have b2 := H3.out i2 hl2
        have b10 := b1.1
        have b11 := b1.2
        have b20 := b2.1
        have b21 := b2.2
        have hmm : max m 1 = m := by omega
        have Hmm := hid hmm
        clear hc hmm hw hi1 hi2 b1 b2
        go_enter Try.func62, Try.ntmps62
        go_wp2
        go_quiet (fail)
        go_wp2
        go_ret
        have hpb := pick_bd (n := n) b10 b11 b20 b21 hq (show 1 ≤ m by omega)
        exact ⟨_, rfl, hpb.1, by rw [Hmm.out]; exact hpb.2, Hst.out.drewN _, grown_drewN Hgr.out _⟩

end Go.Proofs.Ytjphaphnmclbcaa
