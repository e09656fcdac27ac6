/- All signed orders, in the program and in its model. No condition. -/
import Derived.Test.YtjgaglfinpeeoacAllo
import Derived.Test.YtjgaglfinpeeoacAlls
namespace Go.Proofs.Ytjgaglfinpeeoac
open Go.RowKit

/-- The number at place k of a signed order: the sizes are xs, the signs those of the digits of s. -/
def wsF (xs : List Int) (s k : Nat) : Int := if s / 2 ^ k % 2 = 1 then -(el xs k + 1) else el xs k + 1
def wsg (xs : List Int) (s : Nat) : List Int := (List.range xs.length).map (wsF xs s)
theorem wsg_len (xs : List Int) (s : Nat) : (wsg xs s).length = xs.length := map_range_len _
theorem el_wsg {xs : List Int} {s j : Nat} (h : j < xs.length) : el (wsg xs s) j = wsF xs s j := el_map h

theorem bit_all : ∀ s : Nat, s < 8 → ∀ k : Nat, k < 3 → (bits BinOp.and IntKind.i64 ((s : Int) / 2 ^ k) 1 == 1) = decide (s / 2 ^ k % 2 = 1) := by decide +kernel

set_option maxHeartbeats 1000000 in
theorem wsI_any (ao : Option Addr) (n cap : Nat) (xs : List Int) (s : Nat) (w : World) (h : Sl w ao n cap xs) (hn : n ≤ 3) (hs : s < 8) (Hv : Hid (Valid xs)) :
    Calls Try.prog 40 #[.slice ao n cap, .int .i64 s] w (Made w (wsg xs s)) := by
  have hbig := h.big
  have hlen := hid h.len
  go_enter Try.func40, Try.ntmps40
  go_wp2_with (at_make; refine make_ints _ rfl _ _ rfl _ _ n rfl rfl rfl rfl (by omega) ?_)
  intro w2 ho2 hb2
  go_wp2
  go_loopw [13] (fun i wr => ∃ (k : Nat) (zs : List Int), k ≤ n ∧ i = .int .i64 k ∧ Below w.heap.size w wr ∧ OwS wr w.heap.size w.heap.size n n zs ∧ Hid (∀ j, j < k → el zs j = wsF xs s j))
    (fun i _ => n - (intOf i).toNat)
  case atStart => exact ⟨0, _, Nat.zero_le _, rfl, hb2, ho2, fun j hj => by omega⟩
  case round =>
    obtain ⟨k, zs, hk, rfl, hbr, hr, hz⟩ := hrel
    by_cases hlt : k < n
    · obtain ⟨b, off, rfl, hblt, hc⟩ := h.row (by omega)
      have hcell := (hbr.cell (p := ⟨b, off + k, none⟩) hblt).trans (hc k hlt)
      have hx := Hv.out.lo k (by rw [hlen.out]; exact hlt)
      have hx2 := Hv.out.hi k (by rw [hlen.out]; exact hlt)
      rw [hlen.out] at hx2
      have hx3 : el xs k ≤ 2 := by omega
      clear hc hx2
      have hki : (k : Int) < n := by omega
      have hfr := hr.frozen k
      have hcur := hr.cell hlt
      have hzl := hid hr.len
      have hr1 := hr.set k (el xs k + 1)
      have hfr1 := hr1.frozen k
      have hcur1 := hr1.cell hlt
      rw [el_set_same (by rw [hzl.out]; exact hlt)] at hcur1
      have hbit := bit_all s hs k (by omega)
      by_cases hd : s / 2 ^ k % 2 = 1
      · have hbt : (bits BinOp.and IntKind.i64 ((s : Int) / 2 ^ k) 1 == 1) = true := by rw [hbit]; exact decide_eq_true hd
        have hset : Hid (∀ j, j < k + 1 → el ((zs.set k (el xs k + 1)).set k (-(el xs k + 1))) j = wsF xs s j) := hid (upto_step (fun j hj => by rw [el_set_ne (by omega), el_set_ne (by omega)]; exact hz.out j hj) (by rw [el_set_same (by rw [List.length_set, hzl.out]; exact hlt), wsF, if_pos hd]))
        clear hbit hd
        go_wp2
        all_goals go_roundw
        case rel => exact ⟨k + 1, _, by omega, by go_num, (hbr.setCell (Nat.le_refl _) _).setCell (Nat.le_refl _) _, hr1.set k _, hset⟩
        case measure => simp [intOf]; omega
      · have hbt : (bits BinOp.and IntKind.i64 ((s : Int) / 2 ^ k) 1 == 1) = false := by rw [hbit]; exact decide_eq_false hd
        have hset : Hid (∀ j, j < k + 1 → el (zs.set k (el xs k + 1)) j = wsF xs s j) := hid (upto_step (fun j hj => by rw [el_set_ne (by omega)]; exact hz.out j hj) (by rw [el_set_same (by rw [hzl.out]; exact hlt), wsF, if_neg hd]))
        clear hbit hd
        go_wp2
        all_goals go_roundw
        case rel => exact ⟨k + 1, _, by omega, by go_num, hbr.setCell (Nat.le_refl _) _, hr1, hset⟩
        case measure => simp [intOf]; omega
    · obtain rfl : k = n := by omega
      go_wp2
      go_ret
      refine ⟨_, rfl, ?_, hbr⟩
      have e : zs = wsg xs s := ext_el (by rw [hr.len, wsg_len, hlen.out]) (fun j hj => by rw [hr.len] at hj; rw [hz.out j hj, el_wsg (by rw [hlen.out]; exact hj)])
      rw [← e]
      exact hr.own

/-- All signed orders of n numbers. -/
def allG (n : Nat) : List (List Int) := (List.range (facN n * 2 ^ n)).map fun j => wsg (ordK n (j / 2 ^ n)) (j % 2 ^ n)
theorem allG_len (n : Nat) : (allG n).length = facN n * 2 ^ n := by simp [allG]
theorem two_pos (n : Nat) : 0 < 2 ^ n := Nat.pow_pos (by omega)
theorem take_allG {n i s : Nat} (hi : i < facN n) (hs : s < 2 ^ n) : (allG n).take (i * 2 ^ n + (s + 1)) = (allG n).take (i * 2 ^ n + s) ++ [wsg (ordK n i) s] := by
  have hlt : i * 2 ^ n + s < facN n * 2 ^ n := by
    have h1 : (i + 1) * 2 ^ n ≤ facN n * 2 ^ n := Nat.mul_le_mul_right _ hi
    rw [Nat.succ_mul] at h1
    omega
  rw [← Nat.add_assoc, List.take_succ_eq_append_getElem (by rw [allG_len]; exact hlt)]
  congr 1
  have h1 : (i * 2 ^ n + s) / 2 ^ n = i := by rw [Nat.mul_comm, Nat.mul_add_div (two_pos n), Nat.div_eq_of_lt hs, Nat.add_zero]
  have h2 : (i * 2 ^ n + s) % 2 ^ n = s := by rw [Nat.mul_comm, Nat.mul_add_mod, Nat.mod_eq_of_lt hs]
  simp only [allG, List.getElem_map, List.getElem_range, h1, h2]
theorem allG_small {n : Nat} (h : n ≤ 3) : facN n ≤ 6 ∧ 2 ^ n ≤ 8 ∧ facN n * 2 ^ n ≤ 48 := by
  have h1 : ∀ n : Nat, n < 4 → facN n ≤ 6 ∧ 2 ^ n ≤ 8 := by decide
  have h2 := h1 n (by omega)
  exact ⟨h2.1, h2.2, Nat.le_trans (Nat.mul_le_mul h2.1 h2.2) (by omega)⟩

/-- One list of a list of lists. -/
theorem OwnL.item {w : World} {B C : Nat} {ao : Option Addr} {n cap : Nat} {yss : List (List Int)} (h : OwnL w B C (.slice ao n cap) yss) (hl : yss.length = n) {j : Nat} (hj : j < n) :
    ∃ g ai ci, ao = some ⟨g, 0, none⟩ ∧ B ≤ g ∧ g < C ∧ g < w.heap.size ∧ w.cell? ⟨g, j, none⟩ = some (.slice ai (ell yss j).length ci) ∧ Own w B (.slice ai (ell yss j).length ci) (ell yss j) ∧ (∀ k, (Value.slice ai (ell yss j).length ci).ownBlock = some k → k < C) := by
  subst hl
  obtain ⟨vs, h1, h2, h3, h4⟩ := h.ex
  have h0 := h1
  rcases h1.2 with ⟨e, h5⟩ | ⟨g, cap', cur, e, hB, hg, h5, h6, h7, h8⟩
  · omega
  · simp only [Value.slice.injEq] at e
    obtain ⟨rfl, -, rfl⟩ := e
    have hvl : vs.length = yss.length := by rw [h0.1, Nat.mul_one]
    have hv : vs[j]? = some vs[j] := List.getElem?_eq_getElem (by omega)
    have hc := World.ownsRow.cellAt h0 j (by omega)
    have ho := (h3 j _ hv).1
    have hlt := (h3 j _ hv).2.1
    obtain ⟨ai, ci, e, hs⟩ := ho.sl
    rw [e] at ho
    refine ⟨g, ai, ci, rfl, hB, (h2 g rfl).1, (Array.getElem?_eq_some_iff.1 hg).1, ?_, ho, fun k hk => (hlt k (by rw [e]; exact hk)).1⟩
    rw [hc, ← e]
    try simp
theorem OwnLp.blk {q : Nat → Prop} {w : World} {B C : Nat} {u : Value} {yss : List (List Int)} (h : OwnLp q w B C u yss) : ∀ k, u.ownBlock = some k → ¬ q k ∧ k < C := by
  obtain ⟨vs, _, hub, _⟩ := h.ex
  exact fun k hk => ⟨(hub k hk).2, (hub k hk).1⟩
theorem cell_same {w w' : World} {g j : Nat} (h : w'.heap[g]? = w.heap[g]?) : w'.cell? ⟨g, j, none⟩ = w.cell? ⟨g, j, none⟩ := by simp only [World.cell?, h]

def winQ (L1 L2 j : Nat) : Prop := L1 ≤ j ∧ j < L2

theorem pw_all : ∀ n : Nat, n < 4 → wrap64 ((2 : Int) ^ n) = ((2 ^ n : Nat) : Int) := by unfold wrap64; decide +kernel

set_option maxHeartbeats 4000000 in
theorem asgI_yes (n : Nat) (w : World) (hn : n ≤ 3) : Calls Try.prog 12 #[.int .i64 n] w (MadeL w (allG n)) := by
  have hsm := allG_small hn
  obtain ⟨hf6, hp8, hfp⟩ := hsm
  have Hf6 := hid hf6
  have Hp8 := hid hp8
  have Hfp := hid hfp
  clear hf6 hp8 hfp
  have hpw0 := pw_all n (by omega)
  obtain ⟨P, HP⟩ : ∃ P : Nat, Hid (P = 2 ^ n) := ⟨_, rfl⟩
  rw [← HP.out] at hpw0
  have Hpw := hid hpw0
  clear hpw0
  have hP8 : P ≤ 8 := by rw [HP.out]; exact Hp8.out
  have hni : ¬ (3 : Int) < n := by omega
  go_enter Try.func12, Try.ntmps12
  go_wp2_with fail
  refine (allI_yes n _ (by omega)).mono ?_
  rintro e w2 ⟨ua, rfl, oa, b2⟩
  have oa2 := oa
  obtain ⟨ada, cpa, rfl, -⟩ := oa.sl
  rw [allK_len] at oa2 ⊢
  have b2' : Below w.heap.size w w2 := ((Below.refl w.heap.size w).alloc (Nat.le_refl _) _).trans (b2.mono (by simp))
  have hL2 : w.heap.size + 1 ≤ w2.heap.size := by have := b2.size; simp at this; exact this
  have hO0 : OwnLp (winQ (w.heap.size + 1) w2.heap.size) w2 w.heap.size w2.heap.size (.slice (some ⟨w.heap.size, 0, none⟩) 0 0) ((allG n).take (0 * P)) := by
    rw [Nat.zero_mul, List.take_zero]
    exact ((ownLp_lit (w := w) (B := w.heap.size) (q := winQ (w.heap.size + 1) w2.heap.size) (Nat.le_refl _) (by unfold winQ; omega)).later b2).now
  have HO0 := hid hO0
  simp only [World.size_alloc] at oa2
  have Hoa := hid oa2
  clear hO0 oa oa2
  go_wp2
  go_loopw [3, 17] (fun v i wr => ∃ (k N : Nat) (ao' : Option Addr) (cap' : Nat), k ≤ facN n ∧ v = .slice ao' N cap' ∧ i = .int .i64 k ∧ Below w.heap.size w wr ∧ w2.heap.size ≤ wr.heap.size ∧ Hid (OwnLp (winQ (w.heap.size + 1) w2.heap.size) wr w.heap.size wr.heap.size (.slice ao' N cap') ((allG n).take (k * P))) ∧ Hid (∀ j, w.heap.size + 1 ≤ j → j < w2.heap.size → wr.heap[j]? = w2.heap[j]?))
    (fun _ i _ => facN n - (intOf i).toNat)
  case atStart => exact ⟨0, _, _, _, Nat.zero_le _, rfl, rfl, b2', Nat.le_refl _, HO0, hid (fun j _ _ => rfl)⟩
  case round =>
    obtain ⟨i, N, ao', cap', hik, rfl, rfl, hbr, hsw, HO, HW⟩ := hrel
    by_cases hlt : i < facN n
    · have oar : OwnL wr (w.heap.size + 1) w2.heap.size (.slice ada (facN n) cpa) (allK n) := OwnLx.kept Hoa.out hsw (fun k h1 h2 _ => HW.out k h1 h2)
      obtain ⟨g, ai, ci, rfl, hgB, hgC, hgw, hcell, hown, hblk⟩ := oar.item (allK_len n) hlt
      have hek : ell (allK n) i = ordK n i := by rw [ell_lt (by rw [allK_len]; exact hlt)]; simp [allK]
      rw [hek, ordK_len] at hcell hown hblk
      have Hown := hid hown
      have Hblk := hid hblk
      have hii : (i : Int) < (facN n : Int) := by omega
      clear hek hown hblk oar
      have hi6 : (i : Int) ≤ 6 := by have := Hf6.out; omega
      go_wp2
      rw [Hpw.out]
      obtain ⟨wo, hwo⟩ : ∃ wo : World, wo = wr := ⟨_, rfl⟩
      subst hwo
      go_loopw [3, 23] (fun v j wr => ∃ (s N : Nat) (ao' : Option Addr) (cap' : Nat), s ≤ P ∧ v = .slice ao' N cap' ∧ j = .int .i64 s ∧ Below w.heap.size w wr ∧ w2.heap.size ≤ wr.heap.size ∧ Hid (OwnLp (winQ (w.heap.size + 1) w2.heap.size) wr w.heap.size wr.heap.size (.slice ao' N cap') ((allG n).take (i * P + s))) ∧ Hid (∀ j, w.heap.size + 1 ≤ j → j < w2.heap.size → wr.heap[j]? = w2.heap[j]?) ∧ Hid (Own wr (w.heap.size + 1) (.slice ai n ci) (ordK n i)))
        (fun _ j _ => P - (intOf j).toNat)
      case atStart => exact ⟨0, _, _, _, Nat.zero_le _, rfl, rfl, hbr, hsw, HO, HW, Hown⟩
      case round =>
        obtain ⟨s, N, ao', cap', hs, rfl, rfl, hbr, hsw, HO, HW, Hown⟩ := hrel
        by_cases hst : s < P
        · have hsi : (s : Int) < (P : Int) := by omega
          have Ht : Hid ((allG n).take (i * P + (s + 1)) = (allG n).take (i * P + s) ++ [wsg (ordK n i) s]) := hid (by rw [HP.out]; exact take_allG hlt (by rw [← HP.out]; exact hst))
          have hl0 : ((allG n).take (i * P + s)).length ≤ 2000000 := by have := Hfp.out; rw [List.length_take, allG_len]; omega
          go_wp2_with fail
          refine (wsI_any _ _ _ (ordK n i) s _ Hown.out.read hn (by omega) (hid (ordK_valid (by omega) i))).mono ?_
          rintro e w4 ⟨u4, rfl, o4, b4⟩
          obtain ⟨ad4, cp4, rfl, -⟩ := o4.sl
          rw [wsg_len, ordK_len] at o4 ⊢
          have HO4 : Hid (OwnLp (winQ (w.heap.size + 1) w2.heap.size) w4 w.heap.size wr.heap.size (.slice ao' N cap') ((allG n).take (i * P + s))) := hid (HO.out.later b4)
          have hs4 := b4.size
          have hb4 := hbr.trans (b4.mono hbr.size)
          have Hblk2 := hid HO4.out.blk
          go_wp2_with (at_builtin; refine app_lstp (winQ (w.heap.size + 1) w2.heap.size) wr.heap.size w4 _ (wsg (ordK n i) s) rfl _ _ rfl w.heap.size wr.heap.size _ _ HO4.out (Nat.le_refl _) hs4 (fun j hj => by unfold winQ at hj; omega) o4 rfl rfl hl0 ?_)
          intro u' w5 ho5 hb5 hg5
          rw [← Ht.out] at ho5
          obtain ⟨ao5, cp5, rfl, -⟩ := ho5.any.sl
          obtain ⟨L5, hL5⟩ : ∃ L, L = ((allG n).take (i * P + (s + 1))).length := ⟨_, rfl⟩
          rw [← hL5] at ho5 ⊢
          have HO5 := hid ho5
          have hb6 := hb4.trans hb5
          have hs5 : w2.heap.size ≤ w5.heap.size := by have := hg5.size; omega
          have HW5 : Hid (∀ j, w.heap.size + 1 ≤ j → j < w2.heap.size → w5.heap[j]? = w2.heap[j]?) := hid (fun j h1 h2 => by
            rw [hg5.block j (by omega) (fun e => (Hblk2.out j e.symm).1 ⟨h1, h2⟩), b4.block j (by omega)]
            exact HW.out j h1 h2)
          have Hown5 : Hid (Own w5 (w.heap.size + 1) (.slice ai n ci) (ordK n i)) := hid (own_chg Hown.out (fun k hk hks => by
            have h1 := (Hown.out.blocks k hk).1
            have h2 := Hblk.out k hk
            rw [hg5.block k (by omega) (fun e => (Hblk2.out k e.symm).1 ⟨h1, h2⟩), b4.block k (by omega)]))
          clear hL5 ho5 o4 b4 hb4 hb5 hg5 HO4 hs4
          go_wp2
          go_roundw
          case rel => exact ⟨s + 1, L5, ao5, cp5, by omega, rfl, by go_num, hb6, hs5, HO5, HW5, Hown5⟩
          case measure => simp [intOf]; omega
        · obtain rfl : s = P := by omega
          have HO6 : Hid (OwnLp (winQ (w.heap.size + 1) w2.heap.size) wr w.heap.size wr.heap.size (.slice ao' N cap') ((allG n).take ((i + 1) * s))) := hid (by rw [Nat.succ_mul]; exact HO.out)
          go_wp2
          go_roundw
          case rel => exact ⟨i + 1, N, ao', cap', by omega, rfl, by go_num, hbr, hsw, HO6, HW⟩
          case measure => simp [intOf]; omega
    · obtain rfl : i = facN n := by omega
      go_wp2
      go_ret
      refine ⟨_, rfl, ?_, hbr⟩
      have := HO.out.any
      rw [HP.out] at this
      rwa [List.take_of_length_le (by rw [allG_len]; exact Nat.le_refl _)] at this

end Go.Proofs.Ytjgaglfinpeeoac
