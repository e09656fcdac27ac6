/- Foata's map and its way back, in the program. Condition: the list's cells can be read. -/
import Derived.Test.YtaceiebmgnhdgaaGreatDoorFoK
import Derived.Test.YtaceiebmgnhdgaaGreatDoorBnd
namespace Go.Proofs.YtaceiebmgnhdgaaGreatDoor
open Go.RowKit

theorem arr_of {w : World} {B g n : Nat} {ys : List Int} (h : OwS w B g n n ys) : Arr w g 3 ys := by
  have hl := h.len
  rcases h.2 with ⟨h1, _⟩ | ⟨g', cap', cur, hv, hB, hg, h1, h2, h3, h4⟩
  · simp at h1
  · simp only [Value.slice.injEq, Option.some.injEq, Addr.mk.injEq, and_true, true_and] at hv
    obtain ⟨rfl, rfl⟩ := hv
    rw [List.take_of_length_le (by rw [Array.length_toList, h3]; exact Nat.le_refl _)] at h4
    rw [Arr, ← h4]
    simpa using hg
theorem ow_of {w : World} {B g n : Nat} {ys : List Int} (h : Arr w g 3 ys) (hB : B ≤ g) (hl : ys.length = n) (hn : n ≤ 1000) : OwS w B g n n ys :=
  ⟨by simp [hl], Or.inr ⟨g, n, _, rfl, hB, h, Nat.le_refl _, by unfold maxLen; omega, by simp [hl], List.take_of_length_le (by simp [hl])⟩⟩
theorem below_of_grown' {w w1 w2 : World} {row : Option Nat} (h : Below w.heap.size w w1) (hg : w1.grownBy w2 row) (hr : ∀ k, row = some k → w.heap.size ≤ k) : Below w.heap.size w w2 :=
  h.grown hg h.size hr

set_option maxHeartbeats 2000000 in
theorem foatIW_any (ao : Option Addr) (n cap : Nat) (xs : List Int) (w : World) (h : Sl w ao n cap xs) :
    Calls Tryz.prog 101 #[.slice ao n cap, .func (.func 102) #[.agg #[]] #[]] w (Made w (onV xs (foat xs))) := by
  have hbig := h.big
  have hlen := hid h.len
  by_cases hv : Valid xs
  · have h7 : n ≤ 7 := by have := hv.len; rw [hlen.out] at this; exact this
    have Hv := hid hv
    go_enter Tryz.func101, Tryz.ntmps101
    go_wp2_with fail
    refine (validI_any _ _ _ xs _ h).mono ?_
    rintro e w1 ⟨rfl, hb1⟩
    rw [decide_eq_true hv]
    go_wp2_with (at_make; refine make_ints _ rfl _ _ rfl _ _ n rfl rfl rfl rfl (by omega) ?_)
    intro w2 ho2 hb2
    clear hv
    have hb3 := hb1.trans (hb2.mono hb1.size)
    have hsz1 := hb1.size
    have hg2 := ho2.lt.2
    have h2 := h.later hb3
    have hA2 := hid (arr_of ho2)
    obtain ⟨g, hg⟩ : ∃ g, g = w1.heap.size := ⟨_, rfl⟩
    rw [← hg] at hA2 hg2 hsz1 ⊢
    have hcn : (xs.map (Value.int .i64)).length = Nat.min n n := by
      have e : Nat.min n n = min n n := rfl
      rw [List.length_map, hlen.out, e]; omega
    have hcp : 0 < (xs.map (Value.int .i64)).length → (some ⟨g, 0, none⟩ : Option Addr) = some ⟨g, 0, none⟩ ∧ ∃ ad, ao = some ad ∧ ∀ (j : Nat) (v : Value), (xs.map (Value.int .i64))[j]? = some v → w2.cell? (ad.add j) = some v := fun hq => by
      rw [List.length_map, hlen.out] at hq
      obtain ⟨b, off, rfl, hblt, hc⟩ := h2.row hq
      refine ⟨rfl, _, rfl, fun j v hj => ?_⟩
      have hjn : j < n := by
        have := (List.getElem?_eq_some_iff.1 hj).1
        rw [List.length_map, hlen.out] at this; exact this
      rw [List.getElem?_map, List.getElem?_eq_getElem (by rw [hlen.out]; exact hjn)] at hj
      obtain rfl := Option.some.inj hj
      rw [Addr.add_lit, hc j hjn, el_lt (by rw [hlen.out]; exact hjn)]
    have hcf : 0 + (xs.map (Value.int .i64)).length ≤ ((List.replicate n (0 : Int)).map (Value.int .i64)).length := by rw [List.length_map, List.length_map, List.length_replicate, hlen.out]; omega
    have Hcn := hid hcn
    have Hcp := hid hcp
    have Hcf := hid hcf
    clear hcn hcp hcf hg
    go_wp2_with (show wpList _ _ _ (Oper.mk (some 14) _ _ _ _ _ :: _) _ _; refine copy_row rfl (.tmp 12) (.tmp 13) 35 35 rfl 3 Tryz.underlying35 sizeI1 (some ⟨g, 0, none⟩) ao n n n cap rfl rfl g 0 ((List.replicate n (0 : Int)).map (Value.int .i64)) 3 hA2.out.row (xs.map (Value.int .i64)) Hcn.out Hcp.out Hcf.out (ints1 _) ?_)
    intro w3 HG3 hg3
    have A3 : Arr w3 g 3 xs := by
      have e : w3.heap[g]? = some (.cells (splice ((List.replicate n (0 : Int)).map (Value.int .i64)) 0 (xs.map (Value.int .i64))).toArray 3 (0, 0)) := by
        first
          | exact HG3.out
          | (have e := HG3.out; rw [← List.map_replicate] at e; exact e)
      rw [map_spl, List.take_zero, List.nil_append, Nat.zero_add, hlen.out, List.drop_eq_nil_of_le (by simp), List.append_nil] at e
      exact e
    have t3 : Below w.heap.size w w3 := below_of_grown' hb3 hg3 (fun k hk => by obtain rfl := Option.some.inj hk; exact hsz1)
    have HA3 := hid A3
    clear A3 HG3 hg3 Hcn Hcp Hcf hA2 h2 hb2 ho2
    go_wp2_with fail
    refine (there_any g n xs w3 HA3.out hlen.out (by omega)).mono ?_
    rintro e w4 ⟨rfl, hA4, hG4⟩
    have t4 := below_of_grown' t3 hG4 (fun k hk => by obtain rfl := Option.some.inj hk; exact hsz1)
    have o4 : Own w4 w.heap.size (.slice (some ⟨g, 0, none⟩) n n) (foat xs) := (ow_of hA4 hsz1 (by rw [foat_len, hlen.out]) (by omega)).own
    clear hA4 hG4
    go_wp2
    go_ret
    refine ⟨_, rfl, ?_, t4⟩
    rw [onV_yes Hv.out]
    exact o4
  · have Hv := hid hv
    go_enter Tryz.func101, Tryz.ntmps101
    go_wp2_with fail
    refine (validI_any _ _ _ xs _ h).mono ?_
    rintro e w1 ⟨rfl, hb1⟩
    go_wp2
    go_ret
    refine ⟨_, rfl, ?_, hb1⟩
    rw [onV_no Hv.out]
    exact Own.nil

set_option maxHeartbeats 1000000 in
theorem foatI_any (ao : Option Addr) (n cap : Nat) (xs : List Int) (w : World) (h : Sl w ao n cap xs) :
    Calls Tryz.prog 71 #[.slice ao n cap] w (Made w (onV xs (foat xs))) := by
  go_enter Tryz.func71, Tryz.ntmps71
  go_wp2_with fail
  refine (foatIW_any _ _ _ xs _ h).mono ?_
  rintro e w2 ⟨u2, rfl, ho2, hb2⟩
  go_wp2
  go_ret
  exact ⟨_, rfl, ho2, hb2⟩

end Go.Proofs.YtaceiebmgnhdgaaGreatDoor
