/- Lines written back, in the model and the program. Condition: the list's cells can be read. -/
import Derived.Test.YtlhphgldmefefabLin2
namespace Go.Proofs.Ytlhphgldmefefab
open Go.RowKit

set_option maxHeartbeats 1000000 in
theorem frLS_any (ao : Option Addr) (n cap : Nat) (xs : List Int) (w : World) (h : Sl w ao n cap xs) :
    Calls Try.prog 53 #[.slice ao n cap] w (Made w (onV xs (frL xs))) := by
  have hbig := h.big
  have hlen := hid h.len
  by_cases hv : Valid xs
  · have h7 : n ≤ 7 := by have := hv.len; rw [hlen.out] at this; exact this
    have Hv := hid hv
    go_enter Try.func53, Try.ntmps53
    go_wp2_with fail
    refine (validS_any _ _ _ xs _ h).mono ?_
    rintro e w1 ⟨rfl, hb1⟩
    have hsz := hb1.size
    go_wp2_with fail
    refine (frL0_any _ _ _ xs _ (h.later hb1) Hv.out).mono ?_
    rintro e w2 ⟨u2, rfl, ho2, hb2⟩
    go_wp2
    go_ret
    refine ⟨_, rfl, ?_, hb1.trans (hb2.mono hsz)⟩
    rw [onV_yes Hv.out]
    exact ho2.mono hsz
  · have Hv := hid hv
    go_enter Try.func53, Try.ntmps53
    go_wp2_with fail
    refine (validS_any _ _ _ xs _ h).mono ?_
    rintro e w1 ⟨rfl, hb1⟩
    go_wp2
    go_ret
    refine ⟨_, rfl, ?_, hb1⟩
    rw [onV_no Hv.out]
    exact Own.nil

theorem OwS.mono' {B B' g n cap : Nat} {w : World} {ys : List Int} (h : OwS w B g n cap ys) (hB : B' ≤ B) : OwS w B' g n cap ys := by
  refine ⟨h.1, ?_⟩
  rcases h.2 with ⟨h1, _⟩ | ⟨g', cap', cur, hv, hg, r⟩
  · simp at h1
  · exact Or.inr ⟨g', cap', cur, hv, Nat.le_trans hB hg, r⟩
/-- The greatest of the first k values, 0 at first. -/
def grP (xs : List Int) (k : Nat) : Int := if k = 0 then 0 else mxP xs k

set_option maxHeartbeats 4000000 in
theorem lineBack_any (ao : Option Addr) (n cap : Nat) (xs : List Int) (w : World) (h : Sl w ao n cap xs) (hv : Valid xs) :
    Calls Try.prog 82 #[.agg #[], .slice ao n cap] w (Made w (frL xs)) := by
  have hbig := h.big
  have hlen := hid h.len
  have h7 : n ≤ 7 := by have := hv.len; rw [hlen.out] at this; exact this
  have Hv := hid hv
  clear hv
  have hb0 : Below w.heap.size w (w.alloc (.cells #[] 55)) := (Below.refl _ _).alloc (Nat.le_refl _) _
  go_enter Try.func82, Try.ntmps82
  go_wp2_with (at_make; refine make_ints _ rfl _ _ rfl _ _ n rfl rfl rfl rfl (by omega) ?_)
  intro w2 ho2 hb2
  have hb3 : Below w.heap.size w w2 := hb0.trans (hb2.mono (Nat.le_succ _))
  have ho3 := ho2.mono' (Nat.le_succ w.heap.size)
  have hgB : w.heap.size ≤ w.heap.size + 1 := Nat.le_succ _
  clear ho2 hb2 hb0
  go_wp2
  go_loopw [6, 14] (fun v i wr => ∃ (k : Nat), k ≤ n ∧ v = .int .i64 (grP xs k) ∧ i = .int .i64 k ∧ Below w.heap.size w wr ∧ OwS wr w.heap.size (w.heap.size + 1) n n (frP xs k))
    (fun _ i _ => n - (intOf i).toNat)
  case atStart => exact ⟨0, Nat.zero_le _, rfl, rfl, hb3, by rw [show frP xs 0 = List.replicate n 0 by rw [frP, iter, hlen.out]]; exact ho3⟩
  case round =>
    obtain ⟨k, hk, rfl, rfl, hbr, hr⟩ := hrel
    by_cases hlt : k < n
    · obtain ⟨b, off, rfl, hblt, hc⟩ := h.row (by omega)
      have hcx := (hbr.cell (p := ⟨b, off + k, none⟩) hblt).trans (hc k hlt)
      have hi1 : (k : Int) < n := by omega
      have hkx : k < xs.length := by rw [hlen.out]; exact hlt
      obtain ⟨m1, m2, m3, m4⟩ := mxP_mem Hv.out k hkx
      obtain ⟨x, hx⟩ := Int.eq_ofNat_of_zero_le (Hv.out.lo k hkx)
      have hxn := Hv.out.hi k hkx
      rw [hlen.out, hx] at hxn
      have hxn2 : x < n := by omega
      obtain ⟨M, hM⟩ : ∃ M, M = mxP xs (k + 1) := ⟨_, rfl⟩
      obtain ⟨G, hG⟩ : ∃ G, G = grP xs k := ⟨_, rfl⟩
      have hGx : Hid ((G < (x : Int) → M = x) ∧ ((x : Int) ≤ G → M = G)) := hid (by
        rw [hM, hG, grP, mxP, hx]
        by_cases e : k = 0
        · subst e
          have : mxP xs 0 = -1 := rfl
          rw [if_pos rfl, this, if_pos (by omega)]
          exact ⟨fun _ => rfl, fun h1 => by omega⟩
        · rw [if_neg e]
          by_cases c : mxP xs k < (x : Int)
          · rw [if_pos c]; exact ⟨fun _ => rfl, fun h1 => by omega⟩
          · rw [if_neg c]; exact ⟨fun h1 => absurd h1 c, fun _ => rfl⟩)
      have hMg : Hid (M = grP xs (k + 1)) := hid (by rw [grP, if_neg (by omega), hM])
      rw [← hG]
      rw [hx] at hcx
      have hfr := hr.frozen x
      have hcl := hr.cell hxn2
      have hrM := hr.set x M
      have hbM := hbr.setCell (p := ⟨w.heap.size + 1, x, none⟩) hgB (.int .i64 M)
      have hsame : (k + 1 < n → el xs (k + 1) < M → frP xs (k + 1) = ((frP xs k).set x M).set x (el xs (k + 1))) ∧ ((¬ (k + 1 < n) ∨ ¬ el xs (k + 1) < M) → frP xs (k + 1) = (frP xs k).set x M) := by
        rw [frP_succ, hx, Int.toNat_natCast, nx, ← hM, hlen.out]
        constructor
        · intro a1 a2
          rw [if_pos ⟨a1, a2⟩, List.set_set]
        · intro a1
          rw [if_neg (fun hh => by rcases a1 with a1 | a1; exact a1 hh.1; exact a1 hh.2)]
      have Hsame := hid hsame
      have Hc := hid hc
      clear m1 m2 m3 m4 hx hG hM hsame hc hr
      by_cases hc1 : k + 1 < n
      · have hcy := (hbM.cell (p := ⟨b, off + (k + 1), none⟩) hblt).trans (Hc.out (k + 1) hc1)
        have hcy0 := (hbr.cell (p := ⟨b, off + (k + 1), none⟩) hblt).trans (Hc.out (k + 1) hc1)
        have hne1 : ¬ b = w.heap.size + 1 := by omega
        have hne2 : ¬ w.heap.size + 1 = b := by omega
        have hi2 : (k : Int) + 1 < n := by omega
        have hi3 : 0 ≤ (k : Int) + 1 := by omega
        have hi4 : ((k : Int) + 1).toNat = k + 1 := by omega
        by_cases hc2 : el xs (k + 1) < M
        · have hF := hid (Hsame.out.1 hc1 hc2)
          have hfr2 := hrM.frozen x
          have hcl2 := hrM.cell hxn2
          have hr2 := hid (hrM.set x (el xs (k + 1)))
          have hb2 := hid (hbM.setCell (p := ⟨w.heap.size + 1, x, none⟩) hgB (.int .i64 (el xs (k + 1))))
          clear Hsame Hc
          by_cases hgt : G < (x : Int)
          · have eM := hGx.out.1 hgt
            subst eM
            go_wp2
            go_roundw
            case rel => exact ⟨k + 1, by omega, by rw [← hMg.out], by go_num, hb2.out, by rw [hF.out]; exact hr2.out⟩
            case measure => simp [intOf]; omega
          · have hge : (x : Int) ≤ G := by omega
            have eM := hGx.out.2 hge
            subst eM
            go_wp2
            go_roundw
            case rel => exact ⟨k + 1, by omega, by rw [← hMg.out], by go_num, hb2.out, by rw [hF.out]; exact hr2.out⟩
            case measure => simp [intOf]; omega
        · have hF := hid (Hsame.out.2 (Or.inr hc2))
          have hc2' : M ≤ el xs (k + 1) := by omega
          have hr2 := hid hrM
          have hb2 := hid hbM
          clear Hsame Hc
          by_cases hgt : G < (x : Int)
          · have eM := hGx.out.1 hgt
            subst eM
            go_wp2
            go_roundw
            case rel => exact ⟨k + 1, by omega, by rw [← hMg.out], by go_num, hb2.out, by rw [hF.out]; exact hr2.out⟩
            case measure => simp [intOf]; omega
          · have hge : (x : Int) ≤ G := by omega
            have eM := hGx.out.2 hge
            subst eM
            go_wp2
            go_roundw
            case rel => exact ⟨k + 1, by omega, by rw [← hMg.out], by go_num, hb2.out, by rw [hF.out]; exact hr2.out⟩
            case measure => simp [intOf]; omega
      · have hF := hid (Hsame.out.2 (Or.inl hc1))
        have hi2 : (n : Int) ≤ (k : Int) + 1 := by omega
        have hr2 := hid hrM
        have hb2 := hid hbM
        clear Hsame Hc
        by_cases hgt : G < (x : Int)
        · have eM := hGx.out.1 hgt
          subst eM
          go_wp2
          go_roundw
          case rel => exact ⟨k + 1, by omega, by rw [← hMg.out], by go_num, hb2.out, by rw [hF.out]; exact hr2.out⟩
          case measure => simp [intOf]; omega
        · have hge : (x : Int) ≤ G := by omega
          have eM := hGx.out.2 hge
          subst eM
          go_wp2
          go_roundw
          case rel => exact ⟨k + 1, by omega, by rw [← hMg.out], by go_num, hb2.out, by rw [hF.out]; exact hr2.out⟩
          case measure => simp [intOf]; omega
    · obtain rfl : k = n := by omega
      go_wp2
      go_ret
      refine ⟨_, rfl, ?_, hbr⟩
      rw [frL, hlen.out]
      exact hr.own

set_option maxHeartbeats 2000000 in
theorem frLIW_any (ao : Option Addr) (n cap : Nat) (xs : List Int) (w : World) (h : Sl w ao n cap xs) :
    Calls Try.prog 57 #[.slice ao n cap, .func (.func 82) #[.agg #[]] #[]] w (Made w (onV xs (frL xs))) := by
  have hbig := h.big
  have hlen := hid h.len
  by_cases hv : Valid xs
  · have h7 : n ≤ 7 := by have := hv.len; rw [hlen.out] at this; exact this
    have Hv := hid hv
    go_enter Try.func57, Try.ntmps57
    go_wp2_with fail
    refine (validI_any _ _ _ xs _ h).mono ?_
    rintro e w1 ⟨rfl, hb1⟩
    rw [decide_eq_true hv]
    go_wp2_with (at_make; refine make_ints _ rfl _ _ rfl _ _ n rfl rfl rfl rfl (by omega) ?_)
    intro w2 ho2 hb2
    clear hv
    have hb3 := hb1.trans (hb2.mono hb1.size)
    have hsz1 := hb1.size
    have hg2 := ho2.lt.2
    have h2 := h.later hb3
    have hA2 := hid (arr_of ho2)
    obtain ⟨g, hg⟩ : ∃ g, g = w1.heap.size := ⟨_, rfl⟩
    rw [← hg] at hA2 hg2 hsz1 ⊢
    have hcn : (xs.map (Value.int .i64)).length = Nat.min n n := by
      have e : Nat.min n n = min n n := rfl
      rw [List.length_map, hlen.out, e]; omega
    have hcp : 0 < (xs.map (Value.int .i64)).length → (some ⟨g, 0, none⟩ : Option Addr) = some ⟨g, 0, none⟩ ∧ ∃ ad, ao = some ad ∧ ∀ (j : Nat) (v : Value), (xs.map (Value.int .i64))[j]? = some v → w2.cell? (ad.add j) = some v := fun hq => by
      rw [List.length_map, hlen.out] at hq
      obtain ⟨b, off, rfl, hblt, hc⟩ := h2.row hq
      refine ⟨rfl, _, rfl, fun j v hj => ?_⟩
      have hjn : j < n := by
        have := (List.getElem?_eq_some_iff.1 hj).1
        rw [List.length_map, hlen.out] at this; exact this
      rw [List.getElem?_map, List.getElem?_eq_getElem (by rw [hlen.out]; exact hjn)] at hj
      obtain rfl := Option.some.inj hj
      rw [Addr.add_lit, hc j hjn, el_lt (by rw [hlen.out]; exact hjn)]
    have hcf : 0 + (xs.map (Value.int .i64)).length ≤ ((List.replicate n (0 : Int)).map (Value.int .i64)).length := by rw [List.length_map, List.length_map, List.length_replicate, hlen.out]; omega
    have Hcn := hid hcn
    have Hcp := hid hcp
    have Hcf := hid hcf
    clear hcn hcp hcf hg
    go_wp2_with (show wpList _ _ _ (Oper.mk (some 14) _ _ _ _ _ :: _) _ _; refine copy_row rfl (.tmp 12) (.tmp 13) 23 23 rfl 3 Try.underlying23 sizeI1 (some ⟨g, 0, none⟩) ao n n n cap rfl rfl g 0 ((List.replicate n (0 : Int)).map (Value.int .i64)) 3 hA2.out.row (xs.map (Value.int .i64)) Hcn.out Hcp.out Hcf.out (ints1 _) ?_)
    intro w3 HG3 hg3
    have A3 : Arr w3 g 3 xs := by
      have e : w3.heap[g]? = some (.cells (splice ((List.replicate n (0 : Int)).map (Value.int .i64)) 0 (xs.map (Value.int .i64))).toArray 3 (0, 0)) := by
        first
          | exact HG3.out
          | (have e := HG3.out; rw [← List.map_replicate] at e; exact e)
      rw [map_spl, List.take_zero, List.nil_append, Nat.zero_add, hlen.out, List.drop_eq_nil_of_le (by simp), List.append_nil] at e
      exact e
    have t3 : Below w.heap.size w w3 := below_of_grown' hb3 hg3 (fun k hk => by obtain rfl := Option.some.inj hk; exact hsz1)
    have HA3 := hid A3
    clear A3 HG3 hg3 Hcn Hcp Hcf hA2 h2 hb2 ho2
    go_wp2_with fail
    refine (lineBack_any (some ⟨g, 0, none⟩) n n xs w3 (arr_sl HA3.out hlen.out h7) Hv.out).mono ?_
    rintro e w4 ⟨u4, rfl, o4', b4⟩
    have t4 := t3.trans (b4.mono t3.size)
    have o4 : Own w4 w.heap.size u4 (frL xs) := o4'.mono t3.size
    clear o4' b4
    go_wp2
    go_ret
    refine ⟨_, rfl, ?_, t4⟩
    rw [onV_yes Hv.out]
    exact o4
  · have Hv := hid hv
    go_enter Try.func57, Try.ntmps57
    go_wp2_with fail
    refine (validI_any _ _ _ xs _ h).mono ?_
    rintro e w1 ⟨rfl, hb1⟩
    go_wp2
    go_ret
    refine ⟨_, rfl, ?_, hb1⟩
    rw [onV_no Hv.out]
    exact Own.nil

set_option maxHeartbeats 1000000 in
theorem frLI_any (ao : Option Addr) (n cap : Nat) (xs : List Int) (w : World) (h : Sl w ao n cap xs) :
    Calls Try.prog 54 #[.slice ao n cap] w (Made w (onV xs (frL xs))) := by
  go_enter Try.func54, Try.ntmps54
  go_wp2_with fail
  refine (frLIW_any _ _ _ xs _ h).mono ?_
  rintro e w2 ⟨u2, rfl, ho2, hb2⟩
  go_wp2
  go_ret
  exact ⟨_, rfl, ho2, hb2⟩

end Go.Proofs.Ytlhphgldmefefab
