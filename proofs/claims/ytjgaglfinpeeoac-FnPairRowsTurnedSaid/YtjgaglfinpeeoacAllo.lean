/- The program's iterator over all orders, and AllOrders. Condition: at most five values. -/
import Derived.Test.YtjgaglfinpeeoacNxB
import Derived.Test.YtjgaglfinpeeoacRng
import Derived.Test.YtjgaglfinpeeoacBnd
import Derived.Test.YtjgaglfinpeeoacFoI
namespace Go.Proofs.Ytjgaglfinpeeoac
open Go.RowKit

open Go.RowKit Go.Shelf
attribute [local go_sem] Oper.semAt_some

theorem rise_valid {n : Nat} (h : n ≤ 7) : Valid (rise n) := by
  have : ∀ n : Nat, n < 8 → Valid (rise n) := by decide +kernel
  exact this n (Nat.lt_succ_of_le h)
theorem splice_pad {xs : List Int} (_ : xs.length ≤ 7) : splice (([0, 0, 0, 0, 0, 0, 0] : List Int).map (Value.int .i64)) 0 (xs.map (Value.int .i64)) = (pad7 xs).map (Value.int .i64) := by
  rw [splice, List.take_zero, List.nil_append, pad7, List.map_append, Nat.zero_add, List.length_map, ← List.map_drop]
  congr 2
  have : ([0, 0, 0, 0, 0, 0, 0] : List Int) = List.replicate 7 0 := rfl
  rw [this, List.drop_replicate]

/-- copy(array[:], list): the array of seven places holds the list, 0 behind it. -/
theorem step_copy_arr {ops : Array Oper} {o : Oper} {a : Act} {w : World} {K : Act → World → Prop} {Q : Exit → Act → World → Prop} {E : Prop} (hgd : o.guard = none) (d s : Operand)
    (ho : o.op = .call { callee := .builtin .copy, args := #[d, s], argTypes := #[28, 28] }) (g T : Nat) (hA : Arr w g T [0, 0, 0, 0, 0, 0, 0]) (hd : a.eval d = .slice (some ⟨g, 0, none⟩) 7 7)
    (ao : Option Addr) (m cap : Nat) (xs : List Int) (hs : a.eval s = .slice ao m cap) (h : Sl w ao m cap xs) (hm : m ≤ 7)
    (hK : ∀ w', Hid (Arr w' g T (pad7 xs)) → w.grownBy w' (some g) → K (a.put o.dst (goInt xs.length)) w') :
    if Region.wanted o (yielded ops a.tmps) = true then Oper.wp Try.prog o a w K Q else E := by
  have hw : Region.wanted o (yielded ops a.tmps) = true := by simp [Region.wanted, hgd]
  rw [if_pos hw]
  have hl := h.len
  have hcs : (xs.map (Value.int .i64)).length = Nat.min m 7 := by rw [List.length_map, hl]; exact (Nat.min_eq_left hm).symm
  have hlm : (xs.map (Value.int .i64)).length = xs.length := List.length_map ..
  by_cases h0 : m = 0
  · obtain rfl : xs = [] := List.eq_nil_of_length_eq_zero (by omega)
    have hrun := run_copy_none (P := Try.prog) w 28 28 o.type 3 (some ⟨g, 0, none⟩) ao 7 7 m cap Try.underlying28 sizeI1 (by rw [h0]; rfl)
    unfold Oper.wp
    simp [execOp, ho, resolve, invoke, builtin, hd, hs, hrun, Result.andThen]
    exact hK w hA (World.grownBy.refl _ _)
  · obtain ⟨b, off, rfl, hlt, hc⟩ := h.row (by omega)
    have hsrc : ∀ (j : Nat) (v : Value), (xs.map (Value.int .i64))[j]? = some v → w.cell? ((⟨b, off, none⟩ : Addr).add j) = some v := by
      intro j v hj
      rw [List.getElem?_map] at hj
      cases hx : xs[j]? with
      | none => rw [hx] at hj; cases hj
      | some x =>
        rw [hx] at hj
        simp only [Option.map_some, Option.some.injEq] at hj
        subst hj
        have hjl : j < m := by rw [← hl]; exact (List.getElem?_eq_some_iff.1 hx).1
        rw [Addr.add_lit, hc j hjl]
        simp [el, hx]
    have hrun := run_copy_row (P := Try.prog) w 28 28 o.type 3 g 0 7 7 ⟨b, off, none⟩ m cap ((([0, 0, 0, 0, 0, 0, 0] : List Int).map (Value.int .i64)).toArray) T (xs.map (Value.int .i64)) Try.underlying28 sizeI1 hA (by rw [hcs]) hsrc
      (by simp; omega) (by intro v hv; obtain ⟨x, _, rfl⟩ := List.mem_map.1 hv; rfl)
    unfold Oper.wp
    simp [execOp, ho, resolve, invoke, builtin, hd, hs, hrun, Result.andThen]
    refine hK _ ?_ ⟨rfl, rfl, rfl, by simp [World.setRow], fun k _ hk => setRow_other w g k _ (fun e => hk (by rw [e]))⟩
    refine (setRow_heap w g _ _ T (0, 0) hA).trans ?_
    rw [← splice_pad (by omega)]
    simp [splice]

theorem run_eqin_arr (w : World) (xs ys : List Int) (hx : xs.length = 7) (hy : ys.length = 7) :
    (Op.equalIn 10000 77 (.agg (xs.map (Value.int .i64)).toArray) (.agg (ys.map (Value.int .i64)).toArray)).run Try.prog w = .ok (decide (xs = ys)) w := by
  obtain ⟨ip, hip⟩ := infoP
  rw [run_equalIn_array w 9999 _ _ Try.underlying77 hip, cellsI, run_items w 9998 3 xs ys Try.underlying3 _ (fun i hi => by have := List.mem_range.1 hi; omega) (fun i hi => by have := List.mem_range.1 hi; omega)]
  refine congrArg (fun b => Result.ok b w) ?_
  rw [Bool.eq_iff_iff, List.all_eq_true, decide_eq_true_iff]
  constructor
  · intro h
    exact ext_el (by omega) (fun j hj => by have := h j (by simp; omega); simpa using this)
  · rintro rfl
    intro j _
    simp

set_option maxHeartbeats 1000000 in
theorem obr_any (n : Int) (w : World) :
    Calls Try.prog 60 #[.int .i64 n] w fun e w' => e = .returned (.func (.func 82) #[] #[.pointer (some ⟨w.heap.size, 0, none⟩)]) ∧ w' = w.alloc (.cells #[.int .i64 n] 3) := by
  go_enter Try.func60, Try.ntmps60
  go_wp2
  go_ret
  exact ⟨rfl, rfl⟩

open Classical in
/-- How many orders are still to come, read off the array: for the loop's measure. -/
noncomputable def leftK (n s : Nat) (w : World) : Nat := if h : ∃ k, k < facN n ∧ Arr w s 77 (pad7 (ordK n k)) then facN n - Classical.choose h else 0
theorem map_int_inj : ∀ {xs ys : List Int}, xs.map (Value.int .i64) = ys.map (Value.int .i64) → xs = ys
  | [], [], _ => rfl
  | [], _ :: _, h => by simp at h
  | _ :: _, [], h => by simp at h
  | x :: xs, y :: ys, h => by
    simp only [List.map_cons, List.cons.injEq, Value.int.injEq] at h
    rw [h.1.2, map_int_inj h.2]
theorem arr_inj {w : World} {s T : Nat} {xs ys : List Int} (h : Arr w s T xs) (g : Arr w s T ys) : xs = ys := by
  unfold Arr at h g
  rw [h] at g
  simp only [Option.some.injEq, Obj.cells.injEq] at g
  have := congrArg Array.toList g.1
  exact map_int_inj (by simpa using this)
theorem leftK_eq {n s k : Nat} {w : World} (hn : n ≤ 5) (hk : k < facN n) (h : Arr w s 77 (pad7 (ordK n k))) : leftK n s w = facN n - k := by
  have hex : ∃ k, k < facN n ∧ Arr w s 77 (pad7 (ordK n k)) := ⟨k, hk, h⟩
  unfold leftK
  rw [dif_pos hex]
  have hs := Classical.choose_spec hex
  rw [ordK_inj hn hs.1 hk (arr_inj hs.2 h)]

set_option maxRecDepth 20000 in
set_option maxHeartbeats 8000000 in
theorem iter_in (n l Bn : Nat) (J : Nat → World → Prop) (W : World) (hn : n ≤ 5) (hBn : Bn < W.heap.size) (hc : W.cell? ⟨Bn, 0, none⟩ = some (.int .i64 n))
    (hJ : ∀ k A B, J k A → Chg W.heap.size (W.heap.size + 2) A B → J k B) (h0 : J 0 W)
    (hY : ∀ k A, k < facN n → J k A → W.heap.size + 2 ≤ A.heap.size → YieldAt Fence.wide 0 Try.prog l #[aggI (pad7 (ordK n k))] A fun e B => e = .returned (.bool true) ∧ J (k + 1) B ∧ A.heap.size ≤ B.heap.size ∧
      ∀ j, (j = Bn ∨ (W.heap.size ≤ j ∧ j < W.heap.size + 2)) → B.heap[j]? = A.heap[j]?) :
    CallsIn Fence.wide 0 Try.prog 82 #[.func (.yield l) #[] #[], .pointer (some ⟨Bn, 0, none⟩)] W fun e W' => (∃ v, e = .returned v) ∧ J (facN n) W' := by
  refine callsIn_of_wp Try.func82 rfl trivial ?_ rfl
  simp only [Try.ntmps82, List.size_toArray, List.length_cons, List.length_nil, Nat.reduceAdd, Nat.reduceSub, Array.replicate_succ, Array.replicate_zero, List.push_toArray, List.append_toArray, List.nil_append, List.cons_append]
  gi_wp2
  have hA1 : Arr ((W.alloc (.cells (([0, 0, 0, 0, 0, 0, 0] : List Int).map (Value.int .i64)).toArray 77)).alloc (.cells (([0, 0, 0, 0, 0, 0, 0] : List Int).map (Value.int .i64)).toArray 77)) W.heap.size 77 [0, 0, 0, 0, 0, 0, 0] := (Arr.made W 77 [0, 0, 0, 0, 0, 0, 0]).alloc _
  have hB1 : Arr ((W.alloc (.cells (([0, 0, 0, 0, 0, 0, 0] : List Int).map (Value.int .i64)).toArray 77)).alloc (.cells (([0, 0, 0, 0, 0, 0, 0] : List Int).map (Value.int .i64)).toArray 77)) (W.heap.size + 1) 77 [0, 0, 0, 0, 0, 0, 0] := by
    have := Arr.made (W.alloc (.cells (([0, 0, 0, 0, 0, 0, 0] : List Int).map (Value.int .i64)).toArray 77)) 77 [0, 0, 0, 0, 0, 0, 0]
    rwa [World.size_alloc] at this
  have hb1 : Below W.heap.size W ((W.alloc (.cells (([0, 0, 0, 0, 0, 0, 0] : List Int).map (Value.int .i64)).toArray 77)).alloc (.cells (([0, 0, 0, 0, 0, 0, 0] : List Int).map (Value.int .i64)).toArray 77)) := ((Below.refl _ W).alloc (Nat.le_refl _) _).alloc (by simp) _
  obtain ⟨w1, hw1⟩ : ∃ w1, w1 = (W.alloc (.cells (([0, 0, 0, 0, 0, 0, 0] : List Int).map (Value.int .i64)).toArray 77)).alloc (.cells (([0, 0, 0, 0, 0, 0, 0] : List Int).map (Value.int .i64)).toArray 77) := ⟨_, rfl⟩
  have hs1 : w1.heap.size = W.heap.size + 2 := by rw [hw1]; simp
  rw [← hw1] at hA1 hB1 hb1
  change Code.wpIn _ _ _ _ _ _ ((W.alloc (.cells (([0, 0, 0, 0, 0, 0, 0] : List Int).map (Value.int .i64)).toArray 77)).alloc (.cells (([0, 0, 0, 0, 0, 0, 0] : List Int).map (Value.int .i64)).toArray 77))
  rw [← hw1]
  have HA1 := hid hA1
  have HB1 := hid hB1
  have Hs1 := hid hs1
  clear hw1 hA1 hB1 hs1
  have hc1 := (hb1.cell (p := ⟨Bn, 0, none⟩) hBn).trans hc
  have hn7 : n ≤ 7 := by omega
  have HAd : Hid (Arr w1.drew W.heap.size 77 [0, 0, 0, 0, 0, 0, 0]) := HA1
  have HBd : Hid (Arr w1.drew (W.heap.size + 1) 77 [0, 0, 0, 0, 0, 0, 0]) := HB1
  refine wpIn_wide.2 ?_
  go_region_law (first
    | (refine step_copy_arr rfl (.tmp 5) (.tmp 7) rfl W.heap.size 77 HA2.out rfl _ _ _ _ rfl s2 (by rw [rise_len]; exact hn7) ?_; intro w3 HA3 hg3)
    | (go_simp; refine (risingI_yes n _ hn7).mono ?_; rintro e w2 ⟨u2, rfl, o2, b2⟩; obtain ⟨ad2, cp2, rfl, s2⟩ := o2.sl; have HA2 := hid (HAd.out.below HAd.out.lt b2); have HB2 := hid (HBd.out.below HBd.out.lt b2)))
  have hsz2 : W.heap.size + 2 ≤ w2.heap.size := by have h1 := b2.size; have h2 := Hs1.out; have h3 : w1.drew.heap.size = w1.heap.size := rfl; omega
  have hb2 : Below W.heap.size W w2 := (drewN_below hb1 1).trans (b2.mono (by have h2 := Hs1.out; have h3 : w1.drew.heap.size = w1.heap.size := rfl; omega))
  have hb3 : Below W.heap.size W w3 := hb2.grown hg3 hb2.size (fun k hk => by cases hk; exact Nat.le_refl _)
  have hsz3 : W.heap.size + 2 ≤ w3.heap.size := Nat.le_trans hsz2 hg3.size
  have HB3 : Hid (Arr w3 (W.heap.size + 1) 77 [0, 0, 0, 0, 0, 0, 0]) := hid ((hg3.block _ HB2.out.lt (by simp)).trans HB2.out)
  have hc3 := (hb3.cell (p := ⟨Bn, 0, none⟩) hBn).trans hc
  clear hc1 hb1 b2 o2 s2 HA2 HB2 HAd HBd HA1 HB1 Hs1 hg3 hb2 hsz2
  have hrt : (turn (rise n)).length ≤ 7 := by simp [turn, rise_len]; omega
  have HAe : Hid (Arr w3.drew W.heap.size 77 (pad7 (rise n))) := HA3
  have HBe : Hid (Arr w3.drew (W.heap.size + 1) 77 [0, 0, 0, 0, 0, 0, 0]) := HB3
  gi_wp2
  refine wpIn_wide.2 ?_
  go_region_law (first
    | (refine step_copy_arr rfl (.tmp 9) (.tmp 12) rfl (W.heap.size + 1) 77 HB5.out rfl _ _ _ _ rfl s5 hrt ?_; intro w6 HB6 hg6)
    | (go_simp; refine (made_to (turnI_any _ _ _ (rise n) _ s4) (onV_yes (rise_valid hn7))).mono ?_; rintro e w5 ⟨u5, rfl, o5, b5⟩; obtain ⟨ad5, cp5, rfl, s5⟩ := o5.sl; have HA5 := hid (HA4.out.below HA4.out.lt b5); have HB5 := hid (HB4.out.below HB4.out.lt b5))
    | (go_simp; refine (risingI_yes n _ hn7).mono ?_; rintro e w4 ⟨u4, rfl, o4, b4⟩; obtain ⟨ad4, cp4, rfl, s4⟩ := o4.sl; have HA4 := hid (HAe.out.below HAe.out.lt b4); have HB4 := hid (HBe.out.below HBe.out.lt b4)))
  have hsz5 : W.heap.size + 2 ≤ w5.heap.size := by have h1 := b4.size; have h2 := b5.size; have h3 : w3.drew.heap.size = w3.heap.size := rfl; omega
  have hb4 : Below W.heap.size W w4 := (drewN_below hb3 1).trans (b4.mono (by have h3 : w3.drew.heap.size = w3.heap.size := rfl; omega))
  have hb5 : Below W.heap.size W w5 := hb4.trans (b5.mono hb4.size)
  have hb6 : Below W.heap.size W w6 := hb5.grown hg6 hb5.size (fun k hk => by cases hk; exact Nat.le_succ _)
  have hsz6 : W.heap.size + 2 ≤ w6.heap.size := Nat.le_trans hsz5 hg6.size
  have HA6 : Hid (Arr w6 W.heap.size 77 (pad7 (ordK n 0))) := hid (by
    rw [ordK_first n (by omega)]
    exact (hg6.block _ HA5.out.lt (by simp)).trans HA5.out)
  have HL6 : Hid (Arr w6 (W.heap.size + 1) 77 (pad7 (ordK n (facN n - 1)))) := hid (by rw [ordK_last n (by omega)]; exact HB6.out)
  have hc6 := (hb6.cell (p := ⟨Bn, 0, none⟩) hBn).trans hc
  have hJ6 : J 0 w6 := hJ 0 W w6 h0 (Chg.of_below hb6)
  obtain ⟨hf1, hf2⟩ := facN_pos n (by omega)
  have Hf1 := hid hf1
  have Hin := hid hc6
  have Hin' : Hid (w6.heap[Bn]? = W.heap[Bn]?) := hid (hb6.block Bn hBn)
  clear hf1 hc6 hc3 hb3 hsz3 HA3 HB3 HAe HBe b4 o4 s4 HA4 HB4 b5 o5 s5 HA5 HB5 hg6 HB6 hsz5 hb4 hb5 hrt
  gi_wp2
  gi_loopw [17] (fun _ wr => ∃ k : Nat, k < facN n ∧ J k wr ∧ W.heap.size + 2 ≤ wr.heap.size ∧ Hid (Arr wr W.heap.size 77 (pad7 (ordK n k))) ∧ Hid (Arr wr (W.heap.size + 1) 77 (pad7 (ordK n (facN n - 1)))) ∧ Hid (wr.heap[Bn]? = W.heap[Bn]?))
    (fun _ wr => leftK n W.heap.size wr)
  case atStart => exact ⟨0, by have := Hf1.out; omega, hJ6, hsz6, HA6, HL6, Hin'⟩
  case round =>
    clear HA6 HL6 hJ6 hsz6 Hin Hin' hb6
    obtain ⟨k, hk, hJk, hsz, HA, HL, HB⟩ := hrel
    obtain ⟨fn, tmps, assign, body, hy, hR⟩ := hY k wr hk hJk hsz
    have hlA : (pad7 (ordK n k)).length = 7 := pad7_len (by rw [ordK_len]; exact hn7)
    have hsA := sizeArr hlA
    unfold aggI at hy
    gi_wp2_with (first
      | (refine loadIn_row rfl 77 (.tmp 3) rfl W.heap.size rfl 77 _ (0, 0) _ HA.out Try.underlying77 rfl hsA ?_))
    refine ⟨rfl, hR.mono ?_⟩
    rintro e W' ⟨rfl, hJ', hs', hkeep⟩
    have hsz' : W.heap.size + 2 ≤ W'.heap.size := Nat.le_trans hsz hs'
    have HA' : Hid (Arr W' W.heap.size 77 (pad7 (ordK n k))) := hid ((hkeep _ (Or.inr ⟨Nat.le_refl _, by omega⟩)).trans HA.out)
    have HL' : Hid (Arr W' (W.heap.size + 1) 77 (pad7 (ordK n (facN n - 1)))) := hid ((hkeep _ (Or.inr ⟨by omega, by omega⟩)).trans HL.out)
    have HB' : Hid (W'.heap[Bn]? = W.heap[Bn]?) := hid ((hkeep _ (Or.inl rfl)).trans HB.out)
    have hcB : W'.cell? ⟨Bn, 0, none⟩ = some (.int .i64 n) := (World.cell?_of_block HB'.out).trans hc
    have hlL : (pad7 (ordK n (facN n - 1))).length = 7 := pad7_len (by rw [ordK_len]; exact hn7)
    have hsL := sizeArr hlL
    have hE := fun w => run_eqin_arr w (pad7 (ordK n k)) (pad7 (ordK n (facN n - 1))) hlA hlL
    have HlA := hid hlA
    have Hkeep := hid hkeep
    have Hk := hid hk
    have HR := hid hR
    have Hy := hid hy
    clear hy hR hlA hlL hk hkeep
    by_cases hlast : k + 1 < facN n
    · have hne : decide (pad7 (ordK n k) = pad7 (ordK n (facN n - 1))) = false := decide_eq_false (ordK_ne hn hlast)
      obtain ⟨r, g, Hnx⟩ := nx_at hn hlast
      have HN := hid Hnx
      clear Hnx
      gi_wp2_with (first
        | (refine loadIn_row rfl 77 (.tmp 3) rfl W.heap.size rfl 77 _ (0, 0) _ HA'.out Try.underlying77 rfl hsA ?_)
        | (refine loadIn_row rfl 77 (.tmp 4) rfl (W.heap.size + 1) rfl 77 _ (0, 0) _ HL'.out Try.underlying77 rfl hsL ?_))
      refine ⟨trivial, rfl, (callsIn_wide.2 (behind_any n r g _ _ _ HlA.out HN)).mono ?_⟩
      rintro e w7 ⟨rfl, b7⟩
      have hsz7 : W.heap.size + 2 ≤ w7.heap.size := Nat.le_trans hsz' b7.size
      have HA7 : Hid (Arr w7 W.heap.size 77 (pad7 (ordK n k))) := hid (HA'.out.below HA'.out.lt b7)
      have HL7 : Hid (Arr w7 (W.heap.size + 1) 77 (pad7 (ordK n (facN n - 1)))) := hid (HL'.out.below HL'.out.lt b7)
      have HlN : Hid ((pad7 (ordK n (k + 1))).length = 7) := hid (pad7_len (by rw [ordK_len]; exact hn7))
      have hsN := sizeArr HlN.out
      have HB7 : Hid (w7.heap[Bn]? = W.heap[Bn]?) := hid ((b7.block Bn (by omega)).trans HB'.out)
      have hJ7 : J (k + 1) (w7.setRow W.heap.size ((pad7 (ordK n (k + 1))).map (Value.int .i64)).toArray) :=
        hJ _ _ _ hJ' ⟨b7.os, b7.tape, b7.output, by simp only [setRow_size]; exact b7.size, fun j h1 h2 => (setRow_other w7 _ j _ (by omega)).trans (b7.block j h1)⟩
      unfold aggI
      clear b7 hJ' HA' HL' hcB hne hE
      gi_wp2_with (refine storeIn_row rfl 77 (.tmp 3) (.tmp 24) rfl W.heap.size _ rfl rfl 77 _ HA7.out hsN (by rw [List.size_toArray, List.size_toArray, List.length_map, List.length_map, HlA.out, HlN.out]) (ones_row _) rfl ?_)
      go_roundw
      case rel =>
        exact ⟨k + 1, hlast, hJ7, by simp only [setRow_size]; exact hsz7, hid (Arr.setRow HA7.out), hid (HL7.out.otherRow (by omega)), hid ((setRow_other w7 _ Bn _ (by omega)).trans HB7.out)⟩
      case measure =>
        rw [leftK_eq hn hlast (Arr.setRow HA7.out), leftK_eq hn Hk.out HA.out]
        omega
    · have hkl : k = facN n - 1 := by have := Hk.out; omega
      have hne : decide (pad7 (ordK n k) = pad7 (ordK n (facN n - 1))) = true := decide_eq_true (by rw [← hkl])
      have hkn : k + 1 = facN n := by have := Hk.out; omega
      rw [hkn] at hJ'
      have Hkl := hid hkl
      clear hkl hkn hlast
      gi_wp2_with (first
        | (refine loadIn_row rfl 77 (.tmp 3) rfl W.heap.size rfl 77 _ (0, 0) _ HA'.out Try.underlying77 rfl hsA ?_)
        | (refine loadIn_row rfl 77 (.tmp 4) rfl (W.heap.size + 1) rfl 77 _ (0, 0) _ HL'.out Try.underlying77 rfl hsL ?_))
      go_end0
      exact ⟨⟨_, rfl⟩, hJ'⟩

open Go.RowKit Go.Shelf
attribute [local go_sem] Oper.semAt_some

theorem arrOf {w : World} {B g n : Nat} {ys : List Int} (h : OwS w B g n n ys) : Arr w g 3 ys := by
  have hl := h.len
  rcases h.2 with ⟨h1, _⟩ | ⟨g', cap', cur, hv, hB, hg, h1, h2, h3, h4⟩
  · simp at h1
  · simp only [Value.slice.injEq, Option.some.injEq, Addr.mk.injEq, and_true, true_and] at hv
    obtain ⟨rfl, rfl⟩ := hv
    rw [List.take_of_length_le (by rw [Array.length_toList, h3]; exact Nat.le_refl _)] at h4
    rw [Arr, ← h4]
    simpa using hg
theorem owOf {w : World} {B g n : Nat} {ys : List Int} (h : Arr w g 3 ys) (hB : B ≤ g) (hl : ys.length = n) (hn : n ≤ 1000) : OwS w B g n n ys :=
  ⟨by simp [hl], Or.inr ⟨g, n, _, rfl, hB, h, Nat.le_refl _, by unfold maxLen; omega, by simp [hl], List.take_of_length_le (by simp [hl])⟩⟩
/-- A variable in a block of its own. -/
def Bx (w : World) (b T : Nat) (v : Value) : Prop := w.heap[b]? = some (.cells #[v] T (0, 0))
theorem Bx.cell {w : World} {b T : Nat} {v : Value} (h : Bx w b T v) : w.cell? ⟨b, 0, none⟩ = some v := by
  rw [cell_of_row w b 0 _ T (0, 0) h]; rfl
theorem Bx.frozen {w : World} {b T : Nat} {v : Value} (h : Bx w b T v) : w.frozen? ⟨b, 0, none⟩ = false := frozen_of_row w b 0 _ T h
theorem Bx.lt {w : World} {b T : Nat} {v : Value} (h : Bx w b T v) : b < w.heap.size := (Array.getElem?_eq_some_iff.1 h).1
theorem Bx.set {w : World} {b T : Nat} {v : Value} (h : Bx w b T v) (u : Value) : Bx (w.setCell ⟨b, 0, none⟩ u) b T u := heap_setCell_same w b 0 _ T u h
theorem Bx.keep {w w' : World} {b T : Nat} {v : Value} (h : Bx w b T v) (e : w'.heap[b]? = w.heap[b]?) : Bx w' b T v := e.trans h
theorem Bx.alloc {w : World} {b T : Nat} {v : Value} (h : Bx w b T v) (o : Obj) : Bx (w.alloc o) b T v := (Below.heap_alloc w o b h.lt).trans h
theorem Bx.new (w : World) (T : Nat) (v : Value) : Bx (w.alloc (.cells #[v] T)) w.heap.size T v := heap_alloc_new w _

/-- The blocks that are none of the list's. -/
def qA (N j : Nat) : Prop := j = N ∨ (N + 2 ≤ j ∧ j < N + 8)
/-- What holds between two rounds. -/
structure AI (n : Nat) (w : World) (k : Nat) (A : World) : Prop where
  bel : Below w.heap.size w A
  bn : Bx A w.heap.size 3 (.int .i64 n)
  ex : ∃ u, Bx A (w.heap.size + 1 + 1) 24 u ∧ OwnLp (qA w.heap.size) A (w.heap.size + 1) A.heap.size u ((allK n).take k)
theorem AI.chg {n : Nat} {w : World} {k : Nat} {A B : World} (h : AI n w k A) (c : Chg (w.heap.size + 4) (w.heap.size + 8) A B) : AI n w k B := by
  obtain ⟨u, h1, h2⟩ := h.ex
  have hl := h1.lt
  refine ⟨c.below h.bel (by omega) h.bel.size, h.bn.keep (c.block _ h.bn.lt (Or.inl (by omega))), u, h1.keep (c.block _ hl (Or.inl (by omega))), ?_⟩
  exact (h2.chg c (fun j h3 h4 => Or.inr ⟨by omega, by omega⟩)).now
theorem take_allK {n k : Nat} (h : k < facN n) : (allK n).take (k + 1) = (allK n).take k ++ [ordK n k] := by
  rw [List.take_succ_eq_append_getElem (by rw [allK_len]; exact h)]
  congr 1
  simp [allK]

theorem allI_no (n : Int) (w : World) (h : n < 0 ∨ 5 < n) : Calls Try.prog 39 #[.int .i64 n] w (MadeL w []) := by
  by_cases h0 : n < 0
  · go_enter Try.func39, Try.ntmps39
    go_wp2
    go_ret
    exact ⟨_, rfl, (OwnL.nil (w := w.alloc (.cells #[.int .i64 n] 3)) (B := w.heap.size) (by simp)).now, (Below.refl _ _).alloc (Nat.le_refl _) _⟩
  · have h5 : 5 < n := by omega
    go_enter Try.func39, Try.ntmps39
    go_wp2
    go_ret
    exact ⟨_, rfl, (OwnL.nil (w := w.alloc (.cells #[.int .i64 n] 3)) (B := w.heap.size) (by simp)).now, (Below.refl _ _).alloc (Nat.le_refl _) _⟩

set_option maxRecDepth 20000 in
set_option maxHeartbeats 8000000 in
theorem allI_yes (n : Nat) (w : World) (hn : n ≤ 5) : Calls Try.prog 39 #[.int .i64 n] w (MadeL w (allK n)) := by
  refine (callsIn_wide (n := 0)).1 ?_
  refine callsIn_of_wp_marks Try.func39 rfl trivial ?_ rfl
  simp only [Try.ntmps39, List.size_toArray, List.length_cons, List.length_nil, Nat.reduceAdd, Nat.reduceSub, Array.replicate_succ, Array.replicate_zero, List.push_toArray, List.append_toArray, List.nil_append, List.cons_append]
  gi_wp2
  refine ⟨trivial, rfl, (callsIn_wide.2 (obr_any _ _)).mono ?_⟩
  rintro e w' ⟨rfl, rfl⟩
  gi_wp2
  have hbx : Below w.heap.size w ((((w.alloc (.cells #[.int .i64 n] 3)).alloc (.cells #[] 28)).alloc (.cells #[.slice (some ⟨w.heap.size + 1, 0, none⟩) 0 0] 24)).alloc (.cells #[.int .i64 n] 3)) :=
    ((((Below.refl _ w).alloc (Nat.le_refl _) _).alloc (by simp) _).alloc (by simp; omega) _).alloc (by simp; omega) _
  have hI0 : AI n w 0 ((((w.alloc (.cells #[.int .i64 n] 3)).alloc (.cells #[] 28)).alloc (.cells #[.slice (some ⟨w.heap.size + 1, 0, none⟩) 0 0] 24)).alloc (.cells #[.int .i64 n] 3)) := by
    refine ⟨hbx, (((Bx.new w _ _).alloc _).alloc _).alloc _, .slice (some ⟨w.heap.size + 1, 0, none⟩) 0 0, ?_, ?_⟩
    · have := Bx.new ((w.alloc (.cells #[.int .i64 n] 3)).alloc (.cells #[] 28)) 24 (.slice (some ⟨w.heap.size + 1, 0, none⟩) 0 0)
      simp only [World.size_alloc] at this
      exact this.alloc _
    · have h1 := ownLp_lit (w := w.alloc (.cells #[.int .i64 n] 3)) (B := w.heap.size + 1) (q := qA w.heap.size) (by simp) (by simp [qA])
      simp only [World.size_alloc] at h1
      exact ((h1.later ((Below.refl _ _).alloc (Nat.le_refl _) _)).later ((Below.refl _ _).alloc (Nat.le_refl _) _)).now
  have hB3 : Bx ((((w.alloc (.cells #[.int .i64 n] 3)).alloc (.cells #[] 28)).alloc (.cells #[.slice (some ⟨w.heap.size + 1, 0, none⟩) 0 0] 24)).alloc (.cells #[.int .i64 n] 3)) (w.heap.size + 1 + 1 + 1) 3 (.int .i64 n) := by
    have := Bx.new (((w.alloc (.cells #[.int .i64 n] 3)).alloc (.cells #[] 28)).alloc (.cells #[.slice (some ⟨w.heap.size + 1, 0, none⟩) 0 0] 24)) 3 (.int .i64 n)
    simpa only [World.size_alloc] using this
  have hz : ((((w.alloc (.cells #[.int .i64 n] 3)).alloc (.cells #[] 28)).alloc (.cells #[.slice (some ⟨w.heap.size + 1, 0, none⟩) 0 0] 24)).alloc (.cells #[.int .i64 n] 3)).heap.size = w.heap.size + 4 := by simp
  generalize ((((w.alloc (.cells #[.int .i64 n] 3)).alloc (.cells #[] 28)).alloc (.cells #[.slice (some ⟨w.heap.size + 1, 0, none⟩) 0 0] 24)).alloc (.cells #[.int .i64 n] 3)) = W0 at hI0 hB3 hz hbx ⊢
  have Hz := hid hz
  refine wpIn_range_cells (gf := 82) (lb := #[.pointer (some ⟨w.heap.size + 1 + 1 + 1, 0, none⟩)]) rfl (enters_of Try.func82 (by kernel_rfl) rfl) (facN n) 2 (fun k => #[aggI (pad7 (ordK n k))]) (fun _ => rfl)
    (fun j => j = w.heap.size + 1 + 1 + 1) (fun j hj => by rw [hz, hj]; omega) (AI n w)
    (fun k A B h c => h.chg (by rw [hz] at c; exact c)) hI0 ?it ?round ?done
  case it =>
    intro W J hW hb hJ h0 hY
    refine iter_in n _ (w.heap.size + 1 + 1 + 1) J W hn (by rw [hW, hz]; omega) (hB3.keep (hb.block _ (by rw [hz]; omega))).cell hJ h0 ?_
    intro k A hk hJk hA
    exact hY k A hk hJk hA
  case round =>
    intro k A hk hI hA
    rw [hz] at hA ⊢
    have hlA : (pad7 (ordK n k)).length = 7 := pad7_len (by rw [ordK_len]; omega)
    have hsA := sizeArr hlA
    have HlA := hid hlA
    have hZ := Arr.made A 77 [0, 0, 0, 0, 0, 0, 0]
    have HI := hid hI
    have Hk := hid hk
    clear hlA hI hk
    simp only [aggI]
    refine regionIn_of (by rintro ⟨_, _, h⟩; exact h) (by intro o ho c hc; simp at ho; rcases ho with rfl | rfl <;> cases hc) ?_
    go_wp2_with (refine wpList_store_row rfl 77 (.tmp 4) (.tmp 15) rfl A.heap.size _ rfl rfl 77 _ hZ hsA (by rw [List.size_toArray, List.size_toArray, List.length_map, List.length_map, HlA.out]; rfl) (ones_row _) ?_)
    have hbA : Below A.heap.size A ((A.alloc (.cells (([0, 0, 0, 0, 0, 0, 0] : List Int).map (Value.int .i64)).toArray 77)).setRow A.heap.size ((pad7 (ordK n k)).map (Value.int .i64)).toArray) := Below.setRow ((Below.refl _ _).alloc (Nat.le_refl _) _) (Nat.le_refl _)
    have HA1 : Hid (Arr ((A.alloc (.cells (([0, 0, 0, 0, 0, 0, 0] : List Int).map (Value.int .i64)).toArray 77)).setRow A.heap.size ((pad7 (ordK n k)).map (Value.int .i64)).toArray) A.heap.size 77 (pad7 (ordK n k))) := hid (Arr.setRow hZ)
    have hs1 : ((A.alloc (.cells (([0, 0, 0, 0, 0, 0, 0] : List Int).map (Value.int .i64)).toArray 77)).setRow A.heap.size ((pad7 (ordK n k)).map (Value.int .i64)).toArray).heap.size = A.heap.size + 1 := by simp
    have HI1 : Hid (AI n w k ((A.alloc (.cells (([0, 0, 0, 0, 0, 0, 0] : List Int).map (Value.int .i64)).toArray 77)).setRow A.heap.size ((pad7 (ordK n k)).map (Value.int .i64)).toArray)) := hid (HI.out.chg (Chg.of_below hbA))
    refine ⟨HI1.out, hbA.size, fun j hj => hbA.block j (by omega), fun w₂ hc0 hs0 hI2 => ?_⟩
    have hc : Chg (w.heap.size + 4) (w.heap.size + 4 + 2) ((A.alloc (.cells (([0, 0, 0, 0, 0, 0, 0] : List Int).map (Value.int .i64)).toArray 77)).setRow A.heap.size ((pad7 (ordK n k)).map (Value.int .i64)).toArray) w₂ := hc0
    have hs2 : w₂.heap.size = ((A.alloc (.cells (([0, 0, 0, 0, 0, 0, 0] : List Int).map (Value.int .i64)).toArray 77)).setRow A.heap.size ((pad7 (ordK n k)).map (Value.int .i64)).toArray).heap.size := hs0
    clear hc0 hs0
    generalize ((A.alloc (.cells (([0, 0, 0, 0, 0, 0, 0] : List Int).map (Value.int .i64)).toArray 77)).setRow A.heap.size ((pad7 (ordK n k)).map (Value.int .i64)).toArray) = A1 at hbA HA1 hs1 HI1 hc hs2
    have HA2 : Hid (Arr w₂ A.heap.size 77 (pad7 (ordK n k))) := hid ((hc.block _ (by omega) (Or.inr (by omega))).trans HA1.out)
    have hcn := hI2.bn.cell
    have HI2 := hid hI2
    have hs2' : A.heap.size + 1 = w₂.heap.size := by omega
    clear hbA HA1 HI1 hc hI2 hs1 hs2 hZ
    refine wpIn_block (wpIn_seq (regionIn_of (by rintro ⟨_, _, h⟩; exact h) (by intro o ho c hc; simp at ho; rcases ho with rfl | rfl | rfl <;> cases hc) ?_))
    go_wp2_with (at_make; refine make_ints _ rfl _ _ rfl _ _ n rfl rfl rfl rfl (by omega) ?_)
    intro w3 ho3 hb3
    have hg2 := ho3.lt.2
    have hA3 := hid (arrOf ho3)
    have hS3 : Hid (Arr w3 A.heap.size 77 (pad7 (ordK n k))) := hid (HA2.out.below HA2.out.lt hb3)
    obtain ⟨g, hg⟩ : ∃ g, g = w₂.heap.size := ⟨_, rfl⟩
    rw [← hg] at hA3 hg2 ⊢
    have Hg := hid hg
    have hgA : A.heap.size + 1 ≤ g := by omega
    have hK3 : Hid (AI n w k w3 ∧ w₂.heap.size ≤ w3.heap.size ∧ ∀ j, j < w₂.heap.size → w3.heap[j]? = w₂.heap[j]?) := hid ⟨HI2.out.chg (Chg.of_below hb3), hb3.size, fun j hj => hb3.block j hj⟩
    have hlo : (ordK n k).length = n := ordK_len n k
    have Hlo := hid hlo
    have hcn' : ((ordK n k).map (Value.int .i64)).length = Nat.min 7 n := by
      have e : Nat.min 7 n = min 7 n := rfl
      rw [List.length_map, hlo, e]; omega
    have hcp : ∀ (j : Nat) (v : Value), ((ordK n k).map (Value.int .i64))[j]? = some v → w3.cell? ((⟨A.heap.size, 0, none⟩ : Addr).add j) = some v := fun j v hj => by
      have hjn : j < n := by
        have := (List.getElem?_eq_some_iff.1 hj).1
        rw [List.length_map, hlo] at this; exact this
      rw [List.getElem?_map, List.getElem?_eq_getElem (by rw [hlo]; exact hjn)] at hj
      obtain rfl := Option.some.inj hj
      rw [Addr.add_lit, Nat.zero_add, hS3.out.cell (j := j) (by rw [HlA.out]; omega), el_pad7 (by rw [hlo]; exact hjn), el_lt (by rw [hlo]; exact hjn)]
    have hcf : 0 + ((ordK n k).map (Value.int .i64)).length ≤ ((List.replicate n (0 : Int)).map (Value.int .i64)).length := by rw [List.length_map, List.length_map, List.length_replicate, hlo]; omega
    have Hcn := hid hcn'
    have Hcp := hid hcp
    have Hcf := hid hcf
    clear hcn' hcp hcf hg hlo hcn hb3 ho3
    go_wp2
    refine wpIn_seq (regionIn_of (by rintro ⟨_, _, h⟩; exact h) (by intro o ho c hc; simp at ho; rcases ho with rfl | rfl | rfl <;> cases hc) ?_)
    go_wp2_with (show wpList _ _ _ (Oper.mk (some 20) _ _ _ _ _ :: _) _ _; refine copy_row rfl (.tmp 18) (.tmp 19) 28 28 rfl 3 Try.underlying28 sizeI1 _ _ _ _ _ _ rfl rfl g 0 ((List.replicate n (0 : Int)).map (Value.int .i64)) 3 hA3.out.row ((ordK n k).map (Value.int .i64)) Hcn.out (fun _ => ⟨rfl, _, rfl, Hcp.out⟩) Hcf.out (ints1 _) ?_)
    intro w4 HG4 hg4
    have HA4 : Hid (Arr w4 g 3 (ordK n k)) := hid (by
      have e : w4.heap[g]? = some (.cells (splice ((List.replicate n (0 : Int)).map (Value.int .i64)) 0 ((ordK n k).map (Value.int .i64))).toArray 3 (0, 0)) := by
        first
          | exact HG4.out
          | (have e := HG4.out; rw [← List.map_replicate] at e; exact e)
      rw [map_spl, List.take_zero, List.nil_append, Nat.zero_add, Hlo.out, List.drop_eq_nil_of_le (by simp), List.append_nil] at e
      exact e)
    obtain ⟨hI3, hsz3, hbl3⟩ := hK3.out
    have hg2' : g < w4.heap.size := Nat.lt_of_lt_of_le hg2 hg4.size
    have hgw := Hg.out
    have hwz : g = w₂.heap.size := Hg.out
    obtain ⟨u, hu2, ho2⟩ := HI2.out.ex
    obtain ⟨vs, _, hub, _⟩ := ho2.ex
    have Hub : Hid (∀ j, u.ownBlock = some j → ¬ qA w.heap.size j) := hid (fun j hj => (hub j hj).2)
    rw [← hwz] at hsz3 hbl3 ho2
    have ho4 : OwnLp (qA w.heap.size) w4 (w.heap.size + 1) g u ((allK n).take k) := (ho2.kept (by rw [← hwz]; exact hsz3) (fun j _ h2 _ => hbl3 j h2)).kept hg4.size (fun j _ h2 _ => hg4.block j (Nat.lt_of_lt_of_le h2 hsz3) (fun e => by have := Option.some.inj e; omega))
    have hu4 : Bx w4 (w.heap.size + 1 + 1) 24 u := (hu2.keep (hbl3 _ (by omega))).keep (hg4.block _ (by omega) (fun e => by have := Option.some.inj e; omega))
    have hbn4 : Bx w4 w.heap.size 3 (.int .i64 n) := HI2.out.bn.keep (((hg4.block _ (by omega) (fun e => by have := Option.some.inj e; omega))).trans (hbl3 _ (by omega)))
    have hbel4 : Below w.heap.size w w4 := hI3.bel.grown hg4 hI3.bel.size (fun j hj => by cases hj; omega)
    have hq4 : ∀ j, j < g → w4.heap[j]? = w₂.heap[j]? := fun j hj => (hg4.block _ (Nat.lt_of_lt_of_le hj hsz3) (fun e => by have := Option.some.inj e; omega)).trans (hbl3 j hj)
    have hv4 : Own w4 g (.slice (some ⟨g, 0, none⟩) n n) (ordK n k) := (owOf HA4.out (Nat.le_refl _) Hlo.out (by omega)).own
    have hcu := hu4.cell
    have hlen : ((allK n).take k).length ≤ 2000000 := by have := facN_pos n (by omega); have := Hk.out; rw [List.length_take]; omega
    have Hq4 := hid hq4
    have Hsz : Hid (w₂.heap.size ≤ w4.heap.size) := hid (by have := hg4.size; omega)
    have Hbel4 := hid hbel4
    have Hu4 := hid hu4
    have Hbn4 := hid hbn4
    clear hwz hbl3 hq4 hI3 hub hu2 hgw hbel4 hbn4 HG4
    go_wp2
    refine regionIn_of (by rintro ⟨_, _, h⟩; exact h) (by intro o ho c hc; simp at ho; rcases ho with rfl | rfl | rfl | rfl | rfl <;> cases hc) ?_
    go_wp2_with (at_builtin; refine app_lstp (qA w.heap.size) g w4 _ (ordK n k) rfl _ _ rfl (w.heap.size + 1) g u _ ho4 (Nat.le_refl _) (Nat.le_of_lt hg2') (fun j hj => by unfold qA at hj; omega) hv4 rfl rfl hlen ?_)
    intro u' w5 ho5 hb5 hg5
    have hbx5 : ∀ j, j < w4.heap.size → qA w.heap.size j → w5.heap[j]? = w4.heap[j]? := fun j hj hq => hg5.block j hj (fun e => Hub.out j e.symm hq)
    have hu5 : Bx w5 (w.heap.size + 1 + 1) 24 u := Hu4.out.keep (hbx5 _ Hu4.out.lt (Or.inr ⟨by omega, by omega⟩))
    obtain ⟨ao5, cp5, rfl, -⟩ := OwnL.sl ho5.any
    obtain ⟨L5, hL5⟩ : ∃ L, L = ((allK n).take k ++ [ordK n k]).length := ⟨_, rfl⟩
    rw [← hL5] at ho5 ⊢
    clear hL5
    have hc5 := hu5.cell
    have hf5 := hu5.frozen
    have hb5' : Below w.heap.size w w5 := Hbel4.out.trans (hb5.mono (Nat.le_succ _))
    have hsz5 := hg5.size
    go_wp2
    have hset : ∀ j, j ≠ w.heap.size + 1 + 1 → (w5.setCell ⟨w.heap.size + 1 + 1, 0, none⟩ (.slice ao5 L5 cp5)).heap[j]? = w5.heap[j]? := fun j hj => Below.heap_setCell _ _ _ j hj
    have hs6 : (w5.setCell ⟨w.heap.size + 1 + 1, 0, none⟩ (.slice ao5 L5 cp5)).heap.size = w5.heap.size := by simp [World.setCell]
    refine ⟨⟨hb5'.setCell (p := ⟨w.heap.size + 1 + 1, 0, none⟩) (by simp; omega) _, Hbn4.out.keep ((hset _ (by omega)).trans (hbx5 _ Hbn4.out.lt (Or.inl rfl))), _, hu5.set _, ?_⟩, by rw [hs6]; exact Nat.le_trans Hsz.out hsz5, fun j hj => ?_⟩
    · rw [take_allK Hk.out, hs6]
      exact ho5.kept (by rw [hs6]; exact Nat.le_refl _) (fun j _ _ hnq => hset j (fun e => hnq (Or.inr ⟨by omega, by omega⟩)))
    · have hjg : j < g := by omega
      exact ((hset j (by omega)).trans (hbx5 j (by omega) (Or.inr ⟨by omega, by omega⟩))).trans (Hq4.out j hjg)
  case done =>
    intro W hI hD
    obtain ⟨u, hu, hown⟩ := hI.ex
    have hcu := hu.cell
    have hwl := hu.lt
    have Hown := hid hown
    have hbl := hI.bel
    clear hown
    gi_wp2
    refine ⟨by simp, .inl ⟨_, _, rfl, run_takeDeferred hD, ?_⟩⟩
    have hc4 : Chg (w.heap.size + 4) (w.heap.size + 8) W (W.putObj W0.heap.size (.deferred none)) := chg_putObj _ (by omega) (by omega)
    refine ⟨_, results_tmp rfl _ _ _, u, rfl, ?_, hc4.below hbl (by omega) hbl.size⟩
    have := ((Hown.out.chg hc4 (fun j h3 h4 => Or.inr ⟨by omega, by omega⟩)).any.mono (Nat.le_succ _)).now
    rwa [List.take_of_length_le (by rw [allK_len]; exact Nat.le_refl _)] at this

end Go.Proofs.Ytjgaglfinpeeoac
