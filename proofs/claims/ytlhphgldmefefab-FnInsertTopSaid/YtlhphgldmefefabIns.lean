/- Values put in and taken out, and what values add, in the model. Condition: the lists' cells can be read. -/
import Derived.Test.YtlhphgldmefefabDesc
import Derived.Test.YtlhphgldmefefabDraw2
import Derived.Test.YtlhphgldmefefabFinI
namespace Go.Proofs.Ytlhphgldmefefab
open Go.RowKit

set_option maxHeartbeats 1000000 in
theorem inRg_any (n lo hi : Int) (w : World) : Calls Try.prog 67 #[.int .i64 n, .int .i64 lo, .int .i64 hi] w fun e w' => e = .returned (.bool (decide (lo ≤ n ∧ n ≤ hi))) ∧ w = w' := by
  go_enter Try.func67, Try.ntmps67
  by_cases h1 : lo ≤ n <;> by_cases h2 : n ≤ hi
  all_goals go_wp2
  all_goals go_ret
  all_goals exact ⟨ret_eq (congrArg Value.bool (by simp [h1, h2])), rfl⟩

theorem mjP_bd (xs : List Int) : ∀ k, k ≤ 6 → 0 ≤ mjP xs k ∧ mjP xs k ≤ 7 * k := by
  intro k
  induction k with
  | zero => intro _; simp [mjP]
  | succ k ih =>
    intro hk
    have := ih (by omega)
    rw [mjP]
    split <;> omega
theorem major_bd {xs : List Int} (h : xs.length ≤ 7) : 0 ≤ major xs ∧ major xs ≤ 42 := by
  rw [major_eq]
  have := mjP_bd xs (xs.length - 1) (by omega)
  omega

/-- Where a greater value may be put in. -/
def IT (xs : List Int) (k : Int) : Prop := Valid xs ∧ xs.length < 7 ∧ 0 ≤ k ∧ k ≤ xs.length
instance (xs : List Int) (k : Int) : Decidable (IT xs k) := inferInstanceAs (Decidable (_ ∧ _ ∧ _ ∧ _))
def onIT (xs : List Int) (k : Int) : List Int := if IT xs k then insT xs k.toNat else []
theorem onIT_yes {xs : List Int} {k : Int} (h : IT xs k) : onIT xs k = insT xs k.toNat := if_pos h
theorem onIT_no {xs : List Int} {k : Int} (h : ¬ IT xs k) : onIT xs k = [] := if_neg h
/-- Where a value may be taken out. -/
def RT (xs : List Int) (k : Int) : Prop := Valid xs ∧ 0 ≤ k ∧ k < xs.length
instance (xs : List Int) (k : Int) : Decidable (RT xs k) := inferInstanceAs (Decidable (_ ∧ _ ∧ _))
def onRT (xs : List Int) (k : Int) : List Int := if RT xs k then rmv xs k.toNat else []
theorem onRT_yes {xs : List Int} {k : Int} (h : RT xs k) : onRT xs k = rmv xs k.toNat := if_pos h
theorem onRT_no {xs : List Int} {k : Int} (h : ¬ RT xs k) : onRT xs k = [] := if_neg h

set_option maxHeartbeats 1000000 in
theorem below_any (ao : Option Addr) (n cap : Nat) (xs : List Int) (x : Int) (w : World) (h : Sl w ao n cap xs) (h7 : n ≤ 1000) :
    Calls Try.prog 71 #[.slice ao n cap, .int .i64 x] w (Made w (blw xs x)) := by
  have hbig := h.big
  have hlen := hid h.len
  go_enter Try.func71, Try.ntmps71
  go_wp2
  go_loopw [5, 6] (fun v i wr => ∃ (k m : Nat) (ao' : Option Addr) (cap' : Nat), k ≤ n ∧ v = .slice ao' m cap' ∧ i = .int .i64 k ∧ Below w.heap.size w wr ∧ Own wr w.heap.size (.slice ao' m cap') (blw (xs.take k) x))
    (fun _ i _ => n - (intOf i).toNat)
  case atStart => exact ⟨0, _, _, _, Nat.zero_le _, rfl, rfl, (Below.refl _ _).alloc (Nat.le_refl _) _, own_lit w⟩
  case round =>
    obtain ⟨k, m, ao', cap', hk, rfl, rfl, hbr, ho⟩ := hrel
    have hsz := hbr.size
    have hl : (blw (xs.take k) x).length ≤ 2000000 := by have := blw_len (xs.take k) x; rw [List.length_take] at this; omega
    by_cases hlt : k < n
    · obtain ⟨b, off, rfl, hblt, hc⟩ := h.row (by omega)
      have hcell := (hbr.cell (p := ⟨b, off + k, none⟩) hblt).trans (hc k hlt)
      have hi1 : (k : Int) < n := by omega
      have hcc := hid hc
      have Hkx : Hid (k < xs.length) := hid (by rw [hlen.out]; exact hlt)
      clear hc
      by_cases he : el xs k < x
      · have Hf := hid he
        go_wp2_with (at_builtin; refine app_int _ _ rfl _ _ rfl w.heap.size _ _ rfl ho rfl hl hsz ?_)
        intro u' w' ho' hg'
        have hb' := below_app hbr ho hg'
        have e1 : blw (xs.take k) x ++ [el xs k] = blw (xs.take (k + 1)) x := by rw [blw_take Hkx.out, if_pos Hf.out]
        rw [e1] at ho'
        have hl' := hid (rfl : (blw (xs.take (k + 1)) x).length = (blw (xs.take (k + 1)) x).length)
        obtain ⟨ao', cap', rfl, hs'⟩ := ho'.sl
        go_wp2
        go_roundw
        case rel => exact ⟨k + 1, _, _, _, by omega, rfl, by go_num, hb', ho'⟩
        case measure => simp [intOf]; omega
      · have Hf := hid he
        have e1 : blw (xs.take (k + 1)) x = blw (xs.take k) x := by rw [blw_take Hkx.out, if_neg Hf.out, List.append_nil]
        have E1 := hid e1
        clear e1
        go_wp2
        go_roundw
        case rel => exact ⟨k + 1, _, _, _, by omega, rfl, by go_num, hbr, by rw [E1.out]; exact ho⟩
        case measure => simp [intOf]; omega
    · obtain rfl : k = n := by omega
      go_wp2
      go_ret
      refine ⟨_, rfl, ?_, hbr⟩
      rw [List.take_of_length_le (by rw [hlen.out]; exact Nat.le_refl _)] at ho
      exact ho

set_option maxHeartbeats 2000000 in
theorem mtabS_any (ao : Option Addr) (n cap : Nat) (xs : List Int) (w : World) (h : Sl w ao n cap xs) :
    Calls Try.prog 33 #[.slice ao n cap] w (Made w (onV xs (mtab xs))) := by
  have hbig := h.big
  have hlen := hid h.len
  by_cases hv : Valid xs
  · have h7 : n ≤ 7 := by have := hv.len; rw [hlen.out] at this; exact this
    have Hv := hid hv
    clear hv
    go_enter Try.func33, Try.ntmps33
    go_wp2_with fail
    refine (validS_any _ _ _ xs _ h).mono ?_
    rintro e w1 ⟨rfl, hb1⟩
    have hsz1 := hb1.size
    have e0 : decide (Valid xs) = true := decide_eq_true Hv.out
    rw [e0]
    clear e0
    go_wp2
    go_loopw [3, 4] (fun v i wr => ∃ (k : Nat) (ao' : Option Addr) (cap' : Nat), k ≤ n ∧ v = .slice ao' k cap' ∧ i = .int .i64 k ∧ Below w.heap.size w wr ∧ Own wr w.heap.size (.slice ao' k cap') ((List.range k).map (mtv xs)))
      (fun v _ _ => n - lenOf v)
    case atStart => exact ⟨0, _, _, Nat.zero_le _, rfl, rfl, hb1.alloc hb1.size _, own_lit_at hb1.size⟩
    case round =>
      obtain ⟨k, ao', cap', hk, rfl, rfl, hbr, ho⟩ := hrel
      by_cases hlt : k < n
      · have hsz := hbr.size
        have hl : ((List.range k).map (mtv xs)).length ≤ 2000000 := by rw [map_range_len]; omega
        have hi1 : (k : Int) < n := by omega
        have eM : Hid (major (blw xs ((k : Int) + 1)) - major (blw xs (k : Int)) = mtv xs k) := hid (by rw [mtv, Int.natCast_add]; rfl)
        go_wp2_with fail
        refine (below_any _ _ _ xs ((k : Int) + 1) _ (h.later hbr) (by omega)).mono ?_
        rintro e wa ⟨ua, rfl, oa, ba⟩
        obtain ⟨ada, cpa, rfl, sa⟩ := oa.sl
        have la : (blw xs ((k : Int) + 1)).length ≤ 7 := by have := blw_len xs ((k : Int) + 1); rw [hlen.out] at this; omega
        have tb := hbr.trans (ba.mono hsz)
        have ma := major_bd la
        have ma0 := ma.1
        have ma1 := ma.2
        clear ma oa
        go_wp2_with fail
        refine (major_any _ _ _ _ _ sa (by omega)).mono ?_
        rintro e wb ⟨rfl, bb⟩
        have tb2 := tb.trans (bb.mono tb.size)
        have o2 := (ho.below (Nat.le_refl _) ba).below (Nat.le_refl _) bb
        clear sa la
        go_wp2_with fail
        refine (below_any _ _ _ xs (k : Int) _ (h.later tb2) (by omega)).mono ?_
        rintro e wc ⟨uc, rfl, oc, bc⟩
        obtain ⟨adc, cpc, rfl, sc⟩ := oc.sl
        have lc : (blw xs (k : Int)).length ≤ 7 := by have := blw_len xs (k : Int); rw [hlen.out] at this; omega
        have tb3 := tb2.trans (bc.mono tb2.size)
        have mc := major_bd lc
        have mc0 := mc.1
        have mc1 := mc.2
        clear mc oc
        go_wp2_with fail
        refine (major_any _ _ _ _ _ sc (by omega)).mono ?_
        rintro e wd ⟨rfl, bd⟩
        have tb4 := tb3.trans (bd.mono tb3.size)
        have o4 := (o2.below (Nat.le_refl _) bc).below (Nat.le_refl _) bd
        have hsz4 := tb4.size
        have hwr : IntKind.i64.wrap (major (blw xs ((k : Int) + 1)) - major (blw xs (k : Int))) = major (blw xs ((k : Int) + 1)) - major (blw xs (k : Int)) := IntWalk.i64_in _ ⟨by omega, by omega⟩
        clear sc lc ho
        go_wp2_with (at_builtin; refine app_int _ _ rfl _ _ rfl w.heap.size _ _ rfl o4 rfl hl hsz4 ?_)
        intro u' w' ho' hg'
        have hb' := below_app tb4 o4 hg'
        rw [eM.out, ← map_range_succ (mtv xs)] at ho'
        have hl2 : ((List.range (k + 1)).map (mtv xs)).length = k + 1 := map_range_len _
        obtain ⟨ao', cap', rfl, hs'⟩ := ho'.sl
        rw [hl2] at ho' ⊢
        clear hl2 hs'
        go_wp2
        go_roundw
        case rel => exact ⟨k + 1, _, _, by omega, rfl, by go_num, hb', ho'⟩
        case measure => simp [lenOf]; omega
      · obtain rfl : k = n := by omega
        go_wp2
        go_ret
        refine ⟨_, rfl, ?_, hbr⟩
        rw [onV_yes Hv.out, mtab, hlen.out]
        exact ho
  · have Hv := hid hv
    go_enter Try.func33, Try.ntmps33
    go_wp2_with fail
    refine (validS_any _ _ _ xs _ h).mono ?_
    rintro e w1 ⟨rfl, hb1⟩
    go_wp2
    go_ret
    refine ⟨_, rfl, ?_, hb1⟩
    rw [onV_no Hv.out]
    exact Own.nil

set_option maxHeartbeats 1000000 in
theorem vrS_any (ao : Option Addr) (n cap : Nat) (xs : List Int) (w : World) (h : Sl w ao n cap xs) :
    Calls Try.prog 73 #[.slice ao n cap] w (Says w (.bool (decide (VR xs)))) := by
  have hbig := h.big
  have hlen := hid h.len
  go_enter Try.func73, Try.ntmps73
  go_wp2
  go_loopw [3] (fun i wr => ∃ (k : Nat), k ≤ n ∧ i = .int .i64 k ∧ Below w.heap.size w wr ∧ Hid (∀ j, j < k → 0 ≤ el xs j ∧ el xs j ≤ (j : Int)))
    (fun i _ => n - (intOf i).toNat)
  case atStart => exact ⟨0, Nat.zero_le _, rfl, Below.refl _ _, fun j hj => by omega⟩
  case round =>
    obtain ⟨k, hk, rfl, hbr, hm⟩ := hrel
    by_cases hlt : k < n
    · obtain ⟨b, off, rfl, hblt, hc⟩ := h.row (by omega)
      have hcell := (hbr.cell (p := ⟨b, off + k, none⟩) hblt).trans (hc k hlt)
      have hkx : Hid (k < xs.length) := hid (by rw [hlen.out]; exact hlt)
      have hi1 : (k : Int) < n := by omega
      clear hc
      go_wp2_with fail
      refine (inRg_any _ _ _ _).mono ?_
      rintro e w' ⟨rfl, hww⟩
      subst hww
      by_cases h0 : 0 ≤ el xs k ∧ el xs k ≤ (k : Int)
      · have H0 := hid h0
        rw [decide_eq_true h0]
        clear h0
        go_wp2
        go_roundw
        case rel => exact ⟨k + 1, by omega, by go_num, hbr, upto_step hm.out H0.out⟩
        case measure => simp [intOf]; omega
      · have hno : Hid (¬ VR xs) := fun v => h0 ⟨v.lo k hkx.out, v.hi k hkx.out⟩
        rw [decide_eq_false h0]
        clear h0
        go_wp2
        go_ret
        exact says_false hno.out hbr
    · obtain rfl : k = n := by omega
      go_wp2
      go_ret
      refine says_bool (decide_eq_decide.2 ⟨fun h7 => ⟨by rw [hlen.out]; omega, fun j hj => (hm.out j (by rw [hlen.out] at hj; exact hj)).1, fun j hj => (hm.out j (by rw [hlen.out] at hj; exact hj)).2⟩, fun v => ?_⟩) hbr
      have := v.len
      rw [hlen.out] at this
      omega

set_option maxHeartbeats 1000000 in
theorem insS_any (ao : Option Addr) (n cap : Nat) (xs : List Int) (k : Int) (w : World) (h : Sl w ao n cap xs) (hnil : ao = none → cap = 0) :
    Calls Try.prog 29 #[.slice ao n cap, .int .i64 k] w (Made2 w (onIT xs k) (decide (IT xs k))) := by
  have hbig := h.big
  have hlen := hid h.len
  have Hnil := hid hnil
  clear hnil
  by_cases hv : Valid xs
  · have h7 : n ≤ 7 := by have := hv.len; rw [hlen.out] at this; exact this
    have Hv := hid hv
    clear hv
    by_cases hn7 : n < 7
    · have hn7i : (n : Int) < 7 := by omega
      by_cases hk : 0 ≤ k ∧ k ≤ n
      · have Hit : Hid (IT xs k) := hid ⟨Hv.out, by rw [hlen.out]; exact hn7, hk.1, by rw [hlen.out]; exact hk.2⟩
        have Hk := hid hk
        obtain ⟨m, rfl⟩ := Int.eq_ofNat_of_zero_le hk.1
        have hmn : m ≤ n := by omega
        clear hk
        go_enter Try.func29, Try.ntmps29
        go_wp2_with fail
        refine (validS_any _ _ _ xs _ h).mono ?_
        rintro e w1 ⟨rfl, hb1⟩
        rw [decide_eq_true Hv.out]
        go_wp2_with fail
        refine (inRg_any _ _ _ _).mono ?_
        rintro e w' ⟨rfl, hww⟩
        subst hww
        rw [decide_eq_true Hk.out]
        go_wp2_with fail
        refine (insertAt_any _ _ _ xs (n : Int) m _ (h.later hb1) Hnil.out hmn (by omega)).mono ?_
        rintro e w2 ⟨u2, rfl, o2, b2⟩
        go_wp2
        go_ret2
        have oF : Own w2 w.heap.size u2 (onIT xs (m : Int)) := by
          rw [onIT_yes Hit.out, insT, hlen.out, Int.toNat_natCast]
          exact o2.mono hb1.size
        exact made2_yes Hit.out oF (hb1.trans (b2.mono hb1.size))
      · have Hit : Hid (¬ IT xs k) := hid fun t => hk ⟨t.2.2.1, by have := t.2.2.2; rw [hlen.out] at this; exact this⟩
        have Hk := hid hk
        clear hk
        go_enter Try.func29, Try.ntmps29
        go_wp2_with fail
        refine (validS_any _ _ _ xs _ h).mono ?_
        rintro e w1 ⟨rfl, hb1⟩
        rw [decide_eq_true Hv.out]
        go_wp2_with fail
        refine (inRg_any _ _ _ _).mono ?_
        rintro e w' ⟨rfl, hww⟩
        subst hww
        rw [decide_eq_false Hk.out]
        go_wp2
        go_ret2
        exact made2_no Hit.out (onIT_no Hit.out) hb1
    · have Hit : Hid (¬ IT xs k) := hid fun t => hn7 (by have := t.2.1; rw [hlen.out] at this; exact this)
      have hn7i : (7 : Int) ≤ n := by omega
      go_enter Try.func29, Try.ntmps29
      go_wp2_with fail
      refine (validS_any _ _ _ xs _ h).mono ?_
      rintro e w1 ⟨rfl, hb1⟩
      rw [decide_eq_true Hv.out]
      go_wp2
      go_ret2
      exact made2_no Hit.out (onIT_no Hit.out) hb1
  · have Hit : Hid (¬ IT xs k) := hid fun t => hv t.1
    have Hv := hid hv
    clear hv
    go_enter Try.func29, Try.ntmps29
    go_wp2_with fail
    refine (validS_any _ _ _ xs _ h).mono ?_
    rintro e w1 ⟨rfl, hb1⟩
    rw [decide_eq_false Hv.out]
    go_wp2
    go_ret2
    exact made2_no Hit.out (onIT_no Hit.out) hb1

end Go.Proofs.Ytlhphgldmefefab
