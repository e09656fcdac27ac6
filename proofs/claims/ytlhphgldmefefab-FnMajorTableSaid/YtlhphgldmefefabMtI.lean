/- What values add, and orders of it, in the program. Condition: the list's cells can be read. -/
import Derived.Test.YtlhphgldmefefabInsI
namespace Go.Proofs.Ytlhphgldmefefab
open Go.RowKit

set_option maxHeartbeats 1000000 in
theorem upTo_any (ao : Option Addr) (n cap : Nat) (xs : List Int) (x : Int) (w : World) (h : Sl w ao n cap xs) (h7 : n ≤ 1000) :
    Calls Try.prog 69 #[.slice ao n cap, .int .i64 x] w (Made w (blw xs (x + 1))) := by
  have hbig := h.big
  have hlen := hid h.len
  obtain ⟨X, hX⟩ : ∃ X, X = x + 1 := ⟨_, rfl⟩
  rw [← hX]
  have HX := hid hX
  clear hX
  go_enter Try.func69, Try.ntmps69
  go_wp2
  go_loopw [5, 11] (fun v i wr => ∃ (k m : Nat) (ao' : Option Addr) (cap' : Nat), k ≤ n ∧ v = .slice ao' m cap' ∧ i = .int .i64 k ∧ Below w.heap.size w wr ∧ Own wr w.heap.size (.slice ao' m cap') (blw (xs.take k) X))
    (fun _ i _ => n - (intOf i).toNat)
  case atStart => exact ⟨0, _, _, _, Nat.zero_le _, rfl, rfl, (Below.refl _ _).alloc (Nat.le_refl _) _, own_lit w⟩
  case round =>
    obtain ⟨k, m, ao', cap', hk, rfl, rfl, hbr, ho⟩ := hrel
    have hsz := hbr.size
    have hl : (blw (xs.take k) X).length ≤ 2000000 := by have := blw_len (xs.take k) X; rw [List.length_take] at this; omega
    by_cases hlt : k < n
    · obtain ⟨b, off, rfl, hblt, hc⟩ := h.row (by omega)
      have hcell := (hbr.cell (p := ⟨b, off + k, none⟩) hblt).trans (hc k hlt)
      have hi1 : (k : Int) < n := by omega
      have hcc := hid hc
      have Hkx : Hid (k < xs.length) := hid (by rw [hlen.out]; exact hlt)
      clear hc
      by_cases he : el xs k ≤ x
      · have Hf := hid he
        go_wp2_with (at_builtin; refine app_int _ _ rfl _ _ rfl w.heap.size _ _ rfl ho rfl hl hsz ?_)
        intro u' w' ho' hg'
        have hb' := below_app hbr ho hg'
        have e1 : blw (xs.take k) X ++ [el xs k] = blw (xs.take (k + 1)) X := by rw [blw_take Hkx.out, if_pos (by have := Hf.out; have := HX.out; omega)]
        rw [e1] at ho'
        have hl' := hid (rfl : (blw (xs.take (k + 1)) X).length = (blw (xs.take (k + 1)) X).length)
        obtain ⟨ao', cap', rfl, hs'⟩ := ho'.sl
        go_wp2
        go_roundw
        case rel => exact ⟨k + 1, _, _, _, by omega, rfl, by go_num, hb', ho'⟩
        case measure => simp [intOf]; omega
      · have Hf := hid he
        have e1 : blw (xs.take (k + 1)) X = blw (xs.take k) X := by rw [blw_take Hkx.out, if_neg (by have := Hf.out; have := HX.out; omega), List.append_nil]
        have E1 := hid e1
        have he' : x < el xs k := by omega
        clear e1
        go_wp2
        go_roundw
        case rel => exact ⟨k + 1, _, _, _, by omega, rfl, by go_num, hbr, by rw [E1.out]; exact ho⟩
        case measure => simp [intOf]; omega
    · obtain rfl : k = n := by omega
      go_wp2
      go_ret
      refine ⟨_, rfl, ?_, hbr⟩
      rw [List.take_of_length_le (by rw [hlen.out]; exact Nat.le_refl _)] at ho
      exact ho

theorem OwS.later' {w w' : World} {B g n cap : Nat} {ys : List Int} (h : OwS w B g n cap ys) (hb : Below w.heap.size w w') : OwS w' B g n cap ys :=
  ⟨h.1, by
    rcases h.2 with h2 | ⟨g', cap', cur, hv, hg, hh, r⟩
    · exact Or.inl h2
    · exact Or.inr ⟨g', cap', cur, hv, hg, (hb.block g' (Array.getElem?_eq_some_iff.1 hh).1).trans hh, r⟩⟩

set_option maxHeartbeats 2000000 in
theorem mtabI_any (ao : Option Addr) (n cap : Nat) (xs : List Int) (w : World) (h : Sl w ao n cap xs) :
    Calls Try.prog 32 #[.slice ao n cap] w (Made w (onV xs (mtab xs))) := by
  have hbig := h.big
  have hlen := hid h.len
  by_cases hv : Valid xs
  · have h7 : n ≤ 7 := by have := hv.len; rw [hlen.out] at this; exact this
    have Hv := hid hv
    clear hv
    go_enter Try.func32, Try.ntmps32
    go_wp2_with fail
    refine (validI_any _ _ _ xs _ h).mono ?_
    rintro e w1 ⟨rfl, hb1⟩
    rw [decide_eq_true Hv.out]
    go_wp2_with (at_make; refine make_ints _ rfl _ _ rfl _ _ n rfl rfl rfl rfl (by omega) ?_)
    intro w2 ho2 hb2
    have hb3 := hb1.trans (hb2.mono hb1.size)
    have hsz1 := hb1.size
    have hlt2 := ho2.lt
    have e0 : major (blw xs ((0 : Nat) : Int)) = 0 := by rw [List.eq_nil_of_length_eq_zero (blw_length Hv.out (Nat.zero_le _)), major_nil]
    have E0 := hid e0
    clear e0
    go_wp2
    go_loopw [4, 15] (fun v i wr => ∃ (k : Nat), k ≤ n ∧ v = .int .i64 (major (blw xs (k : Int))) ∧ i = .int .i64 k ∧ Below w.heap.size w wr ∧ OwS wr w1.heap.size w1.heap.size n n (iter (fun a k => a.set k (mtv xs k)) (List.replicate n 0) k))
      (fun _ i _ => n - (intOf i).toNat)
    case atStart => exact ⟨0, Nat.zero_le _, by rw [E0.out], rfl, hb3, ho2⟩
    case round =>
      obtain ⟨k, hk, rfl, rfl, hbr, hr⟩ := hrel
      by_cases hlt : k < n
      · have hi1 : (k : Int) < n := by omega
        have Hvk := hid (blw_valid Hv.out (x := k + 1) (by rw [hlen.out]; omega))
        have Hvk0 := hid (blw_valid Hv.out (x := k) (by rw [hlen.out]; omega))
        have eB : blw xs ((k : Int) + 1) = blw xs ((k + 1 : Nat) : Int) := by rw [Int.natCast_add]; rfl
        go_wp2_with fail
        refine (upTo_any _ _ _ xs (k : Int) _ (h.later hbr) (by omega)).mono ?_
        rintro e wa ⟨ua, rfl, oa, ba⟩
        rw [eB] at oa
        obtain ⟨B, hB⟩ : ∃ B, B = blw xs ((k + 1 : Nat) : Int) := ⟨_, rfl⟩
        rw [← hB] at oa Hvk
        have HB := hid hB
        obtain ⟨ada, cpa, rfl, sa⟩ := oa.sl
        have tb := hbr.trans (ba.mono hbr.size)
        have hra := hr.later' ba
        have ma := major_bd Hvk.out.len
        have ma0 := ma.1
        have ma1 := ma.2
        have mc := major_bd Hvk0.out.len
        have mc0 := mc.1
        have mc1 := mc.2
        clear ma mc oa eB hB
        go_wp2_with fail
        refine (says_to (majorI_any _ _ _ B _ sa) (onVi_yes Hvk.out)).mono ?_
        rintro e wb ⟨rfl, bb⟩
        have tb2 := tb.trans (bb.mono tb.size)
        have hrb := hra.later' bb
        have hwr : IntKind.i64.wrap (major B - major (blw xs (k : Int))) = major B - major (blw xs (k : Int)) := IntWalk.i64_in _ ⟨by omega, by omega⟩
        have hfr := hrb.frozen k
        have hcl := hrb.cell hlt
        have eM : Hid (major B - major (blw xs (k : Int)) = mtv xs k) := hid (by rw [mtv, HB.out])
        have eM2 : Hid (major B = major (blw xs ((k + 1 : Nat) : Int))) := hid (by rw [HB.out])
        clear sa
        go_wp2
        go_roundw
        case rel => exact ⟨k + 1, by omega, by rw [eM2.out], by go_num, tb2.setCell hsz1 _, by rw [iter, ← eM.out]; exact hrb.set k _⟩
        case measure => simp [intOf]; omega
      · obtain rfl : k = n := by omega
        go_wp2
        go_ret
        refine ⟨_, rfl, ?_, hbr⟩
        rw [onV_yes Hv.out, mtab, hlen.out, ← iter_set]
        exact hr.own.mono hsz1
  · have Hv := hid hv
    clear hv
    go_enter Try.func32, Try.ntmps32
    go_wp2_with fail
    refine (validI_any _ _ _ xs _ h).mono ?_
    rintro e w1 ⟨rfl, hb1⟩
    rw [decide_eq_false Hv.out]
    go_wp2
    go_ret
    refine ⟨_, rfl, ?_, hb1⟩
    rw [onV_no Hv.out]
    exact Own.nil

/-- What insertAdding answers for an order. -/
def AD (p : List Int) (a : Int) : Prop := 0 ≤ a ∧ a ≤ p.length
instance (p : List Int) (a : Int) : Decidable (AD p a) := inferInstanceAs (Decidable (_ ∧ _))
def onAD (p : List Int) (a : Int) : List Int := if AD p a then omS p a else []

set_option maxHeartbeats 2000000 in
theorem adding_any (ao : Option Addr) (n cap : Nat) (xs : List Int) (x : Int) (w : World) (h : Sl w ao n cap xs) (hnil : ao = none → cap = 0) (hv : Valid xs) (h6 : n ≤ 6) :
    Calls Try.prog 72 #[.slice ao n cap, .int .i64 x] w (Made2 w (onAD xs x) (decide (AD xs x))) := by
  have hbig := h.big
  have hlen := hid h.len
  have Hnil := hid hnil
  have Hv := hid hv
  have Hm := hid (major_bd hv.len)
  clear hv hnil
  have hstop : ∃ s : Nat, s ≤ n + 1 ∧ (AD xs x → s ≤ n ∧ dfs xs s = x) ∧ (¬ AD xs x → s = n + 1) ∧ ∀ i, i < s → dfs xs i ≠ x := by
    by_cases ha : AD xs x
    · obtain ⟨k, hk, e, hb⟩ := dfs_first Hv.out (by rw [hlen.out]; exact h6) ha
      rw [hlen.out] at hk
      exact ⟨k, by omega, fun _ => ⟨hk, e⟩, fun hn => absurd ha hn, hb⟩
    · exact ⟨n + 1, by omega, fun hn => absurd hn ha, fun _ => rfl, fun i hi => dfs_none Hv.out (by rw [hlen.out]; exact h6) ha (by rw [hlen.out]; omega)⟩
  obtain ⟨s, hs1, hs2, hs3, hs4⟩ := hstop
  have Hs2 := hid hs2
  have Hs3 := hid hs3
  have Hs4 := hid hs4
  clear hs2 hs3 hs4
  go_enter Try.func72, Try.ntmps72
  go_wp2
  go_loopw [12] (fun i wr => ∃ (j : Nat), j ≤ s ∧ i = .int .i64 j ∧ Below w.heap.size w wr)
    (fun i _ => n + 1 - (intOf i).toNat)
  case atStart => exact ⟨0, Nat.zero_le _, rfl, Below.refl _ _⟩
  case round =>
    obtain ⟨j, hj, rfl, hbr⟩ := hrel
    by_cases hlt : j < n + 1
    · have hi1 : (j : Int) < (n : Int) + 1 := by omega
      have Hit : Hid (IT xs (j : Int)) := hid ⟨Hv.out, by rw [hlen.out]; omega, by omega, by rw [hlen.out]; omega⟩
      have hjx : Hid (j ≤ xs.length) := hid (by rw [hlen.out]; omega)
      have Hvi := hid (insT_valid Hv.out (by rw [hlen.out]; omega) hjx.out)
      go_wp2_with fail
      refine (insI_any _ _ _ xs (j : Int) _ (h.later hbr) Hnil.out).mono ?_
      rintro e wa ⟨ua, rfl, oa, ba⟩
      rw [decide_eq_true Hit.out]
      rw [onIT_yes Hit.out, Int.toNat_natCast] at oa
      obtain ⟨I, hI⟩ : ∃ I, I = insT xs j := ⟨_, rfl⟩
      rw [← hI] at oa Hvi
      have HI := hid hI
      obtain ⟨ada, cpa, rfl, sa⟩ := oa.sl
      obtain ⟨L, hL⟩ : ∃ L, L = I.length := ⟨_, rfl⟩
      rw [← hL] at oa sa ⊢
      clear hL
      have tb := hbr.trans (ba.mono hbr.size)
      have ma := major_bd Hvi.out.len
      have ma0 := ma.1
      have ma1 := ma.2
      have mc := Hm.out
      have mc0 := mc.1
      have mc1 := mc.2
      clear ma mc hI
      go_wp2_with fail
      refine (says_to (majorI_any _ _ _ I _ sa) (onVi_yes Hvi.out)).mono ?_
      rintro e wb ⟨rfl, bb⟩
      have tb2 := tb.trans (bb.mono tb.size)
      have ob := oa.below (Nat.le_refl _) bb
      clear sa
      go_wp2_with fail
      refine (says_to (majorI_any _ _ _ xs _ (h.later tb2)) (onVi_yes Hv.out)).mono ?_
      rintro e wc ⟨rfl, bc⟩
      have tb3 := tb2.trans (bc.mono tb2.size)
      have oc := (ob.below (Nat.le_refl _) bc).mono hbr.size
      have hwr : IntKind.i64.wrap (major I - major xs) = major I - major xs := IntWalk.i64_in _ ⟨by omega, by omega⟩
      have eD : Hid (dfs xs j = major I - major xs) := hid (by rw [dfs, HI.out])
      by_cases he : major I - major xs = x
      · have ht : (major I - major xs == x) = true := by simpa using he
        have hjs : j = s := by
          rcases Nat.lt_or_ge j s with hq | hq
          · exact absurd (eD.out.trans he) (Hs4.out j hq)
          · omega
        have ha : AD xs x := by
          by_cases ha : AD xs x
          · exact ha
          · have := Hs3.out ha; omega
        have Ha := hid ha
        have He := hid he
        have eF : I = onAD xs x := by
          rw [HI.out, onAD, if_pos ha]
          exact (omS_at hjx.out (fun i hi => Hs4.out i (by omega)) (eD.out.trans he)).symm
        rw [eF] at oc
        have Oc := hid oc
        clear he ha eF oc ob oa
        go_wp2
        go_ret2
        exact made2_yes Ha.out Oc.out tb3
      · have ht : (major I - major xs == x) = false := by simpa using he
        have hjs : j < s := by
          rcases Nat.lt_or_ge j s with hq | hq
          · exact hq
          · exfalso
            by_cases ha : AD xs x
            · have := Hs2.out ha
              exact he (eD.out.symm.trans (by rw [show j = s by omega]; exact this.2))
            · have := Hs3.out ha; omega
        clear he oc ob oa
        go_wp2
        go_roundw
        case rel => exact ⟨j + 1, by omega, by go_num, tb3⟩
        case measure => simp [intOf]; omega
    · have ha : ¬ AD xs x := fun ha => by have := Hs2.out ha; omega
      have Ha := hid ha
      have hi1 : ¬ (j : Int) < (n : Int) + 1 := by omega
      obtain rfl : j = n + 1 := by omega
      clear ha
      go_wp2
      go_ret2
      exact made2_no Ha.out (if_neg Ha.out) hbr

set_option maxHeartbeats 2000000 in
theorem omI_any (ao : Option Addr) (n cap : Nat) (xs : List Int) (w : World) (h : Sl w ao n cap xs) :
    Calls Try.prog 34 #[.slice ao n cap] w (Made2 w (onVR xs (omT xs)) (decide (VR xs))) := by
  have hbig := h.big
  have hlen := hid h.len
  by_cases h7 : n ≤ 7
  · have h7i : (n : Int) ≤ 7 := by omega
    go_enter Try.func34, Try.ntmps34
    go_wp2
    go_loopw [4, 15] (fun v i wr => ∃ (k : Nat) (ao' : Option Addr) (cap' : Nat), k ≤ n ∧ v = .slice ao' k cap' ∧ i = .int .i64 k ∧ Below w.heap.size w wr ∧ Own wr w.heap.size (.slice ao' k cap') (omP xs k) ∧ Hid (VRk xs k))
      (fun v _ _ => n - lenOf v)
    case atStart => exact ⟨0, _, _, Nat.zero_le _, rfl, rfl, (Below.refl _ _).alloc (Nat.le_refl _) _, own_lit w, fun j hj => by omega⟩
    case round =>
      obtain ⟨k, ao', cap', hk, rfl, rfl, hbr, ho, hr⟩ := hrel
      by_cases hlt : k < n
      · obtain ⟨b, off, rfl, hblt, hc⟩ := h.row (by omega)
        have hcell := (hbr.cell (p := ⟨b, off + k, none⟩) hblt).trans (hc k hlt)
        have hi1 : (k : Int) < n := by omega
        have Hpv := hid (omP_valid k (by omega) hr.out)
        clear hc
        go_wp2_with fail
        refine (adding_any _ _ _ (omP xs k) (el xs k) _ ho.read ho.nilcap Hpv.out.1 (by omega)).mono ?_
        rintro e wa ⟨ua, rfl, oa, ba⟩
        have tb := hbr.trans (ba.mono hbr.size)
        by_cases ha : AD (omP xs k) (el xs k)
        · have hr2 : Hid (VRk xs (k + 1)) := hid (fun j hj => by
            by_cases e : j = k
            · rw [e]; have := ha; unfold AD at this; rw [Hpv.out.2] at this; exact this
            · exact hr.out j (by omega))
          have lq := (omP_valid (ts := xs) (k + 1) (by omega) hr2.out).2
          rw [decide_eq_true ha]
          rw [onAD, if_pos ha, show omS (omP xs k) (el xs k) = omP xs (k + 1) from rfl] at oa
          obtain ⟨ada, cpa, rfl, sa⟩ := oa.sl
          rw [lq] at oa ⊢
          have Oa := hid (oa.mono hbr.size)
          clear ha lq sa oa ho
          go_wp2
          go_roundw
          case rel => exact ⟨k + 1, _, _, by omega, rfl, by go_num, tb, Oa.out, hr2⟩
          case measure => simp [lenOf]; omega
        · have Hno : Hid (¬ VR xs) := hid fun v => ha ⟨v.lo k (by rw [hlen.out]; exact hlt), by rw [Hpv.out.2]; exact v.hi k (by rw [hlen.out]; exact hlt)⟩
          rw [decide_eq_false ha]
          clear ha oa
          go_wp2
          go_ret2
          exact made2_no Hno.out (onVR_no Hno.out) tb
      · obtain rfl : k = n := by omega
        have Hv : Hid (VR xs) := hid ⟨by rw [hlen.out]; exact h7, fun j hj => (hr.out j (by rw [hlen.out] at hj; exact hj)).1, fun j hj => (hr.out j (by rw [hlen.out] at hj; exact hj)).2⟩
        have oF : Own wr w.heap.size (.slice ao' k cap') (onVR xs (omT xs)) := by
          rw [onVR_yes Hv.out, omT, hlen.out]; exact ho
        go_wp2
        go_ret2
        exact made2_yes Hv.out oF hbr
  · have h7i : (7 : Int) < n := by omega
    have Hno : Hid (¬ VR xs) := hid fun v => h7 (by have := v.len; rw [hlen.out] at this; exact this)
    go_enter Try.func34, Try.ntmps34
    go_wp2
    go_ret2
    exact made2_no Hno.out (onVR_no Hno.out) (Below.refl _ _)

end Go.Proofs.Ytlhphgldmefefab
