/- Inverses and products of signed orders, in the program and in its model. Condition: the lists' cells can be read and hold numbers of 64 bits. -/
import Derived.Test.YtjgaglfinpeeoabSgnD
namespace Go.Proofs.Ytjgaglfinpeeoab
open Go.RowKit

theorem sglI_any (x y : Int) (w : World) (h : -1000 ≤ y ∧ y ≤ 1000) :
    Calls Try.prog 42 #[.int .i64 x, .int .i64 y] w fun e w' => e = .returned (.int .i64 (sgl x y)) ∧ w = w' := by
  obtain ⟨h1, h2⟩ := h
  by_cases e : x < 0
  · have E := hid (sgl_yes (y := y) e)
    go_enter Try.func42, Try.ntmps42
    go_wp2
    go_ret
    exact ⟨ret_eq (congrArg (Value.int .i64) E.out.symm), rfl⟩
  · have E := hid (sgl_no (y := y) e)
    go_enter Try.func42, Try.ntmps42
    go_wp2
    go_ret
    exact ⟨ret_eq (congrArg (Value.int .i64) E.out.symm), rfl⟩

set_option maxHeartbeats 1000000 in
theorem isgI_any (ao : Option Addr) (n cap : Nat) (xs : List Int) (w : World) (h : Sl w ao n cap xs) (Hr : Hid (R64 xs)) :
    Calls Try.prog 16 #[.slice ao n cap] w (Made w (onS xs (invS xs))) := by
  have hbig := h.big
  have hlen := hid h.len
  by_cases hv : SV xs
  · have h5 : n ≤ 5 := by have := hv.len; rw [hlen.out] at this; exact this
    have Hv := hid hv
    clear hv
    go_enter Try.func16, Try.ntmps16
    go_wp2_with fail
    refine (svI_any _ _ _ xs _ h Hr).mono ?_
    rintro e w1 ⟨rfl, hb1⟩
    rw [decide_eq_true Hv.out]
    have hsz := hb1.size
    go_wp2_with (at_make; refine make_ints _ rfl _ _ rfl _ _ n rfl rfl rfl rfl (by omega) ?_)
    intro w2 ho2 hb2
    have hb3 := hb1.trans (hb2.mono hb1.size)
    have Hsz := hid hsz
    clear hsz
    go_wp2
    go_loopw [14] (fun i wr => ∃ (k : Nat) (zs : List Int), k ≤ n ∧ i = .int .i64 k ∧ Below w.heap.size w wr ∧ OwS wr w1.heap.size w1.heap.size n n zs ∧ Hid (zs = iter (invSF xs) (List.replicate xs.length 0) k))
      (fun i _ => n - (intOf i).toNat)
    case atStart => exact ⟨0, _, Nat.zero_le _, rfl, hb3, ho2, by rw [hlen.out]; rfl⟩
    case round =>
      obtain ⟨k, zs, hk, rfl, hbr, hr, hz⟩ := hrel
      by_cases hlt : k < n
      · obtain ⟨b, off, rfl, hblt, hc⟩ := h.row (by omega)
        have hcell := (hbr.cell (p := ⟨b, off + k, none⟩) hblt).trans (hc k hlt)
        obtain ⟨v, hv⟩ : ∃ v : Nat, ab (el xs k) = (v : Int) + 1 := ⟨(ab (el xs k) - 1).toNat, by have := (Hv.out.bd (j := k) (by rw [hlen.out]; exact hlt)).1; omega⟩
        have hvn : v < n := by have := (Hv.out.bd (j := k) (by rw [hlen.out]; exact hlt)).2; rw [hlen.out] at this; omega
        have hvi : (v : Int) < n := by omega
        have Hab := hid hv
        have hstep : Hid (iter (invSF xs) (List.replicate xs.length 0) (k + 1) = (iter (invSF xs) (List.replicate xs.length 0) k).set v (sgl (el xs k) ((k : Int) + 1))) := by
          show invSF xs _ k = _
          rw [invSF, Hab.out, Int.add_sub_cancel, Int.toNat_natCast]
        have hbk : Hid (-9223372036854775807 ≤ el xs k ∧ el xs k ≤ 9223372036854775807) := by have := Hv.out.lo (j := k) (by rw [hlen.out]; exact hlt); rw [hlen.out] at this; exact ⟨by omega, by omega⟩
        have hi1 : (k : Int) < n := by omega
        have hfr := hr.frozen v
        have hcur := hr.cell hvn
        clear hv hc
        have hks : (k : Int) + 1 ≤ 1000 := by omega
        go_wp2_with fail
        refine (sizeI_any _ _ hbk.out).mono ?_
        rintro e w3 ⟨rfl, hw3⟩
        subst hw3
        rw [Hab.out]
        go_wp2_with fail
        refine (sglI_any _ _ _ ⟨by omega, hks⟩).mono ?_
        rintro e w3 ⟨rfl, hw3⟩
        subst hw3
        go_wp2
        go_roundw
        case rel => exact ⟨k + 1, _, by omega, by go_num, hbr.setCell Hsz.out _, hr.set v _, hid (by rw [hstep.out, ← hz.out])⟩
        case measure => simp [intOf]; omega
      · obtain rfl : k = n := by omega
        go_wp2
        go_ret
        refine ⟨_, rfl, ?_, hbr⟩
        have e : zs = invS xs := by rw [hz.out, invS, hlen.out]
        rw [onS_yes Hv.out, ← e]
        exact hr.own.mono Hsz.out
  · have Hv := hid hv
    clear hv
    go_enter Try.func16, Try.ntmps16
    go_wp2_with fail
    refine (svI_any _ _ _ xs _ h Hr).mono ?_
    rintro e w1 ⟨rfl, hb1⟩
    rw [decide_eq_false Hv.out]
    go_wp2
    go_ret
    refine ⟨_, rfl, ?_, hb1⟩
    rw [onS_no Hv.out]
    exact Own.nil

set_option maxHeartbeats 1000000 in
theorem isgS0_any (ao : Option Addr) (n cap : Nat) (xs : List Int) (w : World) (h : Sl w ao n cap xs) (Hv : Hid (SV xs)) :
    Calls Try.prog 51 #[.slice ao n cap] w (Made w (invS xs)) := by
  have hbig := h.big
  have hlen := hid h.len
  have h5 : n ≤ 5 := by have := Hv.out.len; rw [hlen.out] at this; exact this
  go_enter Try.func51, Try.ntmps51
  go_wp2_with (at_make; refine make_ints _ rfl _ _ rfl _ _ n rfl rfl rfl rfl (by omega) ?_)
  intro w2 ho2 hb2
  have hb3 := hb2
  have Hsz : Hid (w.heap.size ≤ w.heap.size) := Nat.le_refl _
  go_wp2
  go_loopw [4] (fun i wr => ∃ (k : Nat) (zs : List Int), k ≤ n ∧ i = .int .i64 k ∧ Below w.heap.size w wr ∧ OwS wr w.heap.size w.heap.size n n zs ∧ Hid (zs = iter (invSF xs) (List.replicate xs.length 0) k))
    (fun i _ => n - (intOf i).toNat)
  case atStart => exact ⟨0, _, Nat.zero_le _, rfl, hb3, ho2, by rw [hlen.out]; rfl⟩
  case round =>
    obtain ⟨k, zs, hk, rfl, hbr, hr, hz⟩ := hrel
    by_cases hlt : k < n
    · obtain ⟨b, off, rfl, hblt, hc⟩ := h.row (by omega)
      have hcell := (hbr.cell (p := ⟨b, off + k, none⟩) hblt).trans (hc k hlt)
      obtain ⟨v, hv⟩ : ∃ v : Nat, ab (el xs k) = (v : Int) + 1 := ⟨(ab (el xs k) - 1).toNat, by have := (Hv.out.bd (j := k) (by rw [hlen.out]; exact hlt)).1; omega⟩
      have hvn : v < n := by have := (Hv.out.bd (j := k) (by rw [hlen.out]; exact hlt)).2; rw [hlen.out] at this; omega
      have hvi : (v : Int) < n := by omega
      have Hab := hid hv
      have hstep : Hid (iter (invSF xs) (List.replicate xs.length 0) (k + 1) = (iter (invSF xs) (List.replicate xs.length 0) k).set v (sgl (el xs k) ((k : Int) + 1))) := by
        show invSF xs _ k = _
        rw [invSF, Hab.out, Int.add_sub_cancel, Int.toNat_natCast]
      have hbk : Hid (-9223372036854775807 ≤ el xs k ∧ el xs k ≤ 9223372036854775807) := by have := Hv.out.lo (j := k) (by rw [hlen.out]; exact hlt); rw [hlen.out] at this; exact ⟨by omega, by omega⟩
      have hi1 : (k : Int) < n := by omega
      have hfr := hr.frozen v
      have hcur := hr.cell hvn
      clear hv hc
      by_cases he : el xs k < 0
      · have hx : el xs k = -((v : Int) + 1) := by have := ab_neg he; have := Hab.out; omega
        have hset : Hid (zs.set v (-(k : Int) - 1) = iter (invSF xs) (List.replicate xs.length 0) (k + 1)) := hid (by rw [hstep.out, ← hz.out, sgl_yes he]; congr 1; omega)
        rw [hx] at hcell
        clear hx he
        go_wp2
        go_roundw
        case rel => exact ⟨k + 1, _, by omega, by go_num, hbr.setCell Hsz.out _, hr.set v _, hset⟩
        case measure => simp [intOf]; omega
      · have hx : el xs k = (v : Int) + 1 := by have := ab_pos (x := el xs k) (by omega); have := Hab.out; omega
        have hset : Hid (zs.set v ((k : Int) + 1) = iter (invSF xs) (List.replicate xs.length 0) (k + 1)) := hid (by rw [hstep.out, ← hz.out, sgl_no he])
        rw [hx] at hcell
        clear hx he
        go_wp2
        go_roundw
        case rel => exact ⟨k + 1, _, by omega, by go_num, hbr.setCell Hsz.out _, hr.set v _, hset⟩
        case measure => simp [intOf]; omega
    · obtain rfl : k = n := by omega
      go_wp2
      go_ret
      refine ⟨_, rfl, ?_, hbr⟩
      have e : zs = invS xs := by rw [hz.out, invS, hlen.out]
      rw [← e]
      exact hr.own

set_option maxHeartbeats 1000000 in
theorem isgS_any (ao : Option Addr) (n cap : Nat) (xs : List Int) (w : World) (h : Sl w ao n cap xs) :
    Calls Try.prog 25 #[.slice ao n cap] w (Made w (onS xs (invS xs))) := by
  have hbig := h.big
  have hlen := hid h.len
  by_cases hv : SV xs
  · have h5 : n ≤ 5 := by have := hv.len; rw [hlen.out] at this; exact this
    have Hv := hid hv
    clear hv
    go_enter Try.func25, Try.ntmps25
    go_wp2_with fail
    refine (svS0_any _ _ _ xs _ h).mono ?_
    rintro e w1 ⟨rfl, hb1⟩
    rw [decide_eq_true Hv.out]
    have hsz := hb1.size
    go_wp2_with fail
    refine (isgS0_any _ _ _ xs _ (h.later hb1) Hv).mono ?_
    rintro e w2 ⟨u2, rfl, ho2, hb2⟩
    go_wp2
    go_ret
    refine ⟨_, rfl, ?_, hb1.trans (hb2.mono hsz)⟩
    rw [onS_yes Hv.out]
    exact ho2.mono hsz
  · have Hv := hid hv
    clear hv
    go_enter Try.func25, Try.ntmps25
    go_wp2_with fail
    refine (svS0_any _ _ _ xs _ h).mono ?_
    rintro e w1 ⟨rfl, hb1⟩
    rw [decide_eq_false Hv.out]
    go_wp2
    go_ret
    refine ⟨_, rfl, ?_, hb1⟩
    rw [onS_no Hv.out]
    exact Own.nil

theorem atS_any (ao : Option Addr) (n cap : Nat) (xs : List Int) (x : Int) (v : Nat) (w : World) (h : Sl w ao n cap xs) (hx : Hid (ab x = (v : Int) + 1)) (hv : v < n) (Hy : Hid (-1000 ≤ el xs v ∧ el xs v ≤ 1000)) (hn : n ≤ 1000) :
    Calls Try.prog 45 #[.slice ao n cap, .int .i64 x] w fun e w' => e = .returned (.int .i64 (sgl x (el xs v))) ∧ w = w' := by
  have hbig := h.big
  obtain ⟨b, off, rfl, hblt, hc⟩ := h.row (by omega)
  have hcell := hc v hv
  have hvi : (v : Int) < n := by omega
  obtain ⟨hy1, hy2⟩ := Hy.out
  clear hc
  by_cases e : x < 0
  · have E := hid (sgl_yes (y := el xs v) e)
    have hx2 : x = -((v : Int) + 1) := by have := ab_neg e; have := hx.out; omega
    have E2 := E.out
    subst hx2
    have E := hid E2
    clear E2 e
    go_enter Try.func45, Try.ntmps45
    go_wp2
    go_ret
    exact ⟨ret_eq (congrArg (Value.int .i64) E.out.symm), rfl⟩
  · have E := hid (sgl_no (y := el xs v) e)
    have hx2 : x = (v : Int) + 1 := by have := ab_pos (x := x) (by omega); have := hx.out; omega
    have E2 := E.out
    subst hx2
    have E := hid E2
    clear E2 e
    go_enter Try.func45, Try.ntmps45
    go_wp2
    go_ret
    exact ⟨ret_eq (congrArg (Value.int .i64) E.out.symm), rfl⟩

set_option maxHeartbeats 2000000 in
theorem mulI_any (ao : Option Addr) (n cap : Nat) (xs : List Int) (bo : Option Addr) (m cap2 : Nat) (ys : List Int) (w : World) (h : Sl w ao n cap xs) (g : Sl w bo m cap2 ys) (Hr : Hid (R64 xs)) (Gr : Hid (R64 ys)) :
    Calls Try.prog 13 #[.slice ao n cap, .slice bo m cap2] w (Made2 w (onSM xs ys (mulS xs ys)) (decide (SM xs ys))) := by
  have hbig := h.big
  have hlen := hid h.len
  have gbig := g.big
  have glen := hid g.len
  by_cases hv : SV xs
  · have Hv := hid hv
    clear hv
    by_cases gv : SV ys
    · have Gv := hid gv
      clear gv
      by_cases hnm : n = m
      · subst hnm
        have Hyes : Hid (SM xs ys) := hid ⟨Hv.out, Gv.out, by rw [hlen.out, glen.out]⟩
        have h5 : n ≤ 5 := by have := Hv.out.len; rw [hlen.out] at this; exact this
        go_enter Try.func13, Try.ntmps13
        go_wp2_with fail
        refine (svI_any _ _ _ xs _ h Hr).mono ?_
        rintro e w1 ⟨rfl, hb1⟩
        rw [decide_eq_true Hv.out]
        go_wp2_with fail
        refine (svI_any _ _ _ ys _ (g.later hb1) Gr).mono ?_
        rintro e w2 ⟨rfl, hb2⟩
        rw [decide_eq_true Gv.out]
        have hb2 := hb1.trans (hb2.mono hb1.size)
        have hnn : ((n : Int) != n) = false := by simp
        go_wp2_with (at_make; refine make_ints _ rfl _ _ rfl _ _ n rfl rfl rfl rfl (by omega) ?_)
        intro w3 ho3 hb3
        have hb4 := hb2.trans (hb3.mono hb2.size)
        have hs3 : w.heap.size ≤ w2.heap.size := hb2.size
        go_wp2
        go_loopw [29] (fun i wr => ∃ (k : Nat) (zs : List Int), k ≤ n ∧ i = .int .i64 k ∧ Below w.heap.size w wr ∧ OwS wr w2.heap.size w2.heap.size n n zs ∧ Hid (∀ j, j < k → el zs j = mulF xs ys j))
          (fun i _ => n - (intOf i).toNat)
        case atStart => exact ⟨0, _, Nat.zero_le _, rfl, hb4, ho3, fun j hj => by omega⟩
        case round =>
          obtain ⟨k, zs, hk, rfl, hbr, hr, hz⟩ := hrel
          by_cases hlt : k < n
          · obtain ⟨b2, off2, rfl, hblt2, hc2⟩ := g.row (by omega)
            have hcell := (hbr.cell (p := ⟨b2, off2 + k, none⟩) hblt2).trans (hc2 k hlt)
            obtain ⟨b, off, rfl, hblt, hc⟩ := h.row (by omega)
            obtain ⟨v, hv⟩ : ∃ v : Nat, ab (el ys k) = (v : Int) + 1 := ⟨(ab (el ys k) - 1).toNat, by have := (Gv.out.bd (j := k) (by rw [glen.out]; exact hlt)).1; omega⟩
            have hvn : v < n := by have := (Gv.out.bd (j := k) (by rw [glen.out]; exact hlt)).2; rw [glen.out] at this; omega
            have hvi : (v : Int) < n := by omega
            have Hab := hid hv
            have hbk : Hid (-9223372036854775807 ≤ el ys k ∧ el ys k ≤ 9223372036854775807) := by have := Gv.out.lo (j := k) (by rw [glen.out]; exact hlt); rw [glen.out] at this; exact ⟨by omega, by omega⟩
            have hyv : Hid (-1000 ≤ el xs v ∧ el xs v ≤ 1000) := by have := Hv.out.lo (j := v) (by rw [hlen.out]; exact hvn); rw [hlen.out] at this; exact ⟨by omega, by omega⟩
            have hval : Hid (mulF xs ys k = sgl (el ys k) (el xs v)) := hid (by rw [mulF, Hab.out, Int.add_sub_cancel, Int.toNat_natCast])
            have hi1 : (k : Int) < n := by omega
            clear hv
            have hcellv := (hbr.cell (p := ⟨b, off + v, none⟩) hblt).trans (hc v hvn)
            have hfr := hr.frozen k
            have hcur := hr.cell hlt
            have hzl := hid hr.len
            clear hc hc2
            go_wp2_with fail
            refine (sizeI_any _ _ hbk.out).mono ?_
            rintro e w4 ⟨rfl, hw4⟩
            subst hw4
            rw [Hab.out]
            go_wp2_with fail
            refine (sglI_any _ _ _ hyv.out).mono ?_
            rintro e w4 ⟨rfl, hw4⟩
            subst hw4
            go_wp2
            go_roundw
            case rel =>
              refine ⟨k + 1, _, by omega, by go_num, hbr.setCell hs3 _, hr.set k _, upto_step (fun j hj => ?_) ?_⟩
              · rw [el_set_ne (by omega)]; exact hz.out j hj
              · rw [el_set_same (by rw [hzl.out]; exact hlt), hval.out]
            case measure => simp [intOf]; omega
          · obtain rfl : k = n := by omega
            go_wp2
            go_ret2
            have e : zs = mulS xs ys := ext_el (by rw [hr.len, mulS_len, glen.out]) (fun j hj => by rw [hr.len] at hj; rw [hz.out j hj, mulS, el_map (by rw [glen.out]; exact hj)])
            exact made2_yes Hyes.out (by rw [onSM_yes Hyes.out, ← e]; exact hr.own.mono hs3) hbr
      · have Hno : Hid (¬ SM xs ys) := hid (fun q => hnm (by have := q.2.2; rw [hlen.out, glen.out] at this; exact this))
        have hnn : ((n : Int) != m) = true := by simp; omega
        have hne : ¬ (n : Int) = m := by omega
        clear hnm
        go_enter Try.func13, Try.ntmps13
        go_wp2_with fail
        refine (svI_any _ _ _ xs _ h Hr).mono ?_
        rintro e w1 ⟨rfl, hb1⟩
        rw [decide_eq_true Hv.out]
        go_wp2_with fail
        refine (svI_any _ _ _ ys _ (g.later hb1) Gr).mono ?_
        rintro e w2 ⟨rfl, hb2⟩
        rw [decide_eq_true Gv.out]
        have hb2 := hb1.trans (hb2.mono hb1.size)
        go_wp2
        go_ret2
        exact made2_no Hno.out (onSM_no Hno.out) hb2
    · have Gv := hid gv
      clear gv
      have Hno : Hid (¬ SM xs ys) := hid (fun q => Gv.out q.2.1)
      go_enter Try.func13, Try.ntmps13
      go_wp2_with fail
      refine (svI_any _ _ _ xs _ h Hr).mono ?_
      rintro e w1 ⟨rfl, hb1⟩
      rw [decide_eq_true Hv.out]
      go_wp2_with fail
      refine (svI_any _ _ _ ys _ (g.later hb1) Gr).mono ?_
      rintro e w2 ⟨rfl, hb2⟩
      rw [decide_eq_false Gv.out]
      have hb2 := hb1.trans (hb2.mono hb1.size)
      go_wp2
      go_ret2
      exact made2_no Hno.out (onSM_no Hno.out) hb2
  · have Hv := hid hv
    clear hv
    have Hno : Hid (¬ SM xs ys) := hid (fun q => Hv.out q.1)
    go_enter Try.func13, Try.ntmps13
    go_wp2_with fail
    refine (svI_any _ _ _ xs _ h Hr).mono ?_
    rintro e w1 ⟨rfl, hb1⟩
    rw [decide_eq_false Hv.out]
    go_wp2
    go_ret2
    exact made2_no Hno.out (onSM_no Hno.out) hb1

theorem mulS_cut (xs ys : List Int) {n : Nat} (h : ys.length = n) : mulS xs ys = (List.range n).map (mulF xs ys) := by rw [mulS, h]

set_option maxHeartbeats 2000000 in
theorem mulSS_any (ao : Option Addr) (n cap : Nat) (xs : List Int) (bo : Option Addr) (m cap2 : Nat) (ys : List Int) (w : World) (h : Sl w ao n cap xs) (g : Sl w bo m cap2 ys) :
    Calls Try.prog 14 #[.slice ao n cap, .slice bo m cap2] w (Made2 w (onSM xs ys (mulS xs ys)) (decide (SM xs ys))) := by
  have hbig := h.big
  have hlen := hid h.len
  have gbig := g.big
  have glen := hid g.len
  by_cases hv : SV xs
  · have Hv := hid hv
    clear hv
    by_cases gv : SV ys
    · have Gv := hid gv
      clear gv
      by_cases hnm : n = m
      · subst hnm
        have Hyes : Hid (SM xs ys) := hid ⟨Hv.out, Gv.out, by rw [hlen.out, glen.out]⟩
        have h5 : n ≤ 5 := by have := Hv.out.len; rw [hlen.out] at this; exact this
        go_enter Try.func14, Try.ntmps14
        go_wp2_with fail
        refine (svS0_any _ _ _ xs _ h).mono ?_
        rintro e w1 ⟨rfl, hb1⟩
        rw [decide_eq_true Hv.out]
        go_wp2_with fail
        refine (svS0_any _ _ _ ys _ (g.later hb1)).mono ?_
        rintro e w2 ⟨rfl, hb2⟩
        rw [decide_eq_true Gv.out]
        have hb2 := hb1.trans (hb2.mono hb1.size)
        have hnn : ((n : Int) != n) = false := by simp
        have hs3 : w.heap.size ≤ w2.heap.size := hb2.size
        go_wp2
        go_loopw [6, 7] (fun v i wr => ∃ (k : Nat) (ao' : Option Addr) (cap' : Nat), k ≤ n ∧ v = .slice ao' k cap' ∧ i = .int .i64 k ∧ Below w.heap.size w wr ∧ Own wr w.heap.size (.slice ao' k cap') ((List.range k).map (mulF xs ys)))
          (fun _ i _ => n - (intOf i).toNat)
        case atStart => exact ⟨0, _, _, Nat.zero_le _, rfl, rfl, hb2.alloc hs3 _, (own_lit w2).mono hs3⟩
        case round =>
          obtain ⟨k, ao', cap', hk, rfl, rfl, hbr, ho⟩ := hrel
          by_cases hlt : k < n
          · obtain ⟨b2, off2, rfl, hblt2, hc2⟩ := g.row (by omega)
            have hcell := (hbr.cell (p := ⟨b2, off2 + k, none⟩) hblt2).trans (hc2 k hlt)
            obtain ⟨v, hv⟩ : ∃ v : Nat, ab (el ys k) = (v : Int) + 1 := ⟨(ab (el ys k) - 1).toNat, by have := (Gv.out.bd (j := k) (by rw [glen.out]; exact hlt)).1; omega⟩
            have hvn : v < n := by have := (Gv.out.bd (j := k) (by rw [glen.out]; exact hlt)).2; rw [glen.out] at this; omega
            have hvi : (v : Int) < n := by omega
            have Hab := hid hv
            have hbk : Hid (-9223372036854775807 ≤ el ys k ∧ el ys k ≤ 9223372036854775807) := by have := Gv.out.lo (j := k) (by rw [glen.out]; exact hlt); rw [glen.out] at this; exact ⟨by omega, by omega⟩
            have hyv : Hid (-1000 ≤ el xs v ∧ el xs v ≤ 1000) := by have := Hv.out.lo (j := v) (by rw [hlen.out]; exact hvn); rw [hlen.out] at this; exact ⟨by omega, by omega⟩
            have hval : Hid (mulF xs ys k = sgl (el ys k) (el xs v)) := hid (by rw [mulF, Hab.out, Int.add_sub_cancel, Int.toNat_natCast])
            have hi1 : (k : Int) < n := by omega
            clear hv
            have hsx := h.later hbr
            have hsz2 := hbr.size
            have hl : ((List.range k).map (mulF xs ys)).length ≤ 2000000 := by rw [map_range_len]; omega
            clear hc2
            go_wp2_with fail
            refine (atS_any _ _ _ xs _ v _ hsx Hab hvn hyv (by omega)).mono ?_
            rintro e w4 ⟨rfl, hw4⟩
            subst hw4
            go_wp2_with (at_builtin; refine app_int _ _ rfl _ _ rfl w.heap.size _ _ rfl ho rfl hl hsz2 ?_)
            intro u' w' ho' hg'
            have hb' := below_app hbr ho hg'
            have ho2' : Own w' w.heap.size u' ((List.range (k + 1)).map (mulF xs ys)) := by
              rw [map_range_succ (mulF xs ys), hval.out]
              exact ho'
            clear ho'
            obtain ⟨ao', cap', rfl, hs'⟩ := ho2'.sl
            rw [map_range_len] at *
            go_wp2
            go_roundw
            case rel => exact ⟨k + 1, _, _, by omega, rfl, by go_num, hb', ho2'⟩
            case measure => simp [intOf]; omega
          · obtain rfl : k = n := by omega
            go_wp2
            go_ret2
            exact made2_yes Hyes.out (by rw [onSM_yes Hyes.out, mulS_cut xs ys glen.out]; exact ho) hbr
      · have Hno : Hid (¬ SM xs ys) := hid (fun q => hnm (by have := q.2.2; rw [hlen.out, glen.out] at this; exact this))
        have hnn : ((n : Int) != m) = true := by simp; omega
        have hne : ¬ (n : Int) = m := by omega
        clear hnm
        go_enter Try.func14, Try.ntmps14
        go_wp2_with fail
        refine (svS0_any _ _ _ xs _ h).mono ?_
        rintro e w1 ⟨rfl, hb1⟩
        rw [decide_eq_true Hv.out]
        go_wp2_with fail
        refine (svS0_any _ _ _ ys _ (g.later hb1)).mono ?_
        rintro e w2 ⟨rfl, hb2⟩
        rw [decide_eq_true Gv.out]
        have hb2 := hb1.trans (hb2.mono hb1.size)
        go_wp2
        go_ret2
        exact made2_no Hno.out (onSM_no Hno.out) hb2
    · have Gv := hid gv
      clear gv
      have Hno : Hid (¬ SM xs ys) := hid (fun q => Gv.out q.2.1)
      go_enter Try.func14, Try.ntmps14
      go_wp2_with fail
      refine (svS0_any _ _ _ xs _ h).mono ?_
      rintro e w1 ⟨rfl, hb1⟩
      rw [decide_eq_true Hv.out]
      go_wp2_with fail
      refine (svS0_any _ _ _ ys _ (g.later hb1)).mono ?_
      rintro e w2 ⟨rfl, hb2⟩
      rw [decide_eq_false Gv.out]
      have hb2 := hb1.trans (hb2.mono hb1.size)
      go_wp2
      go_ret2
      exact made2_no Hno.out (onSM_no Hno.out) hb2
  · have Hv := hid hv
    clear hv
    have Hno : Hid (¬ SM xs ys) := hid (fun q => Hv.out q.1)
    go_enter Try.func14, Try.ntmps14
    go_wp2_with fail
    refine (svS0_any _ _ _ xs _ h).mono ?_
    rintro e w1 ⟨rfl, hb1⟩
    rw [decide_eq_false Hv.out]
    go_wp2
    go_ret2
    exact made2_no Hno.out (onSM_no Hno.out) hb1

end Go.Proofs.Ytjgaglfinpeeoab
