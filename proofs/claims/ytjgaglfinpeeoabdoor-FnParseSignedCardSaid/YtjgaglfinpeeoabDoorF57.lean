/- The walks of the laws of SignedText and ParseSigned. Conditions: at most 2^20 bytes is the laws' own; that the library's table of powers of ten holds what its initialiser lays. -/
import Derived.Test.YtjgaglfinpeeoabDoorSgt
import Derived.Test.YtjgaglfinpeeoabDoorBnd
import Derived.Test.YtjgaglfinpeeoabDoorSgnC
import Derived.Test.YtjgaglfinpeeoabDoorPgt
import Derived.Test.YtjgaglfinpeeoabDoorDrawX
namespace Go.Proofs.YtjgaglfinpeeoabDoor
open Go.RowKit

theorem says_tos {P : Program} {f : FuncId} {a : Array Value} {w : World} {s t : ByteArray} (h : Calls P f a w (Says w (.string s))) (e : s = t) : Calls P f a w (Says w (.string t)) := e ▸ h
theorem made2_as {P : Program} {f : FuncId} {a : Array Value} {w : World} {xs ys : List Int} {b c : Bool} (h : Calls P f a w (Made2 w xs b)) (e : xs = ys) (e2 : b = c) : Calls P f a w (Made2 w ys c) := e ▸ e2 ▸ h
theorem prs_BA (l : List UInt8) : prs (BA l) = l.map toI := by
  unfold prs
  rw [BA_list]
  rfl
theorem read_BA {xs : List Int} (h : SV xs) : outX (prs (BA (txW xs))) = xs ∧ okX (prs (BA (txW xs))) = true := by
  rw [prs_BA]
  exact ⟨(read_txt h).2, (read_txt h).1⟩
theorem BA_read {t : ByteArray} (h : okX (prs t) = true) : BA (txW (outX (prs t))) = t ∧ SV (outX (prs t)) := by
  have := txt_read h
  exact ⟨BA_ext this.1, this.2⟩
theorem outX_no {vs : List Int} (h : okX vs = false) : outX vs = [] := by
  cases ht : tok vs with
  | none => exact (okX_none ht).2
  | some v =>
    have h5 := okX_some ht
    rw [h] at h5
    rw [h5.2, if_neg (of_decide_eq_false h5.1.symm)]

set_option maxHeartbeats 2000000 in
theorem fnSignedText (bo : Option Addr) (n cap : Nat) (cs : List Int) (w : World) (h : Slb w bo n cap cs) (hp : Pow w) :
    Calls Tryd.prog 3 #[.slice bo n cap] w (Says w (.bool true)) := by
  have hbig := h.big
  have Hp := hid hp
  by_cases hn : n ≤ 1048576
  · go_enter Tryd.func3, Tryd.ntmps3
    go_wp2_with fail
    refine (drawSignedText_any _ _ _ _ _ h).mono ?_
    rintro e w1 ⟨u1, ys, rfl, o1, H64, hl, t1⟩
    obtain ⟨adp, cpp, rfl, sp_1⟩ := o1.sl
    have Hl := hid hl
    clear hl o1
    by_cases hv : SV ys
    · have Hv := hid hv
      have h5 := hv.len
      have Hrd := hid (read_BA hv)
      have Hz : Hid (((BA (txW ys)).size : Int) = (ys.length : Int) + ngN ys) := hid (by rw [BA_size]; exact txW_neg hv)
      have hz1 : (BA (txW ys)).size ≤ 10 := by rw [BA_size]; exact txW_len ys
      clear hv
      obtain ⟨G, HG⟩ : ∃ G, Hid (G = ngN ys) := ⟨_, rfl⟩
      have hg : 0 ≤ G ∧ G ≤ 5 := by have := cntP_bd (ngF ys) ys.length; have e := HG.out; unfold ngN at e; omega
      obtain ⟨hg1, hg2⟩ := hg
      have Hz2 : ((BA (txW ys)).size : Int) = (ys.length : Int) + G := by rw [Hz.out, HG.out]
      go_wp2_with fail
      refine (sgtI_any _ _ _ ys _ sp_1 H64 (Hp.out.later t1)).mono ?_
      rintro e w2 ⟨rfl, b2⟩
      have t2 := t1.trans (b2.mono t1.size)
      have sp_2 := sp_1.later b2
      go_wp2_with fail
      refine (sgtS_any _ _ _ ys _ sp_2).mono ?_
      rintro e w3 ⟨rfl, b3⟩
      have t3 := t2.trans (b3.mono t2.size)
      have sp_3 := sp_2.later b3
      obtain ⟨tx, Htx⟩ : ∃ tx, Hid (tx = BA (txW ys)) := ⟨_, rfl⟩
      rw [← Htx.out] at hz1 Hz2 Hrd ⊢
      go_wp2_with fail
      refine (says_tob (svI_any _ _ _ ys _ sp_3 H64) (decide_eq_true Hv.out)).mono ?_
      rintro e w4 ⟨rfl, b4⟩
      have t4 := t3.trans (b4.mono t3.size)
      have sp_4 := sp_3.later b4
      go_wp2_with fail
      refine (made2_as (pgsI_any tx _ (by omega)) Hrd.out.1 Hrd.out.2).mono ?_
      rintro e w5 ⟨u5, rfl, o5, b5⟩
      have t5 := t4.trans (b5.mono t4.size)
      have sp_5 := sp_4.later b5
      obtain ⟨ad5, cp5, rfl, s5⟩ := o5.sl
      clear o5
      go_wp2_with fail
      refine (says_tob (equalInts_any _ _ _ ys _ _ _ ys _ s5 sp_5) (decide_eq_true rfl)).mono ?_
      rintro e w6 ⟨rfl, b6⟩
      have t6 := t5.trans (b6.mono t5.size)
      have sp_6 := sp_5.later b6
      go_wp2_with fail
      refine (says_to (ngI_any _ _ _ ys _ sp_6 H64) ((onSi_yes Hv.out).trans HG.out.symm)).mono ?_
      rintro e w7 ⟨rfl, b7⟩
      have t7 := t6.trans (b7.mono t6.size)
      go_wp2
      go_ret
      exact ⟨rfl, t7⟩
    · have Hv := hid hv
      clear hv
      go_wp2_with fail
      refine (sgtI_any _ _ _ ys _ sp_1 H64 (Hp.out.later t1)).mono ?_
      rintro e w2 ⟨rfl, b2⟩
      have t2 := t1.trans (b2.mono t1.size)
      have sp_2 := sp_1.later b2
      go_wp2_with fail
      refine (sgtS_any _ _ _ ys _ sp_2).mono ?_
      rintro e w3 ⟨rfl, b3⟩
      have t3 := t2.trans (b3.mono t2.size)
      have sp_3 := sp_2.later b3
      go_wp2_with fail
      refine (says_tob (svI_any _ _ _ ys _ sp_3 H64) (decide_eq_false Hv.out)).mono ?_
      rintro e w4 ⟨rfl, b4⟩
      have t4 := t3.trans (b4.mono t3.size)
      have sp_4 := sp_3.later b4
      go_wp2_with fail
      refine (sgtS_any _ _ _ ys _ sp_4).mono ?_
      rintro e w5 ⟨rfl, b5⟩
      have t5 := t4.trans (b5.mono t4.size)
      go_wp2
      go_ret
      exact ⟨rfl, t5⟩
  · go_enter Tryd.func3, Tryd.ntmps3
    go_wp2
    go_ret
    exact ⟨rfl, Below.refl _ _⟩

set_option maxHeartbeats 2000000 in
theorem fnParseSigned (bo : Option Addr) (n cap : Nat) (cs : List Int) (w : World) (h : Slb w bo n cap cs) (hp : Pow w) :
    Calls Tryd.prog 5 #[.slice bo n cap] w (Says w (.bool true)) := by
  have hbig := h.big
  have Hp := hid hp
  by_cases hn : n ≤ 1048576
  · go_enter Tryd.func5, Tryd.ntmps5
    go_wp2_with fail
    refine (drawParseSigned_any _ _ _ _ _ h).mono ?_
    rintro e w1 ⟨t, rfl, ht, t1⟩
    obtain ⟨zs, Hzs⟩ : ∃ zs, Hid (zs = outX (prs t)) := ⟨_, rfl⟩
    cases hk : okX (prs t) with
    | true =>
      have Hk := hid hk
      have Hrd := hid (BA_read hk)
      rw [← Hzs.out] at Hrd
      have H64 := hid Hrd.out.2.r64
      clear hk
      go_wp2_with fail
      refine (made2_as (pgsI_any t _ (by omega)) Hzs.out.symm Hk.out).mono ?_
      rintro e w2 ⟨u2, rfl, o2, b2⟩
      have t2 := t1.trans (b2.mono t1.size)
      obtain ⟨ad2, cp2, rfl, s2_2⟩ := o2.sl
      clear o2
      go_wp2_with fail
      refine (made2_as (pgsS_any t _ (by omega)) Hzs.out.symm Hk.out).mono ?_
      rintro e w3 ⟨u3, rfl, o3, b3⟩
      have t3 := t2.trans (b3.mono t2.size)
      have s2_3 := s2_2.later b3
      obtain ⟨ad3, cp3, rfl, s3_3⟩ := o3.sl
      clear o3
      go_wp2_with fail
      refine (says_tob (equalInts_any _ _ _ zs _ _ _ zs _ s2_3 s3_3) (decide_eq_true rfl)).mono ?_
      rintro e w4 ⟨rfl, b4⟩
      have t4 := t3.trans (b4.mono t3.size)
      have s2_4 := s2_3.later b4
      go_wp2_with fail
      refine (says_tos (sgtI_any _ _ _ zs _ s2_4 H64 (Hp.out.later t4)) Hrd.out.1).mono ?_
      rintro e w5 ⟨rfl, b5⟩
      have t5 := t4.trans (b5.mono t4.size)
      have s2_5 := s2_4.later b5
      go_wp2_with fail
      refine (says_tob (svI_any _ _ _ zs _ s2_5 H64) (decide_eq_true Hrd.out.2)).mono ?_
      rintro e w6 ⟨rfl, b6⟩
      have t6 := t5.trans (b6.mono t5.size)
      go_wp2
      go_ret
      exact ⟨rfl, t6⟩
    | false =>
      have Hk := hid hk
      clear hk
      go_wp2_with fail
      refine (made2_as (pgsI_any t _ (by omega)) Hzs.out.symm Hk.out).mono ?_
      rintro e w2 ⟨u2, rfl, o2, b2⟩
      have t2 := t1.trans (b2.mono t1.size)
      obtain ⟨ad2, cp2, rfl, s2_2⟩ := o2.sl
      clear o2
      go_wp2_with fail
      refine (made2_as (pgsS_any t _ (by omega)) Hzs.out.symm Hk.out).mono ?_
      rintro e w3 ⟨u3, rfl, o3, b3⟩
      have t3 := t2.trans (b3.mono t2.size)
      have s2_3 := s2_2.later b3
      obtain ⟨ad3, cp3, rfl, s3_3⟩ := o3.sl
      clear o3
      go_wp2_with fail
      refine (says_tob (equalInts_any _ _ _ zs _ _ _ zs _ s2_3 s3_3) (decide_eq_true rfl)).mono ?_
      rintro e w4 ⟨rfl, b4⟩
      have t4 := t3.trans (b4.mono t3.size)
      have s2_4 := s2_3.later b4
      have s3_4 := s3_3.later b4
      go_wp2_with fail
      refine (says_tob (equalInts_any _ _ _ zs _ _ _ zs _ s2_4 s3_4) (decide_eq_true rfl)).mono ?_
      rintro e w5 ⟨rfl, b5⟩
      have t5 := t4.trans (b5.mono t4.size)
      go_wp2
      go_ret
      exact ⟨rfl, t5⟩
  · go_enter Tryd.func5, Tryd.ntmps5
    go_wp2
    go_ret
    exact ⟨rfl, Below.refl _ _⟩

end Go.Proofs.YtjgaglfinpeeoabDoor
