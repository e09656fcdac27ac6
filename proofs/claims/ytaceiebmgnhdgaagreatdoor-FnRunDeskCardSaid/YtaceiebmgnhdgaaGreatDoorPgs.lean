/- Signed orders out of texts: the program's way. Condition: at most 2^20 bytes. -/
import Derived.Test.YtaceiebmgnhdgaaGreatDoorBnd
import Derived.Test.YtaceiebmgnhdgaaGreatDoorParse
import Derived.Test.YtaceiebmgnhdgaaGreatDoorSgn
import Derived.OwnWalk
namespace Go.Proofs.YtaceiebmgnhdgaaGreatDoor
open Go.RowKit

theorem prs_extract (s : ByteArray) (k : Nat) : prs (s.extract k s.size) = (prs s).drop k := by
  unfold prs
  rw [ByteArray.data_extract, Array.toList_extract, List.extract_eq_take_drop, ← List.map_drop]
  congr 1
  rw [List.take_of_length_le]
  rw [List.length_drop, Array.length_toList]
  exact Nat.le_refl _
theorem bytes_ext {s t : ByteArray} (h : s.data.toList = t.data.toList) : s = t := by
  cases s; cases t; congr; exact Array.toList_inj.1 h
theorem head_eq {s : ByteArray} (h : 0 < s.size) : ((s.extract 0 1).toList == [45]) = decide (el (prs s) 0 = -3) := by
  have h1 := beq_toListBytes (s.extract 0 1) ⟨#[45]⟩
  rw [show ByteArray.toList ⟨#[45]⟩ = [45] by kernel_rfl] at h1
  rw [← h1]
  have e1 : (s.extract 0 1).data.toList = s.data.toList.take 1 := by
    rw [ByteArray.data_extract, Array.toList_extract, List.extract_eq_take_drop]
    simp
  have hl : 0 < s.data.toList.length := by rw [Array.length_toList]; exact h
  cases hd : s.data.toList with
  | nil => rw [hd] at hl; simp at hl
  | cons c r =>
    have e2 : el (prs s) 0 = (c.toNat : Int) - 48 := by rw [prs, hd]; simp [el]
    rw [e2, Bool.eq_iff_iff, MapKept.bytes_beq, decide_eq_true_iff]
    constructor
    · intro e
      have h2 : (s.extract 0 1).data.toList = [45] := by rw [e]
      rw [e1, hd] at h2
      simp at h2
      subst h2
      decide
    · intro e
      have hc : c = 45 := by
        apply UInt8.toNat_inj.1
        show c.toNat = 45
        omega
      refine bytes_ext ?_
      rw [e1, hd, hc]
      rfl
theorem prs_nil {s : ByteArray} (h : ¬ 0 < s.size) : prs s = [] := List.eq_nil_of_length_eq_zero (by rw [prs_len]; omega)

set_option maxHeartbeats 1000000 in
theorem hasP_any (s : ByteArray) (w : World) (hs : s.size ≤ 1048576) :
    Calls Tryz.prog 142 #[.string s, .string ⟨#[45]⟩] w fun e w' => e = .returned (.bool (decide (el (prs s) 0 = -3))) ∧ w' = w := by
  by_cases h0 : 0 < s.size
  · have hh := head_eq h0
    have hi : (1 : Int) ≤ s.size := by omega
    go_enter Tryz.func142, Tryz.ntmps142
    go_wp2
    go_ret
    exact ⟨rfl, rfl⟩
  · have hz := prs_nil h0
    have hi : ¬ (1 : Int) ≤ s.size := by omega
    have Hd : Hid (decide (el (prs s) 0 = -3) = false) := hid (by rw [hz]; rfl)
    clear hz
    go_enter Tryz.func142, Tryz.ntmps142
    go_wp2
    go_ret
    exact ⟨ret_eq (congrArg Value.bool Hd.out.symm), rfl⟩

theorem ret_tup {a a' b b' : Value} (h1 : a = a') (h2 : b = b') : Ending.returned (.tuple #[a, b]) = .returned (.tuple #[a', b']) := by rw [h1, h2]

/-- What strings.CutPrefix leaves of a text. -/
def cutM (s : ByteArray) : ByteArray := if el (prs s) 0 = -3 then s.extract 1 s.size else s
set_option maxHeartbeats 1000000 in
theorem cutL_any (s : ByteArray) (w : World) (hs : s.size ≤ 1048576) :
    Calls Tryz.prog 136 #[.string s, .string ⟨#[45]⟩] w fun e w' => e = .returned (.tuple #[.string (cutM s), .bool (decide (el (prs s) 0 = -3))]) ∧ w' = w := by
  by_cases h0 : el (prs s) 0 = -3
  · have hsz : 0 < s.size := by
      rcases Nat.eq_zero_or_pos s.size with e | e
      · rw [prs_nil (by omega)] at h0; cases h0
      · exact e
    have hi : (1 : Int) ≤ s.size := by omega
    have Hc : Hid (cutM s = s.extract 1 s.size) := hid (if_pos h0)
    have Hd := hid (decide_eq_true h0)
    clear h0
    go_enter Tryz.func136, Tryz.ntmps136
    go_wp2_with fail
    refine (hasP_any s w hs).mono ?_
    rintro e w' ⟨rfl, hww⟩
    subst hww
    rw [Hd.out]
    go_wp2
    go_ret2
    exact ⟨ret_tup (congrArg Value.string Hc.out.symm) (congrArg Value.bool Hd.out.symm), rfl⟩
  · have Hc : Hid (cutM s = s) := hid (if_neg h0)
    have Hd := hid (decide_eq_false h0)
    clear h0
    go_enter Tryz.func136, Tryz.ntmps136
    go_wp2_with fail
    refine (hasP_any s w hs).mono ?_
    rintro e w' ⟨rfl, hww⟩
    subst hww
    rw [Hd.out]
    go_wp2
    go_ret2
    exact ⟨ret_tup (congrArg Value.string Hc.out.symm) (congrArg Value.bool Hd.out.symm), rfl⟩

set_option maxHeartbeats 1000000 in
theorem cutP_any (s : ByteArray) (w : World) (hs : s.size ≤ 1048576) :
    Calls Tryz.prog 128 #[.string s, .string ⟨#[45]⟩] w fun e w' => e = .returned (.tuple #[.string (cutM s), .bool (decide (el (prs s) 0 = -3))]) ∧ w' = w := by
  go_enter Tryz.func128, Tryz.ntmps128
  go_wp2_with fail
  refine (cutL_any s w hs).mono ?_
  rintro e w' ⟨rfl, hww⟩
  subst hww
  go_wp2
  go_ret2
  exact ⟨rfl, rfl⟩

theorem empty_eq (s : ByteArray) : (s.toList == []) = decide (s.size = 0) := by
  have h1 := beq_toListBytes s ⟨#[]⟩
  rw [show ByteArray.toList ⟨#[]⟩ = [] by kernel_rfl] at h1
  rw [← h1, Bool.eq_iff_iff, MapKept.bytes_beq, decide_eq_true_iff]
  constructor
  · intro e; rw [e]; rfl
  · intro e
    refine bytes_ext ?_
    have h2 : s.data.toList.length = 0 := by rw [Array.length_toList]; exact e
    rw [List.eq_nil_of_length_eq_zero h2]
/-- The number that a text begins with. -/
def cutX (s : ByteArray) : Int := if el (prs s) 0 = -3 then -el (prs (cutM s)) 0 else el (prs (cutM s)) 0
def cutT (s : ByteArray) : ByteArray := (cutM s).extract 1 (cutM s).size
def cutB (s : ByteArray) : Bool := decide (0 < (cutM s).size) && dg (el (prs (cutM s)) 0)
theorem cutM_size (s : ByteArray) : (cutM s).size ≤ s.size := by
  unfold cutM; split
  · rw [← prs_len, prs_extract, List.length_drop, prs_len]; omega
  · exact Nat.le_refl _
theorem prs_cutM (s : ByteArray) : prs (cutM s) = if el (prs s) 0 = -3 then (prs s).drop 1 else prs s := by
  unfold cutM; split
  · exact prs_extract s 1
  · rfl
theorem tok_cut {s : ByteArray} (h : 0 < s.size) : tok (prs s) = if cutB s = true then (tok (prs (cutT s))).map (cutX s :: ·) else none := by
  have hl : 0 < (prs s).length := by rw [prs_len]; exact h
  have e1 := prs_cutM s
  have e2 : prs (cutT s) = (prs (cutM s)).drop 1 := prs_extract _ 1
  have e3 : (0 < (cutM s).size) = (0 < (prs (cutM s)).length) := by rw [prs_len]
  rw [cutB, cutX, e2]
  simp only [e3]
  generalize prs (cutM s) = ds at *
  generalize prs s = vs at *
  subst e1
  match vs, hl with
  | [v], _ =>
    by_cases hv : v = -3
    · subst hv; simp [tok, dg, el]
    · by_cases hd : dg v = true
      · simp [tok, el, hv, hd]
      · simp [tok, el, hv, hd]
  | v :: c :: r, _ =>
    by_cases hv : v = -3
    · subst hv
      by_cases hd : dg c = true
      · simp [tok, el, hd]
      · simp [tok, el, hd]
    · by_cases hd : dg v = true
      · simp [tok, el, hv, hd]
      · simp [tok, el, hv, hd]

set_option maxHeartbeats 2000000 in
theorem cutN_any (s : ByteArray) (w : World) (hs : s.size ≤ 1048576) :
    Calls Tryz.prog 104 #[.string s] w fun e w' => (cutB s = true → e = .returned (.tuple #[.int .i64 (cutX s), .string (cutT s), .bool true])) ∧ (cutB s = false → e = .returned (.tuple #[.int .i64 0, .string ⟨#[]⟩, .bool false])) ∧ Below w.heap.size w w' := by
  obtain ⟨d, Hd⟩ : ∃ d, Hid (d = cutM s) := ⟨_, rfl⟩
  have hds : d.size ≤ 1048576 := by have := cutM_size s; rw [← Hd.out] at this; omega
  have hem := empty_eq d
  by_cases h0 : 0 < d.size
  · have hem2 : (d.toList == []) = false := by rw [hem]; exact decide_eq_false (by omega)
    have hep := el_prs h0
    have h255 : (d[0].toNat : Int) ≤ 255 := by have := d[0].toNat_lt; omega
    have Hep := hid hep
    clear hem hep
    have h0i : (0 : Int) < d.size := by omega
    have e0 : Hid (el (prs (cutM s)) 0 = (d[0].toNat : Int) - 48) := hid (by rw [← Hd.out]; exact Hep.out)
    have hpos : Hid (decide (0 < (cutM s).size) = true) := hid (decide_eq_true (by rw [← Hd.out]; exact h0))
    by_cases h1 : (d[0].toNat : Int) < 48
    · have Hb : Hid (cutB s = false) := hid (by rw [cutB, hpos.out, e0.out, dg, decide_eq_false (by omega)]; rfl)
      go_enter Tryz.func104, Tryz.ntmps104
      go_wp2_with fail
      refine (cutP_any s w hs).mono ?_
      rintro e w' ⟨rfl, hww⟩
      subst hww
      rw [← Hd.out]
      go_wp2
      (try simp only [Exit.inBlock, Exit.then])
      refine bodyPost_ret (results_tmp3 rfl _ _ _) rfl ?_
      exact ⟨fun q => absurd (Hb.out.symm.trans q) (by decide), fun _ => rfl, Below.refl _ _⟩
    · by_cases h2 : (57 : Int) < d[0].toNat
      · have Hb : Hid (cutB s = false) := hid (by rw [cutB, hpos.out, e0.out, dg, decide_eq_true (by omega), decide_eq_false (by omega)]; rfl)
        go_enter Tryz.func104, Tryz.ntmps104
        go_wp2_with fail
        refine (cutP_any s w hs).mono ?_
        rintro e w' ⟨rfl, hww⟩
        subst hww
        rw [← Hd.out]
        go_wp2
        (try simp only [Exit.inBlock, Exit.then])
        refine bodyPost_ret (results_tmp3 rfl _ _ _) rfl ?_
        exact ⟨fun q => absurd (Hb.out.symm.trans q) (by decide), fun _ => rfl, Below.refl _ _⟩
      · have Hb : Hid (cutB s = true) := hid (by rw [cutB, hpos.out, e0.out, dg, decide_eq_true (by omega), decide_eq_true (by omega)]; rfl)
        have hd1 : (1 : Int) ≤ d.size := by omega
        have Ht : Hid (cutT s = d.extract 1 d.size) := hid (by rw [cutT, ← Hd.out])
        by_cases hm : el (prs s) 0 = -3
        · have Hx : Hid (cutX s = -((d[0].toNat : Int) - 48)) := hid (by rw [cutX, if_pos hm, e0.out])
          have hdm := hid (decide_eq_true hm)
          clear hm
          go_enter Tryz.func104, Tryz.ntmps104
          go_wp2_with fail
          refine (cutP_any s w hs).mono ?_
          rintro e w' ⟨rfl, hww⟩
          subst hww
          rw [← Hd.out]
          rw [hdm.out]
          go_wp2_with fail
          go_quiet (fail)
          go_wp2
          (try simp only [Exit.inBlock, Exit.then])
          refine bodyPost_ret (results_tmp3 rfl _ _ _) rfl ?_
          exact ⟨fun _ => by rw [Hx.out, Ht.out]; rfl, fun q => absurd (Hb.out.symm.trans q) (by decide), drewN_below (Below.refl _ _) _⟩
        · have Hx : Hid (cutX s = (d[0].toNat : Int) - 48) := hid (by rw [cutX, if_neg hm, e0.out])
          have hdm := hid (decide_eq_false hm)
          clear hm
          go_enter Tryz.func104, Tryz.ntmps104
          go_wp2_with fail
          refine (cutP_any s w hs).mono ?_
          rintro e w' ⟨rfl, hww⟩
          subst hww
          rw [← Hd.out]
          rw [hdm.out]
          go_wp2_with fail
          go_quiet (fail)
          go_wp2
          (try simp only [Exit.inBlock, Exit.then])
          refine bodyPost_ret (results_tmp3 rfl _ _ _) rfl ?_
          exact ⟨fun _ => by rw [Hx.out, Ht.out]; rfl, fun q => absurd (Hb.out.symm.trans q) (by decide), drewN_below (Below.refl _ _) _⟩
  · have Hb : Hid (cutB s = false) := hid (by rw [cutB, ← Hd.out, decide_eq_false h0]; rfl)
    have hem2 : (d.toList == []) = true := by rw [hem]; exact decide_eq_true (by omega)
    clear hem
    go_enter Tryz.func104, Tryz.ntmps104
    go_wp2_with fail
    refine (cutP_any s w hs).mono ?_
    rintro e w' ⟨rfl, hww⟩
    subst hww
    rw [← Hd.out]
    go_wp2
    (try simp only [Exit.inBlock, Exit.then])
    refine bodyPost_ret (results_tmp3 rfl _ _ _) rfl ?_
    exact ⟨fun q => absurd (Hb.out.symm.trans q) (by decide), fun _ => rfl, Below.refl _ _⟩

end Go.Proofs.YtaceiebmgnhdgaaGreatDoor
