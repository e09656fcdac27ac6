/- Signed orders out of texts, in the program. Condition: at most 2^20 bytes. -/
import Derived.Test.YtaceiebmgnhdgaaGreatDoorPgs
namespace Go.Proofs.YtaceiebmgnhdgaaGreatDoor
open Go.RowKit

def strN : Value → Nat
  | .string t => t.size
  | _ => 0
theorem okX_some {vs zs : List Int} (h : tok vs = some zs) : okX vs = decide (SV zs) ∧ outX vs = if SV zs then zs else [] := by simp [okX, outX, h]
theorem okX_none {vs : List Int} (h : tok vs = none) : okX vs = false ∧ outX vs = [] := by simp [okX, outX, h]
theorem okX_long {vs zs : List Int} {o : Option (List Int)} {x : Int} (h : tok vs = (o.map (x :: ·)).map (zs ++ ·)) (hl : zs.length = 5) : okX vs = false ∧ outX vs = [] := by
  cases o with
  | none => exact okX_none h
  | some r =>
    have e := okX_some (vs := vs) (zs := zs ++ x :: r) h
    have hn : ¬ SV (zs ++ x :: r) := fun v => by
      have := v.len
      rw [List.length_append, List.length_cons] at this
      omega
    rw [decide_eq_false hn, if_neg hn] at e
    exact e
theorem cutX_bd {s : ByteArray} (h : cutB s = true) : -9 ≤ cutX s ∧ cutX s ≤ 9 := by
  simp only [cutB, dg, Bool.and_eq_true, decide_eq_true_eq] at h
  unfold cutX; split <;> omega
theorem cutT_size {s : ByteArray} (h : cutB s = true) : (cutT s).size < s.size := by
  have h1 := cutM_size s
  have h2 : 0 < (cutM s).size := by simp only [cutB, Bool.and_eq_true, decide_eq_true_eq] at h; exact h.1
  have h3 : (cutT s).size = (cutM s).size - 1 := by rw [← prs_len, cutT, prs_extract, List.length_drop, prs_len]
  omega
theorem small_r64 {zs : List Int} (h : ∀ x ∈ zs, -9 ≤ x ∧ x ≤ 9) : R64 zs := fun j hj => by
  have := h _ (el_mem hj)
  omega
theorem made2_out {w w' : World} {ys : List Int} {b c : Bool} {u : Value} (e : c = b) (ho : Own w' w.heap.size u ys) (hb : Below w.heap.size w w') : Made2 w ys b (.returned (.tuple #[u, .bool c])) w' := ⟨u, by rw [e], ho, hb⟩

set_option maxHeartbeats 4000000 in
theorem pgsI_any (s : ByteArray) (w : World) (hs : s.size ≤ 1048576) :
    Calls Tryz.prog 74 #[.string s] w (Made2 w (outX (prs s)) (okX (prs s))) := by
  go_enter Tryz.func74, Tryz.ntmps74
  go_wp2
  go_loopw [0, 4] (fun a v wr => ∃ (t : ByteArray) (zs : List Int) (n : Nat) (ao' : Option Addr) (cap' : Nat), a = .string t ∧ v = .slice ao' n cap' ∧ t.size ≤ s.size ∧ n ≤ 5 ∧ Hid (zs.length = n) ∧ Below w.heap.size w wr ∧ Own wr w.heap.size (.slice ao' n cap') zs ∧ Hid (tok (prs s) = (tok (prs t)).map (zs ++ ·)) ∧ Hid (∀ x ∈ zs, -9 ≤ x ∧ x ≤ 9))
    (fun a _ _ => strN a)
  case atStart => exact ⟨s, [], 0, _, _, rfl, rfl, Nat.le_refl _, by omega, hid rfl, (Below.refl _ _).alloc (Nat.le_refl _) _, own_lit w, hid (by simp), hid (fun x hx => by simp at hx)⟩
  case round =>
    obtain ⟨t, zs, n, ao', cap', rfl, rfl, hts, hn5, Hl, hbr, ho, Ht, Hz⟩ := hrel
    have hsz := hbr.size
    have hem := empty_eq t
    by_cases h0 : 0 < t.size
    · have hem2 : (t.toList == []) = false := by rw [hem]; exact decide_eq_false (by omega)
      have hem3 : (t.toList != []) = true := by rw [bne, hem2]; rfl
      have Htc := hid (tok_cut h0)
      clear hem
      go_wp2_with fail
      refine (cutN_any t _ (by omega)).mono ?_
      rintro e w2 ⟨hy, hno, b2⟩
      have hb2 := hbr.trans (b2.mono hsz)
      have ho2 := ho.below (Nat.le_refl _) b2
      have hsz2 := hb2.size
      by_cases hb : cutB t = true
      · have he := hy hb
        subst he
        have Hb := hid hb
        clear hy hno hb ho
        by_cases h5 : n = 5
        · have h5b : ((n : Int) == 5) = true := by rw [h5]; rfl
          have Hok := hid (okX_long (x := cutX t) (zs := zs) (o := tok (prs (cutT t))) (by rw [Ht.out, Htc.out, if_pos Hb.out]) (by rw [Hl.out, h5]))
          clear h5
          go_wp2
          go_ret2
          exact made2_out Hok.out.1.symm (by rw [Hok.out.2]; exact Own.nil) hb2
        · have h5b : ((n : Int) == 5) = false := by rw [beq_eq_false_iff_ne]; omega
          have hn4 : n ≤ 4 := by omega
          have hll : zs.length ≤ 2000000 := by rw [Hl.out]; omega
          have hT := cutT_size Hb.out
          have HT : Hid (tok (prs s) = (tok (prs (cutT t))).map ((zs ++ [cutX t]) ++ ·)) := hid (by
            rw [Ht.out, Htc.out, if_pos Hb.out, Option.map_map]
            congr 1
            funext r
            simp)
          have HZ : Hid (∀ x ∈ zs ++ [cutX t], -9 ≤ x ∧ x ≤ 9) := hid (fun x hx => by
            rw [List.mem_append, List.mem_singleton] at hx
            rcases hx with hx | rfl
            · exact Hz.out x hx
            · exact cutX_bd Hb.out)
          clear h5
          go_wp2_with (at_builtin; refine app_int _ _ rfl _ _ rfl w.heap.size _ _ rfl ho2 rfl hll hsz2 ?_)
          intro u' w' ho' hg'
          have hb' := below_app hb2 ho2 hg'
          obtain ⟨ao6, cap6, rfl, hs'⟩ := ho'.sl
          have Hl6 : Hid ((zs ++ [cutX t]).length = n + 1) := hid (by rw [List.length_append, Hl.out]; rfl)
          rw [Hl6.out] at ho' ⊢
          clear hs' hg' ho2
          go_wp2
          go_roundw
          case rel => exact ⟨cutT t, _, n + 1, _, _, rfl, rfl, by omega, by omega, Hl6, hb', ho', HT, HZ⟩
          case measure => exact hT
      · have he := hno (by simpa using hb)
        subst he
        have Hok := hid (okX_none (vs := prs s) (by rw [Ht.out, Htc.out, if_neg hb]; rfl))
        clear hy hno hb
        go_wp2
        go_ret2
        exact made2_out Hok.out.1.symm (by rw [Hok.out.2]; exact Own.nil) hb2
    · have hem2 : (t.toList == []) = true := by rw [hem]; exact decide_eq_true (by omega)
      have hem3 : (t.toList != []) = false := by rw [bne, hem2]; rfl
      have Hok := hid (okX_some (vs := prs s) (zs := zs) (by rw [Ht.out, prs_nil h0]; simp [tok]))
      clear hem
      go_wp2_with fail
      refine (svI_any _ _ _ zs _ ho.read (hid (small_r64 Hz.out))).mono ?_
      rintro e w2 ⟨rfl, b2⟩
      have hb2 := hbr.trans (b2.mono hsz)
      have ho2 := ho.below (Nat.le_refl _) b2
      by_cases hv : SV zs
      · have Hv := hid hv
        rw [decide_eq_true hv]
        clear hv
        go_wp2
        go_ret2
        exact made2_out (by rw [Hok.out.1, decide_eq_true Hv.out]) (by rw [Hok.out.2, if_pos Hv.out]; exact ho2) hb2
      · have Hv := hid hv
        rw [decide_eq_false hv]
        clear hv
        go_wp2
        go_ret2
        exact made2_out (by rw [Hok.out.1, decide_eq_false Hv.out]) (by rw [Hok.out.2, if_neg Hv.out]; exact Own.nil) hb2

end Go.Proofs.YtaceiebmgnhdgaaGreatDoor
