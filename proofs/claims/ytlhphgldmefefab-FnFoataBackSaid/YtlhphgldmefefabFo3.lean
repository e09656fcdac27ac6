/- The way back of Foata's map, in the model. Condition: the list's cells can be read. -/
import Derived.Test.YtlhphgldmefefabFo2
import Derived.Test.YtlhphgldmefefabOwnL
namespace Go.Proofs.Ytlhphgldmefefab
open Go.RowKit

theorem Own.at' {w : World} {B n cap : Nat} {ao : Option Addr} {ys : List Int} (h : Own w B (.slice ao n cap) ys) (hn : 0 < n) : ∃ g, ao = some ⟨g, 0, none⟩ ∧ OwS w B g n cap ys := by
  rcases h.place with ⟨e, rfl⟩ | ⟨g, c, e, o⟩
  · simp only [Value.slice.injEq] at e
    omega
  · simp only [Value.slice.injEq] at e
    obtain ⟨rfl, rfl, rfl⟩ := e
    exact ⟨g, rfl, o⟩

set_option maxHeartbeats 4000000 in
theorem fbacS_any (ao : Option Addr) (n cap : Nat) (xs : List Int) (w : World) (h : Sl w ao n cap xs) (hnil : ao = none → cap = 0) :
    Calls Try.prog 26 #[.slice ao n cap] w (Made w (onV xs (fbac xs))) := by
  have hbig := h.big
  have hlen := hid h.len
  have Hnil := hid hnil
  clear hnil
  by_cases hv : Valid xs
  · have h7 : n ≤ 7 := by have := hv.len; rw [hlen.out] at this; exact this
    have Hv := hid hv
    clear hv
    go_enter Try.func26, Try.ntmps26
    go_wp2_with fail
    refine (validS_any _ _ _ xs _ h).mono ?_
    rintro e w1 ⟨rfl, hb1⟩
    rw [decide_eq_true Hv.out]
    have oA : Own ((w1.alloc (.cells #[] 3)).alloc (.cells #[] 3)) w.heap.size (.slice (some ⟨w1.heap.size, 0, none⟩) 0 0) [] := (own_lit_at hb1.size).alloc _
    have oB : Own ((w1.alloc (.cells #[] 3)).alloc (.cells #[] 3)) (w1.heap.size + 1) (.slice (some ⟨w1.heap.size + 1, 0, none⟩) 0 0) [] := by
      have := own_lit_at (w := w1.alloc (.cells #[] 3)) (B := w1.heap.size + 1) (by simp)
      simpa using this
    have tB : Below w.heap.size w ((w1.alloc (.cells #[] 3)).alloc (.cells #[] 3)) := (hb1.alloc hb1.size _).alloc (Nat.le_trans hb1.size (by simp)) _
    have sB : Sl ((w1.alloc (.cells #[] 3)).alloc (.cells #[] 3)) ao n cap xs := h.later tB
    have OA := hid oA
    have OB := hid oB
    have TB := hid tB
    have SB := hid sB
    clear oA oB tB sB
    go_wp2_with (at_builtin; refine app_list _ rfl _ _ rfl (w1.heap.size + 1) _ [] rfl OB.out _ _ _ _ rfl SB.out Hnil.out (by simp; omega) (by simp) ?_)
    intro u2 w2 o2 g2
    have hap : (Value.slice (some ⟨w1.heap.size, 0, none⟩) 0 0).ownBlock = none ∨ (Value.slice (some ⟨w1.heap.size, 0, none⟩) 0 0).ownBlock ≠ (Value.slice (some ⟨w1.heap.size + 1, 0, none⟩) 0 0).ownBlock := Or.inr (by simp [Value.ownBlock])
    have oA2 := OA.out.kept g2 hap
    have t2 : Below w.heap.size w w2 := TB.out.grown g2 TB.out.size (fun k hk => by have := (OB.out.blocks k hk).1; have := hb1.size; omega)
    have o2' := o2.mono (show w.heap.size ≤ w1.heap.size + 1 by have := hb1.size; omega)
    obtain ⟨a2, c2, rfl, -⟩ := o2'.sl
    rw [hlen.out] at o2' ⊢
    clear o2 g2 hap OA OB TB SB
    go_wp2
    go_loopw [3, 4] (fun v u wr => ∃ (t L : Nat) (a1 a2 : Option Addr) (c1 c2 : Nat), Hid (L + t = n) ∧ v = .slice a1 t c1 ∧ u = .slice a2 L c2 ∧ Below w.heap.size w wr ∧ Own wr w.heap.size (.slice a1 t c1) (fbT xs t) ∧ Own wr w.heap.size (.slice a2 L c2) (fbP xs t))
      (fun _ u _ => lenOf u)
    case atStart => exact ⟨0, n, _, _, _, _, hid (by omega), rfl, rfl, t2, oA2, o2'⟩
    case round =>
      obtain ⟨t, L, a1, a2, c1, c2, hL, rfl, rfl, hbr, o1, o2⟩ := hrel
      by_cases hlt : 0 < L
      · obtain ⟨M, rfl⟩ : ∃ M, L = M + 1 := ⟨L - 1, by omega⟩
        obtain ⟨g, rfl, hr⟩ := o2.at' hlt
        have hcell := hr.cell (j := M) (by omega)
        have hfl := fbP_len xs t
        rw [hlen.out] at hfl
        have hMc : M ≤ c2 := by have := o2.read.le; omega
        have hcmax : c2 ≤ 9223372036854775807 := by have := o2.read.max; unfold maxLen at this; omega
        have hi1 : (0 : Int) < ((M + 1 : Nat) : Int) := by omega
        have hM9 : M ≤ 7 := by have := hL.out; omega
        obtain ⟨X, hX⟩ : ∃ X, X = el (fbP xs t) M := ⟨_, rfl⟩
        rw [← hX] at hcell
        have HX := hid hX
        have hsz := hbr.size
        have hl1 : (fbT xs t).length = t := fbT_len xs t
        have hfl2 : Hid ((fbP xs t).length = M + 1) := hid (by have := hL.out; omega)
        clear hX hfl
        have oX := own_one' wr X wr.heap.size (Nat.le_refl _)
        have o1A := o1.alloc (.cells #[.int .i64 X] 3)
        have o2A := o2.alloc (.cells #[.int .i64 X] 3)
        have tX := hbr.alloc hsz (.cells #[.int .i64 X] 3)
        go_wp2_with (at_builtin; refine app_list _ rfl _ _ rfl wr.heap.size _ [X] rfl oX _ _ _ _ rfl o1A.read o1A.nilcap (by simp; have := hL.out; omega) (by simp) ?_)
        intro u3 w3 o3 g3
        have hap : (Value.slice (some ⟨g, 0, none⟩) (M + 1) c2).ownBlock = none ∨ (Value.slice (some ⟨g, 0, none⟩) (M + 1) c2).ownBlock ≠ (Value.slice (some ⟨wr.heap.size, 0, none⟩) 1 1).ownBlock := Or.inr (by have := hr.lt.2; simp [Value.ownBlock]; omega)
        have o23 := o2A.kept g3 hap
        have t3 : Below w.heap.size w w3 := tX.grown g3 tX.size (fun k hk => by have := (oX.blocks k hk).1; omega)
        have e1 : X :: fbT xs t = fbT xs (t + 1) := by rw [fbT, HX.out, hfl2.out]; rfl
        rw [e1] at o3
        have o3' := o3.mono hsz
        have l3 : (fbT xs (t + 1)).length = t + 1 := fbT_len _ _
        obtain ⟨a3, c3, rfl, -⟩ := o3'.sl
        rw [l3] at o3' ⊢
        have s23 := o23.read.take (k := M) (by omega)
        have O3 := hid o3'
        have Hb : Hid (backB ((fbP xs t).take M) X = fbP xs (t + 1)) := hid (by rw [fbP, HX.out, hfl2.out]; rfl)
        clear o3 g3 hap l3 e1 o3' o23 oX o1A o2A tX o1 o2
        go_wp2_with fail
        refine (backB_any _ _ _ _ X _ s23 (fun e => by cases e) (by omega)).mono ?_
        rintro e w4 ⟨u4, rfl, o4, b4⟩
        rw [Hb.out] at o4
        have O34 := hid (O3.out.below (Nat.le_refl _) b4)
        have t4 := t3.trans (b4.mono t3.size)
        have l4 : (fbP xs (t + 1)).length = M := by have := hL.out; rw [fbP_len, hlen.out]; omega
        have o4' := o4.mono t3.size
        obtain ⟨a4, c4, rfl, -⟩ := o4'.sl
        rw [l4] at o4' ⊢
        have hL2 : Hid (M + (t + 1) = n) := hid (by have := hL.out; omega)
        clear l4 o4 s23
        go_wp2
        go_roundw
        case rel => exact ⟨t + 1, M, _, _, _, _, hL2, rfl, rfl, t4, O34.out, o4'⟩
        case measure => simp [lenOf]
      · obtain rfl : L = 0 := by omega
        obtain rfl : t = n := by have := hL.out; omega
        go_wp2
        go_ret
        refine ⟨_, rfl, ?_, hbr⟩
        rw [onV_yes Hv.out, fbac, hlen.out]
        exact o1
  · have Hv := hid hv
    go_enter Try.func26, Try.ntmps26
    go_wp2_with fail
    refine (validS_any _ _ _ xs _ h).mono ?_
    rintro e w1 ⟨rfl, hb1⟩
    go_wp2
    go_ret
    refine ⟨_, rfl, ?_, hb1⟩
    rw [onV_no Hv.out]
    exact Own.nil

end Go.Proofs.Ytlhphgldmefefab
