/- Foata's map and its way back, in the model. Condition: the list's cells can be read. -/
import Derived.Test.YtlhphgldmefefabFo
namespace Go.Proofs.Ytlhphgldmefefab
open Go.RowKit

set_option maxHeartbeats 1000000 in
theorem foataS_any (ao : Option Addr) (n cap : Nat) (xs : List Int) (w : World) (h : Sl w ao n cap xs) :
    Calls Try.prog 18 #[.slice ao n cap] w (Made w (onV xs (foat xs))) := by
  have hbig := h.big
  have hlen := hid h.len
  by_cases hv : Valid xs
  · have h7 : n ≤ 7 := by have := hv.len; rw [hlen.out] at this; exact this
    have Hv := hid hv
    go_enter Try.func18, Try.ntmps18
    go_wp2_with fail
    refine (validS_any _ _ _ xs _ h).mono ?_
    rintro e w1 ⟨rfl, hb1⟩
    have hsz := hb1.size
    go_wp2_with fail
    refine (foata0_any _ _ _ xs _ (h.later hb1) (by omega)).mono ?_
    rintro e w2 ⟨u2, rfl, ho2, hb2⟩
    go_wp2
    go_ret
    refine ⟨_, rfl, ?_, hb1.trans (hb2.mono hsz)⟩
    rw [onV_yes Hv.out]
    exact ho2.mono hsz
  · have Hv := hid hv
    go_enter Try.func18, Try.ntmps18
    go_wp2_with fail
    refine (validS_any _ _ _ xs _ h).mono ?_
    rintro e w1 ⟨rfl, hb1⟩
    go_wp2
    go_ret
    refine ⟨_, rfl, ?_, hb1⟩
    rw [onV_no Hv.out]
    exact Own.nil

/-- The open piece ends where one of the side stands. -/
theorem bkS_at (low : Bool) (x : Int) (v : List Int) : (bkS low x v).1.length ≤ v.length ∧ (∀ t, t < (bkS low x v).1.length → sid low x (el v t) = false) ∧ ((bkS low x v).1.length < v.length → sid low x (el v (bkS low x v).1.length) = true) ∧ bkS low x (v.drop (bkS low x v).1.length) = ([], (bkS low x v).2) := by
  induction v with
  | nil => exact ⟨Nat.le_refl _, fun t ht => absurd ht (by simp [bkS]), fun h => absurd h (by simp [bkS]), rfl⟩
  | cons y v ih =>
    obtain ⟨i1, i2, i3, i4⟩ := ih
    cases h : sid low x y
    · have e : bkS low x (y :: v) = (y :: (bkS low x v).1, (bkS low x v).2) := by rw [bkS, h]; simp
      rw [e]
      refine ⟨by simp only [List.length_cons]; omega, fun t ht => ?_, fun hl => ?_, by simpa using i4⟩
      · cases t with
        | zero => rw [el_zero]; exact h
        | succ t => rw [el_cons]; exact i2 t (by simpa using ht)
      · simp only [List.length_cons] at hl ⊢
        rw [el_cons]
        exact i3 (by omega)
    · have e : bkS low x (y :: v) = ([], (bkS low x v).1 ++ [y] ++ (bkS low x v).2) := by rw [bkS, if_pos h]
      rw [e]
      refine ⟨by simp, fun t ht => absurd ht (by simp), fun _ => by simpa [el_zero] using h, ?_⟩
      rw [List.length_nil, List.drop_zero, e]
theorem el_drop (xs : List Int) (i t : Nat) : el (xs.drop i) t = el xs (i + t) := by simp [el, List.getD, List.getElem?_drop]

set_option maxHeartbeats 4000000 in
theorem backB_any (ao : Option Addr) (n cap : Nat) (xs : List Int) (x : Int) (w : World) (h : Sl w ao n cap xs) (hnil : ao = none → cap = 0) (h7 : n ≤ 1000) :
    Calls Try.prog 63 #[.slice ao n cap, .int .i64 x] w (Made w (backB xs x)) := by
  have hbig := h.big
  have hlen := hid h.len
  have hle := h.le
  have hmax : cap ≤ 9223372036854775807 := by have := h.max; unfold maxLen at this; omega
  by_cases hn0 : n = 0
  · subst hn0
    have hx : xs = [] := List.eq_nil_of_length_eq_zero hlen.out
    have Hx := hid hx
    clear hx
    go_enter Try.func63, Try.ntmps63
    go_wp2
    go_loopw [5, 7] (fun v i wr => ∃ (a1 : Option Addr) (c1 : Nat), v = .slice a1 0 c1 ∧ i = .int .i64 0 ∧ Below w.heap.size w wr ∧ Own wr w.heap.size (.slice a1 0 c1) [])
      (fun _ _ _ => 0)
    case atStart => exact ⟨_, _, rfl, rfl, (Below.refl _ _).alloc (Nat.le_refl _) _, own_lit w⟩
    case round =>
      obtain ⟨a1, c1, rfl, rfl, hbr, o1⟩ := hrel
      go_wp2
      go_ret
      refine ⟨_, rfl, ?_, hbr⟩
      rw [Hx.out]
      exact o1
  · have hn1 : 0 < (n : Int) := by omega
    obtain ⟨b, off, rfl, hblt, hc⟩ := h.row (by omega)
    have hcell := hc 0 (by omega)
    rw [Nat.add_zero] at hcell
    have hcc := hid hc
    obtain ⟨lo, hlo⟩ : ∃ lo, lo = decide (el xs 0 < x) := ⟨_, rfl⟩
    have Hlo : Hid (lo = lowB xs x) := hid (by rw [hlo, lowB, hlen.out]; simp; omega)
    have hs0 : sid lo x (el xs 0) = true := sid_of _ hlo.symm
    have Hd0 : Hid ((bkS lo x (xs.drop 0)).1 = [] ∧ (bkS lo x (xs.drop 0)).2 = backB xs x) := by
      have e := bkS_yes (low := lo) (x := x) (v := xs) (j := 0) (by rw [hlen.out]; omega) hs0
      have e1 : (bkS lo x (xs.drop 0)).1 = [] := by rw [e]
      refine hid ⟨e1, ?_⟩
      rw [List.drop_zero] at e1
      rw [backB, ← Hlo.out, e1, List.drop_zero, List.nil_append]
    clear hc hs0
    go_enter Try.func63, Try.ntmps63
    go_wp2
    rw [← hlo]
    clear hlo hcell
    go_loopw [5, 7] (fun v i wr => ∃ (k m : Nat) (a1 : Option Addr) (c1 : Nat) (O : List Int), k ≤ n ∧ v = .slice a1 m c1 ∧ i = .int .i64 k ∧ Below w.heap.size w wr ∧ Own wr w.heap.size (.slice a1 m c1) O ∧ Hid ((bkS lo x (xs.drop k)).1 = [] ∧ O ++ (bkS lo x (xs.drop k)).2 = backB xs x))
      (fun _ i _ => n - (intOf i).toNat)
    case atStart => exact ⟨0, _, _, _, [], Nat.zero_le _, rfl, rfl, (Below.refl _ _).alloc (Nat.le_refl _) _, own_lit w, hid ⟨Hd0.out.1, by rw [Hd0.out.2]; rfl⟩⟩
    case round =>
      obtain ⟨k, m, a1, c1, O, hk, rfl, rfl, hbr, o1, hD⟩ := hrel
      have hsz := hbr.size
      have hlO := o1.read.len
      by_cases hlt : k < n
      · have hi1 : (k : Int) < n := by omega
        have hkx : k < xs.length := by rw [hlen.out]; exact hlt
        have hs : sid lo x (el xs k) = true := by
          cases hs : sid lo x (el xs k)
          · have := hD.out.1
            rw [bkS_no hkx hs] at this
            cases this
          · rfl
        have eD := bkS_yes hkx hs
        obtain ⟨R, hR⟩ : ∃ R, R = (bkS lo x (xs.drop (k + 1))).1.length := ⟨_, rfl⟩
        obtain ⟨q1, q2, q3, q4⟩ := bkS_at lo x (xs.drop (k + 1))
        rw [← hR] at q1 q2 q3 q4
        rw [List.length_drop, hlen.out] at q1 q3
        simp only [el_drop, List.drop_drop] at q2 q3 q4
        have Q2 := hid q2
        have Q3 := hid q3
        have eRun : (bkS lo x (xs.drop (k + 1))).1 = (xs.drop (k + 1)).take R := by rw [hR]; exact bkS_run _ _ _
        have eO : O ++ (xs.drop (k + 1)).take R ++ [el xs k] ++ (bkS lo x (xs.drop (k + 1 + R))).2 = backB xs x := by
          rw [← hD.out.2, eD, q4, ← eRun]; simp
        have HO := hid eO
        have HD4 : Hid ((bkS lo x (xs.drop (k + 1 + R))).1 = []) := hid (by rw [q4])
        have hR7 : R ≤ 1000 := by omega
        have hm7 : O.length ≤ 1000 := by
          have := congrArg List.length eO
          rw [backB_len, hlen.out] at this
          simp only [List.length_append] at this
          omega
        have hcell := (hbr.cell (p := ⟨b, off + k, none⟩) hblt).trans (hcc.out k hlt)
        clear hs eD hR q2 q3 q4 eRun eO hkx hD
        go_wp2
        go_loopw [8] (fun e wr' => ∃ (t : Nat), t ≤ R ∧ e = .int .i64 ((k + 1 + t : Nat) : Int) ∧ wr' = wr)
          (fun e _ => k + 1 + R - (intOf e).toNat)
        case atStart => exact ⟨0, Nat.zero_le _, by simp, rfl⟩
        case round =>
          obtain ⟨t, ht, rfl, rfl⟩ := hrel
          obtain ⟨E, hE⟩ : ∃ E, E = k + 1 + t := ⟨_, rfl⟩
          rw [← hE]
          by_cases htR : t < R
          · have hEn : (E : Int) < n := by omega
            have hs := Q2.out t htR
            rw [← hE] at hs
            have hcell2 := (hbr.cell (p := ⟨b, off + E, none⟩) hblt).trans (hcc.out E (by omega))
            have ht2 : (decide (el xs E < x) == lo) = false := hs
            have HE := hid hE
            clear hs hE
            go_wp2
            go_roundw
            case rel => exact ⟨t + 1, by omega, by have := HE.out; congr 1; omega, trivial⟩
            case measure => have := HE.out; simp [intOf]; omega
          · obtain rfl : t = R := by omega
            have Hstop : (¬ E < n) ∨ (E < n ∧ (decide (el xs E < x) == lo) = true) := by
              by_cases hEn : E < n
              · refine Or.inr ⟨hEn, ?_⟩
                have hs := Q3.out (by omega)
                rw [← hE] at hs
                exact hs
              · exact Or.inl hEn
            have hEle : E ≤ n := by omega
            have hEc : (E : Int) ≤ cap := by omega
            have hkE : (k : Int) + 1 ≤ E := by omega
            have hwt : IntKind.i64.wrap ((k : Int) + 1) = (k : Int) + 1 := IntWalk.i64_in _ ⟨by omega, by omega⟩
            have htn : ((k : Int) + 1).toNat = k + 1 := by omega
            have ht0 : 0 ≤ (k : Int) + 1 := by omega
            have hER : E - (k + 1) = t := by omega
            have HE := hid hE
            rcases Hstop with hq | ⟨hq1, hq2⟩
            · obtain rfl : E = n := by omega
              clear hE hq
              obtain ⟨AD, hAD⟩ : ∃ AD, AD = (if cap = k + 1 then some (⟨b, off, none⟩ : Addr) else some ⟨b, off + (k + 1), none⟩) := ⟨_, rfl⟩
              have hS : Sl wr AD t (cap - (k + 1)) ((xs.drop (k + 1)).take t) := by
                have := ((h.later hbr).dropIf (k := k + 1) (by omega)).take (k := t) (by omega)
                rw [hAD]
                exact this
              have hSn : AD = none → cap - (k + 1) = 0 := by
                rw [hAD]
                intro e
                split at e <;> cases e
              have HS := hid hS
              have HSn := hid hSn
              have hOl := hid hlO
              have hrun : (O ++ (xs.drop (k + 1)).take t).length ≤ 1000000 := by rw [List.length_append, List.length_take]; omega
              have Hrun := hid hrun
              have hnb : (Value.slice a1 m c1).ownBlock ≠ some wr.heap.size := fun e => by have := (o1.blocks _ e).2; omega
              have HAD := hid hAD
              clear hS hSn hrun hlO hAD
              go_wp2
              go_region_law (first
                | (refine step_app rfl (.tmp 50) (.tmp 55) rfl w u1 (O ++ (xs.drop (k + 1)).take t) (by go_simp) (by first | exact ho1 | exact ho1.alloc _) _ 1 1 [el xs k] (by go_simp) hnew (by simp) (by have := Hrun.out; omega) (by first | exact hb1x | exact hb1x.alloc hb1x.size _) ?_
                   intro u2 wd ho2 hg2 hb2x)
                | (rw [← HAD.out]
                   refine step_app rfl (.tmp 44) (.tmp 49) rfl w (.slice a1 m c1) O (by go_simp) (by first | exact o1.drew | exact (o1.alloc _).drew) AD t (cap - (k + 1)) ((xs.drop (k + 1)).take t) (by go_simp) (by first | exact HS.out.drew | exact (HS.out.alloc _).drew) HSn.out (by omega) (by first | exact hbr.drew | exact (hbr.alloc hbr.size _).drew) ?_
                   intro u1 wa ho1 hg1 hb1x
                   have hcell := (hb1x.cell (p := ⟨b, off + k, none⟩) hblt).trans (hcc.out k hlt)
                   first
                     | (have hnew := ((Sl.new wr (el xs k)).drew).grown hg1 hnb)
                     | (have hnew := Sl.new wa (el xs k))))
              all_goals (
                have e1 : O ++ (xs.drop (k + 1)).take t ++ [el xs k] ++ (bkS lo x (xs.drop E)).2 = backB xs x := by rw [HE.out]; exact HO.out
                have e2 : (bkS lo x (xs.drop E)).1 = [] := by rw [HE.out]; exact HD4.out
                have H12 := hid (And.intro e2 e1)
                obtain ⟨Q, hQ⟩ : ∃ Q, Q = (O ++ (xs.drop (k + 1)).take t ++ [el xs k]).length := ⟨_, rfl⟩
                obtain ⟨a2, c2, rfl, -⟩ := ho2.sl
                rw [← hQ] at ho2 ⊢
                have hEk : 0 ≤ (E : Int) - 1 := by have := HE.out; omega
                have hEm := hEle
                clear e1 e2 hQ hER
                go_wp2
                all_goals go_roundw
                all_goals first
                  | exact ⟨E, _, _, _, _, hEm, rfl, by go_num, hb2x, ho2, H12⟩
                  | (have := HE.out; simp [intOf]; omega))
            · have hcell2 := (hbr.cell (p := ⟨b, off + E, none⟩) hblt).trans (hcc.out E hq1)
              have hq1i : (E : Int) < n := by omega
              clear hE
              obtain ⟨AD, hAD⟩ : ∃ AD, AD = (if cap = k + 1 then some (⟨b, off, none⟩ : Addr) else some ⟨b, off + (k + 1), none⟩) := ⟨_, rfl⟩
              have hS : Sl wr AD t (cap - (k + 1)) ((xs.drop (k + 1)).take t) := by
                have := ((h.later hbr).dropIf (k := k + 1) (by omega)).take (k := t) (by omega)
                rw [hAD]
                exact this
              have hSn : AD = none → cap - (k + 1) = 0 := by
                rw [hAD]
                intro e
                split at e <;> cases e
              have HS := hid hS
              have HSn := hid hSn
              have hOl := hid hlO
              have hrun : (O ++ (xs.drop (k + 1)).take t).length ≤ 1000000 := by rw [List.length_append, List.length_take]; omega
              have Hrun := hid hrun
              have hnb : (Value.slice a1 m c1).ownBlock ≠ some wr.heap.size := fun e => by have := (o1.blocks _ e).2; omega
              have HAD := hid hAD
              clear hS hSn hrun hlO hAD
              go_wp2
              go_region_law (first
                | (refine step_app rfl (.tmp 50) (.tmp 55) rfl w u1 (O ++ (xs.drop (k + 1)).take t) (by go_simp) (by first | exact ho1 | exact ho1.alloc _) _ 1 1 [el xs k] (by go_simp) hnew (by simp) (by have := Hrun.out; omega) (by first | exact hb1x | exact hb1x.alloc hb1x.size _) ?_
                   intro u2 wd ho2 hg2 hb2x)
                | (rw [← HAD.out]
                   refine step_app rfl (.tmp 44) (.tmp 49) rfl w (.slice a1 m c1) O (by go_simp) (by first | exact o1.drew | exact (o1.alloc _).drew) AD t (cap - (k + 1)) ((xs.drop (k + 1)).take t) (by go_simp) (by first | exact HS.out.drew | exact (HS.out.alloc _).drew) HSn.out (by omega) (by first | exact hbr.drew | exact (hbr.alloc hbr.size _).drew) ?_
                   intro u1 wa ho1 hg1 hb1x
                   have hcell := (hb1x.cell (p := ⟨b, off + k, none⟩) hblt).trans (hcc.out k hlt)
                   first
                     | (have hnew := ((Sl.new wr (el xs k)).drew).grown hg1 hnb)
                     | (have hnew := Sl.new wa (el xs k))))
              all_goals (
                have e1 : O ++ (xs.drop (k + 1)).take t ++ [el xs k] ++ (bkS lo x (xs.drop E)).2 = backB xs x := by rw [HE.out]; exact HO.out
                have e2 : (bkS lo x (xs.drop E)).1 = [] := by rw [HE.out]; exact HD4.out
                have H12 := hid (And.intro e2 e1)
                obtain ⟨Q, hQ⟩ : ∃ Q, Q = (O ++ (xs.drop (k + 1)).take t ++ [el xs k]).length := ⟨_, rfl⟩
                obtain ⟨a2, c2, rfl, -⟩ := ho2.sl
                rw [← hQ] at ho2 ⊢
                have hEk : 0 ≤ (E : Int) - 1 := by have := HE.out; omega
                have hEm := hEle
                clear e1 e2 hQ hER
                go_wp2
                all_goals go_roundw
                all_goals first
                  | exact ⟨E, _, _, _, _, hEm, rfl, by go_num, hb2x, ho2, H12⟩
                  | (have := HE.out; simp [intOf]; omega))
      · obtain rfl : k = n := by omega
        go_wp2
        go_ret
        refine ⟨_, rfl, ?_, hbr⟩
        have e := hD.out.2
        rw [List.drop_eq_nil_of_le (by rw [hlen.out]; exact Nat.le_refl _), bkS, List.append_nil] at e
        rw [← e]
        exact o1

end Go.Proofs.Ytlhphgldmefefab
