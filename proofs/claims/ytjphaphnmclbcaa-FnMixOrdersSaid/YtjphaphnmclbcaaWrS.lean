/- WordRow of the model, alone. Condition: at most 2^20 numbers. -/
import Derived.Test.YtjphaphnmclbcaaWdA
namespace Go.Proofs.Ytjphaphnmclbcaa
open Go Go.RowKit

theorem wr_no {c : List Int} (m : Bool) (h : ¬ (VC c ∧ sumL c ≤ 5)) : wrL c m = [] := by
  rw [wrL, awL_no h]
  cases m <;> rfl
/-- The numbers of the first k lists. -/
def mpk (f : List Int → Int) (L : List (List Int)) (k : Nat) : List Int := (L.take k).map f
theorem mpk_len (f : List Int → Int) {L : List (List Int)} {k : Nat} (h : k ≤ L.length) : (mpk f L k).length = k := by rw [mpk, List.length_map, List.length_take]; omega
theorem mpk_succ (f : List Int → Int) {L : List (List Int)} {k : Nat} (h : k < L.length) : mpk f L (k + 1) = mpk f L k ++ [f (ell L k)] := by
  rw [mpk, mpk, ell_lt h, List.take_add_one, List.getElem?_eq_getElem h, List.map_append]
  rfl
theorem mpk_all (f : List Int → Int) (L : List (List Int)) : mpk f L L.length = L.map f := by rw [mpk, List.take_length]

set_option maxRecDepth 20000 in
set_option maxHeartbeats 4000000 in
theorem wrS_any (ao : Option Addr) (n cap : Nat) (xs : List Int) (m : Bool) (w : World) (h : Sl w ao n cap xs) (hn : n ≤ 1048576) :
    Calls Try.prog 55 #[.slice ao n cap, .bool m] w (Made2 w (wrL xs m) (decide (0 < (awL xs).length))) := by
  by_cases hv : VC xs
  · have hn4 : n = 4 := by rw [← h.len]; exact hv.len
    subst hn4
    obtain ⟨l0, l1, l2, l3, hx, h7, hsum⟩ := hv.nat
    have hbd : Hid (∀ j, j < xs.length → 0 ≤ el xs j ∧ el xs j ≤ (1000 : Nat)) := hid fun j hj => by have := hv.one (show j < 4 by have := hv.len; omega); omega
    have hxs : xs = ofN [l0, l1, l2, l3] := hx
    obtain ⟨T, hT⟩ : ∃ T, T = l0 + l1 + l2 + l3 := ⟨_, rfl⟩
    rw [← hT] at hsum h7
    by_cases h5 : T ≤ 5
    · have hwl : awL xs = wgo T [] [l0, l1, l2, l3] := by
        rw [awL_yes hv (by omega), wordsL, hx]
        simp only [List.map_cons, List.map_nil, Int.toNat_natCast]
        rw [hT]
        simp [List.sum_cons, Nat.add_assoc]
      have hpos : decide (0 < (awL xs).length) = true := decide_eq_true (awL_pos hv (by omega))
      have h5i : ¬ (5 : Int) < T := by omega
      rw [hpos]
      have Hv := hid hv
      have Hxs := hid hxs
      have HT := hid hT
      have Hsum := hid hsum
      have Hwl := hid hwl
      clear h5 hT hxs hx hv hsum hpos
      cases m with
      | true =>
        rw [show wrL xs true = tal ((wgo T [] [l0, l1, l2, l3]).map wnM) by rw [wrL, if_pos rfl, hwl]]
        clear hwl
        go_enter Try.func55, Try.ntmps55
        go_wp2_with fail
        refine (says_tob (vcS_any _ _ _ xs _ h hn) (decide_eq_true Hv.out)).mono ?_
        rintro e w1 ⟨rfl, b1⟩
        go_wp2_with fail
        refine (says_to (sum_any _ _ _ xs _ (h.later b1) (by omega) hbd) Hsum.out).mono ?_
        rintro e w2 ⟨rfl, b2⟩
        obtain ⟨w3, hw3⟩ : ∃ w3, w3 = w2 := ⟨_, rfl⟩
        subst hw3
        have b3 := b1.trans (b2.mono b1.size)
        have h2 := (h.later b1).later b2
        rw [Hxs.out] at h2
        have hlit : Own ((w3.alloc (.cells #[] 3)).alloc (.cells #[] 3)) w3.heap.size (.slice (some ⟨w3.heap.size + 1, 0, none⟩) 0 0) [] := by
          have := own_lit_at (w := w3.alloc (.cells #[] 3)) (B := w3.heap.size) (by simp)
          rw [World.size_alloc] at this
          exact this
        have bb := ((Below.refl w3.heap.size w3).alloc (Nat.le_refl _) (.cells #[] 3)).alloc (by rw [World.size_alloc]; exact Nat.le_succ _) (.cells #[] 3)
        have hlist := Own.below (own_lit w3) (Nat.le_refl _) ((Below.refl (w3.alloc (.cells #[] 3)).heap.size _).alloc (Nat.le_refl _) (.cells #[] 3))
        have h3 := h2.later bb
        go_wp2_with fail
        refine (words_any T [] [l0, l1, l2, l3] _ 0 0 _ cap _ hlit.read (fun e => by cases e) h3 rfl (by rw [HT.out]; simp [List.sum_cons, Nat.add_assoc]) h7 (by omega)).mono ?_
        rintro e w4 ⟨u, rfl, o4, b4⟩
        obtain ⟨L, hL⟩ : ∃ L, L = wgo T [] [l0, l1, l2, l3] := ⟨_, rfl⟩
        rw [← hL] at o4
        have hVW : Hid (∀ x ∈ L, VW x) := by rw [hL, ← Hwl.out]; exact hid awL_vw
        have hlen : Hid (L.length ≤ 1000) := by rw [hL, ← Hwl.out]; exact hid awL_len
        have hbd2 : Hid (∀ x ∈ L, 0 ≤ wnM x ∧ wnM x ≤ 100) := by rw [hL, ← Hwl.out]; exact hid (awL_bd xs).2.1
        have b34 := bb.trans (b4.mono bb.size)
        have o34 := hlist.below (Nat.le_refl _) b4
        have bw4 : Below w.heap.size w w4 := b3.trans (b34.mono b3.size)
        have hws3 : w.heap.size ≤ w3.heap.size := b3.size
        obtain ⟨a4, c4, rfl, -⟩ := o4.sl
        have HL := hid hL
        have hLl : L.length ≤ 1000 := hlen.out
        rw [World.size_alloc, World.size_alloc] at o4
        have h4s : w3.heap.size + 2 ≤ w4.heap.size := by have := b4.size; rw [World.size_alloc, World.size_alloc] at this; omega
        obtain ⟨s, hs⟩ : ∃ s, s = w3.heap.size := ⟨_, rfl⟩
        rw [← hs] at o4 o34 h4s hws3 ⊢
        have HO4 := hid o4
        clear hs hL o4 b4 hlist hlit h3 h2 bb b34 b1 b2 b3
        go_wp2
        go_loopw [6, 8] (fun p i wr => ∃ (k : Nat) (ap : Option Addr) (cp : Nat), k ≤ L.length ∧ p = .slice ap k cp ∧ i = .int .i64 k ∧ Hid (Chg s (s + 1) w4 wr) ∧ Own wr s (.slice ap k cp) (mpk wnM L k) ∧ Hid (∀ q, (Value.slice ap k cp).ownBlock = some q → q < s + 1 ∨ w4.heap.size ≤ q))
          (fun _ i _ => L.length - (intOf i).toNat)
        case atStart => exact ⟨0, _, _, Nat.zero_le _, rfl, rfl, hid (Chg.refl _ _ _), o34, hid (fun q hq => by simp [Value.ownBlock] at hq; omega)⟩
        case round =>
          clear o34
          obtain ⟨k, ap, cp, hk, rfl, rfl, HC, ho, HQ⟩ := hrel
          have hch := HC.out
          have hszr := hch.size
          by_cases hlt : k < L.length
          · have hki : (k : Int) < L.length := by omega
            obtain ⟨bl, off, rfl, hblt, hcr⟩ := (ownL_read (HO4.out.chg hch (Or.inr (Nat.le_succ _)))).row (by omega)
            obtain ⟨ai, ci, hcell, hs2⟩ := hcr k hlt
            have hvw : VW (ell L k) := by rw [ell_lt hlt]; exact hVW.out _ (List.getElem_mem hlt)
            have h7 := hvw.len
            have hval : wnM (ell L k) = major (ell L k) := by rw [wnM, onWi, if_pos hvw]
            have Hval := hid hval
            have Hhvw := hid hvw
            have Hhc := hid hch
            clear hcr hval hvw hch
            have hyl2 : (mpk wnM L k).length ≤ 2000000 := by rw [mpk_len wnM (by omega)]; omega
            have Htk := hid (mpk_succ wnM hlt)
            go_wp2_with fail
            refine (major_any _ _ _ (ell L k) _ hs2 (by omega)).mono ?_
            rintro e w5 ⟨rfl, b5⟩
            have ho5 := ho.below (Nat.le_refl _) b5
            have hc5 := Hhc.out.trans (Chg.of_below (lo := s) (hi := s + 1) b5)
            have hs5 : s ≤ w5.heap.size := by have := b5.size; omega
            have hl2 : w4.heap.size ≤ w5.heap.size := hc5.size
            have Hc5 := hid hc5
            rw [← Hval.out]
            clear hcell hs2 hc5 b5
            go_wp2_with (at_builtin; refine app_int2 _ _ rfl _ _ rfl s _ _ rfl ho5 rfl hyl2 hs5 ?_)
            intro u' w' ho' hg' hk'
            have HC' := hid (chg_app Hc5.out hg' (fun q hq => by have h1 := HQ.out q hq; have h2 := (ho5.blocks q hq).1; omega))
            rw [← Htk.out] at ho'
            obtain ⟨ao5, cp5, rfl, -⟩ := ho'.sl
            rw [mpk_len wnM (show k + 1 ≤ L.length by omega)] at ho' hk' ⊢
            have HQ' : Hid (∀ q, (Value.slice ao5 (k + 1) cp5).ownBlock = some q → q < s + 1 ∨ w4.heap.size ≤ q) := hid (fun q hq => by
              rcases hk' with e | e
              · exact HQ.out q (e ▸ hq)
              · rw [e] at hq; have := Option.some.inj hq; omega)
            clear hk' hg' ho5 Hc5
            go_wp2
            go_roundw
            case rel => exact ⟨k + 1, _, _, by omega, rfl, by go_num, HC', ho', HQ'⟩
            case measure => simp [intOf]; omega
          · obtain rfl : k = L.length := by omega
            have hbw : Below w.heap.size w wr := HC.out.below bw4 (by omega) bw4.size
            rw [mpk_all] at ho
            obtain ⟨ad, cd, e2, hs2⟩ := ho.sl
            rw [List.length_map] at e2 hs2
            cases e2
            have hln := hlen.out
            have hsz := hbw.size
            go_wp2_with fail
            refine (tallyS_any _ _ _ (L.map wnM) _ hs2 (hid fun j => el_bd wnM L hbd2.out j) (by omega)).mono ?_
            rintro e w6 ⟨u6, rfl, o6, b6⟩
            have b6' := hbw.trans (b6.mono hsz)
            have o6' := o6.mono hsz
            obtain ⟨a6, c6, rfl, -⟩ := o6.sl
            have O6 := hid o6'
            clear o6 o6'
            go_wp2
            go_ret2
            refine ⟨_, rfl, ?_, b6'⟩
            rw [← HL.out]
            exact O6.out
      | false =>
        rw [show wrL xs false = tal ((wgo T [] [l0, l1, l2, l3]).map wnI) by rw [wrL, hwl]; rfl]
        clear hwl
        go_enter Try.func55, Try.ntmps55
        go_wp2_with fail
        refine (says_tob (vcS_any _ _ _ xs _ h hn) (decide_eq_true Hv.out)).mono ?_
        rintro e w1 ⟨rfl, b1⟩
        go_wp2_with fail
        refine (says_to (sum_any _ _ _ xs _ (h.later b1) (by omega) hbd) Hsum.out).mono ?_
        rintro e w2 ⟨rfl, b2⟩
        obtain ⟨w3, hw3⟩ : ∃ w3, w3 = w2 := ⟨_, rfl⟩
        subst hw3
        have b3 := b1.trans (b2.mono b1.size)
        have h2 := (h.later b1).later b2
        rw [Hxs.out] at h2
        have hlit : Own ((w3.alloc (.cells #[] 3)).alloc (.cells #[] 3)) w3.heap.size (.slice (some ⟨w3.heap.size + 1, 0, none⟩) 0 0) [] := by
          have := own_lit_at (w := w3.alloc (.cells #[] 3)) (B := w3.heap.size) (by simp)
          rw [World.size_alloc] at this
          exact this
        have bb := ((Below.refl w3.heap.size w3).alloc (Nat.le_refl _) (.cells #[] 3)).alloc (by rw [World.size_alloc]; exact Nat.le_succ _) (.cells #[] 3)
        have hlist := Own.below (own_lit w3) (Nat.le_refl _) ((Below.refl (w3.alloc (.cells #[] 3)).heap.size _).alloc (Nat.le_refl _) (.cells #[] 3))
        have h3 := h2.later bb
        go_wp2_with fail
        refine (words_any T [] [l0, l1, l2, l3] _ 0 0 _ cap _ hlit.read (fun e => by cases e) h3 rfl (by rw [HT.out]; simp [List.sum_cons, Nat.add_assoc]) h7 (by omega)).mono ?_
        rintro e w4 ⟨u, rfl, o4, b4⟩
        obtain ⟨L, hL⟩ : ∃ L, L = wgo T [] [l0, l1, l2, l3] := ⟨_, rfl⟩
        rw [← hL] at o4
        have hVW : Hid (∀ x ∈ L, VW x) := by rw [hL, ← Hwl.out]; exact hid awL_vw
        have hlen : Hid (L.length ≤ 1000) := by rw [hL, ← Hwl.out]; exact hid awL_len
        have hbd2 : Hid (∀ x ∈ L, 0 ≤ wnI x ∧ wnI x ≤ 100) := by rw [hL, ← Hwl.out]; exact hid (awL_bd xs).1
        have b34 := bb.trans (b4.mono bb.size)
        have o34 := hlist.below (Nat.le_refl _) b4
        have bw4 : Below w.heap.size w w4 := b3.trans (b34.mono b3.size)
        have hws3 : w.heap.size ≤ w3.heap.size := b3.size
        obtain ⟨a4, c4, rfl, -⟩ := o4.sl
        have HL := hid hL
        have hLl : L.length ≤ 1000 := hlen.out
        rw [World.size_alloc, World.size_alloc] at o4
        have h4s : w3.heap.size + 2 ≤ w4.heap.size := by have := b4.size; rw [World.size_alloc, World.size_alloc] at this; omega
        obtain ⟨s, hs⟩ : ∃ s, s = w3.heap.size := ⟨_, rfl⟩
        rw [← hs] at o4 o34 h4s hws3 ⊢
        have HO4 := hid o4
        clear hs hL o4 b4 hlist hlit h3 h2 bb b34 b1 b2 b3
        go_wp2
        go_loopw [6, 8] (fun p i wr => ∃ (k : Nat) (ap : Option Addr) (cp : Nat), k ≤ L.length ∧ p = .slice ap k cp ∧ i = .int .i64 k ∧ Hid (Chg s (s + 1) w4 wr) ∧ Own wr s (.slice ap k cp) (mpk wnI L k) ∧ Hid (∀ q, (Value.slice ap k cp).ownBlock = some q → q < s + 1 ∨ w4.heap.size ≤ q))
          (fun _ i _ => L.length - (intOf i).toNat)
        case atStart => exact ⟨0, _, _, Nat.zero_le _, rfl, rfl, hid (Chg.refl _ _ _), o34, hid (fun q hq => by simp [Value.ownBlock] at hq; omega)⟩
        case round =>
          clear o34
          obtain ⟨k, ap, cp, hk, rfl, rfl, HC, ho, HQ⟩ := hrel
          have hch := HC.out
          have hszr := hch.size
          by_cases hlt : k < L.length
          · have hki : (k : Int) < L.length := by omega
            obtain ⟨bl, off, rfl, hblt, hcr⟩ := (ownL_read (HO4.out.chg hch (Or.inr (Nat.le_succ _)))).row (by omega)
            obtain ⟨ai, ci, hcell, hs2⟩ := hcr k hlt
            have hvw : VW (ell L k) := by rw [ell_lt hlt]; exact hVW.out _ (List.getElem_mem hlt)
            have h7 := hvw.len
            have hval : wnI (ell L k) = sumL (table (ell L k)) := by rw [wnI, onWi, if_pos hvw]
            have Hval := hid hval
            have Hhvw := hid hvw
            have Hhc := hid hch
            clear hcr hval hvw hch
            have hyl2 : (mpk wnI L k).length ≤ 2000000 := by rw [mpk_len wnI (by omega)]; omega
            have Htk := hid (mpk_succ wnI hlt)
            go_wp2_with fail
            refine (invs0_any _ _ _ (ell L k) _ hs2 (by omega)).mono ?_
            rintro e w5 ⟨rfl, b5⟩
            have ho5 := ho.below (Nat.le_refl _) b5
            have hc5 := Hhc.out.trans (Chg.of_below (lo := s) (hi := s + 1) b5)
            have hs5 : s ≤ w5.heap.size := by have := b5.size; omega
            have hl2 : w4.heap.size ≤ w5.heap.size := hc5.size
            have Hc5 := hid hc5
            rw [← Hval.out]
            clear hcell hs2 hc5 b5
            go_wp2_with (at_builtin; refine app_int2 _ _ rfl _ _ rfl s _ _ rfl ho5 rfl hyl2 hs5 ?_)
            intro u' w' ho' hg' hk'
            have HC' := hid (chg_app Hc5.out hg' (fun q hq => by have h1 := HQ.out q hq; have h2 := (ho5.blocks q hq).1; omega))
            rw [← Htk.out] at ho'
            obtain ⟨ao5, cp5, rfl, -⟩ := ho'.sl
            rw [mpk_len wnI (show k + 1 ≤ L.length by omega)] at ho' hk' ⊢
            have HQ' : Hid (∀ q, (Value.slice ao5 (k + 1) cp5).ownBlock = some q → q < s + 1 ∨ w4.heap.size ≤ q) := hid (fun q hq => by
              rcases hk' with e | e
              · exact HQ.out q (e ▸ hq)
              · rw [e] at hq; have := Option.some.inj hq; omega)
            clear hk' hg' ho5 Hc5
            go_wp2
            go_roundw
            case rel => exact ⟨k + 1, _, _, by omega, rfl, by go_num, HC', ho', HQ'⟩
            case measure => simp [intOf]; omega
          · obtain rfl : k = L.length := by omega
            have hbw : Below w.heap.size w wr := HC.out.below bw4 (by omega) bw4.size
            rw [mpk_all] at ho
            obtain ⟨ad, cd, e2, hs2⟩ := ho.sl
            rw [List.length_map] at e2 hs2
            cases e2
            have hln := hlen.out
            have hsz := hbw.size
            go_wp2_with fail
            refine (tallyS_any _ _ _ (L.map wnI) _ hs2 (hid fun j => el_bd wnI L hbd2.out j) (by omega)).mono ?_
            rintro e w6 ⟨u6, rfl, o6, b6⟩
            have b6' := hbw.trans (b6.mono hsz)
            have o6' := o6.mono hsz
            obtain ⟨a6, c6, rfl, -⟩ := o6.sl
            have O6 := hid o6'
            clear o6 o6'
            go_wp2
            go_ret2
            refine ⟨_, rfl, ?_, b6'⟩
            rw [← HL.out]
            exact O6.out
    · have h5i : (5 : Int) < T := by omega
      rw [wr_no m (fun k => by have := k.2; omega), awL_no (fun k => by have := k.2; omega)]
      have Hv := hid hv
      have Hsum := hid hsum
      clear h5 hv hsum hxs hx hT
      go_enter Try.func55, Try.ntmps55
      go_wp2_with fail
      refine (says_tob (vcS_any _ _ _ xs _ h hn) (decide_eq_true Hv.out)).mono ?_
      rintro e w1 ⟨rfl, b1⟩
      go_wp2_with fail
      refine (says_to (sum_any _ _ _ xs _ (h.later b1) (by omega) hbd) Hsum.out).mono ?_
      rintro e w2 ⟨rfl, b2⟩
      have b12 := b1.trans (b2.mono b1.size)
      go_wp2
      go_ret2
      exact ⟨_, rfl, Own.nil, b12⟩
  · rw [wr_no m (fun k => hv k.1), awL_no (fun k => hv k.1)]
    have Hv := hid hv
    clear hv
    go_enter Try.func55, Try.ntmps55
    go_wp2_with fail
    refine (says_tob (vcS_any _ _ _ xs _ h hn) (decide_eq_false Hv.out)).mono ?_
    rintro e w1 ⟨rfl, b1⟩
    go_wp2
    go_ret2
    exact ⟨_, rfl, Own.nil, b1⟩

end Go.Proofs.Ytjphaphnmclbcaa
