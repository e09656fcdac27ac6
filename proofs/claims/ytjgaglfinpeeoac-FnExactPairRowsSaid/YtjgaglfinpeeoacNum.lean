/- The numbers of a name for all orders, in the program. No condition. -/
import Derived.Test.YtjgaglfinpeeoacNumB
namespace Go.Proofs.Ytjgaglfinpeeoac
open Go.RowKit

set_option maxRecDepth 20000 in
set_option maxHeartbeats 4000000 in
theorem numY0_any (m : Nat) (w : World) (hm : m ≤ 5) :
    Calls Try.prog 54 #[.string nm_inversions, .int .i64 m] w (Made2 w (numK 0 m) true) := by
  have hf1 := (facN_pos m (by omega)).2
  go_enter Try.func54, Try.ntmps54
  go_wp2_with fail
  refine (counters_any _).mono ?_
  rintro e w1 ⟨b, rfl, C, b1⟩
  obtain ⟨x1, x2, x3, x4, hM, hx1, hx2, hx3, hx4⟩ := C.all
  have hsee := run_see (P := Try.prog) Try.underlying60 Try.underlying9 [] [(nm_major, .agg #[.func (.func 94) #[] #[]]), (nm_denert, .agg #[.func (.func 95) #[] #[]]), (nm_crossings, .agg #[.func (.func 96) #[] #[]]), (nm_nestings, .agg #[.func (.func 97) #[] #[]]), (nm_descents, .agg #[.func (.func 114) #[] #[.pointer (some ⟨x1, 0, none⟩)]]), (nm_above, .agg #[.func (.func 114) #[] #[.pointer (some ⟨x2, 0, none⟩)]]), (nm_records, .agg #[.func (.func 114) #[] #[.pointer (some ⟨x3, 0, none⟩)]]), (nm_circles, .agg #[.func (.func 117) #[] #[.pointer (some ⟨x4, 0, none⟩)]])] nm_inversions (.agg #[.func (.func 93) #[] #[]]) hM (nm_new _ _ rfl)
  clear hM C
  have hW : Below w1.heap.size w1 ((w1.alloc (.cells #[.func (.func 93) #[] #[]] 58)).alloc (.cells #[] 3)) := ((Below.refl w1.heap.size w1).alloc (Nat.le_refl _) _).alloc (by simp) _
  have hBx : Bx ((w1.alloc (.cells #[.func (.func 93) #[] #[]] 58)).alloc (.cells #[] 3)) w1.heap.size 58 (.func (.func 93) #[] #[]) := (Bx.new w1 _ _).alloc _
  have ho0 : Own ((w1.alloc (.cells #[.func (.func 93) #[] #[]] 58)).alloc (.cells #[] 3)) (w1.heap.size + 1) (.slice (some ⟨w1.heap.size + 1, 0, none⟩) 0 0) [] := by
    have := own_lit (w1.alloc (.cells #[.func (.func 93) #[] #[]] 58))
    simpa only [World.size_alloc] using this
  have hsz : ((w1.alloc (.cells #[.func (.func 93) #[] #[]] 58)).alloc (.cells #[] 3)).heap.size = w1.heap.size + 2 := by simp
  have HB0 := hid hBx
  have Ho0 := hid ho0
  have Hsz := hid hsz
  clear hBx ho0 hsz
  go_wp2_with fail
  refine (allI_yes m _ hm).mono ?_
  rintro e w2 ⟨u2, rfl, o2, b2⟩
  have ho2 := Ho0.out.below (Nat.le_refl _) b2
  have hB2 := HB0.out.keep (b2.block _ HB0.out.lt)
  have hsz2 : w1.heap.size + 2 ≤ w2.heap.size := by have := b2.size; have := Hsz.out; omega
  rw [Hsz.out] at o2
  have bw2 : Below w.heap.size w w2 := b1.trans ((hW.trans (b2.mono hW.size)).mono b1.size)
  have hw1 := b1.size
  obtain ⟨ad2, cp2, rfl, -⟩ := o2.sl
  rw [allK_len] at o2 ⊢
  have HO2 := hid o2
  have HB2 := hid hB2
  obtain ⟨s, hs⟩ : ∃ s, s = w1.heap.size := ⟨_, rfl⟩
  rw [← hs] at ho2 hsz2 HO2 HB2 hw1 ⊢
  clear hx1 hx2 hx3 hx4
  clear hs hW b1 b2 o2 hB2 hsee HB0 Ho0 Hsz
  go_wp2
  go_loopw [8, 31] (fun v i wr => ∃ (j : Nat) (ao' : Option Addr) (cap' : Nat), j ≤ facN m ∧ v = .slice ao' j cap' ∧ i = .int .i64 j ∧ Hid (Chg (s + 1) (s + 2) w2 wr) ∧ Own wr (s + 1) (.slice ao' j cap') ((numK 0 m).take j) ∧ Hid (∀ q, (Value.slice ao' j cap').ownBlock = some q → q < s + 2 ∨ w2.heap.size ≤ q))
    (fun _ i _ => facN m - (intOf i).toNat)
  case atStart => exact ⟨0, _, _, Nat.zero_le _, rfl, rfl, hid (Chg.refl _ _ _), ho2, hid (fun q hq => by simp [Value.ownBlock] at hq; omega)⟩
  case round =>
    clear ho2
    obtain ⟨j, ao', cap', hj, rfl, rfl, HC, ho, HQ⟩ := hrel
    have hch := HC.out
    have hszr := hch.size
    by_cases hlt : j < facN m
    · have hji : (j : Int) < (facN m : Int) := by omega
      obtain ⟨b', off, rfl, hblt, hc⟩ := (ownL_read (HO2.out.chg hch (Or.inr (Nat.le_refl _)))).row (by omega)
      obtain ⟨ai, ci, hcell, hsi⟩ := hc j hlt
      rw [ell_allK hlt, ordK_len] at hcell hsi
      have hcf := (HB2.out.keep (hch.block _ HB2.out.lt (Or.inl (by omega)))).cell
      have hl : ((numK 0 m).take j).length ≤ 2000000 := by rw [List.length_take]; omega
      have Ht : Hid ((numK 0 m).take (j + 1) = (numK 0 m).take j ++ [valN (ordK m j) 0]) := hid (take_numK hlt)
      have Hhc := hid hch
      clear hc hch
      go_wp2_with fail
      refine (says_to (invsI_any _ _ _ (ordK m j) _ hsi) (onVi_yes (ordK_valid (by omega) j))).mono ?_
      rintro e w5 ⟨rfl, b5⟩
      have ho5 := ho.below (Nat.le_refl _) b5
      have hc5 := Hhc.out.trans (Chg.of_below (lo := s + 1) (hi := s + 2) b5)
      have hs5 : s + 1 ≤ w5.heap.size := by have := b5.size; omega
      have hl2 : w2.heap.size ≤ w5.heap.size := hc5.size
      have Hc5 := hid hc5
      clear hcell hsi hcf hc5 b5
      go_wp2_with (at_builtin; refine app_int2 _ _ rfl _ _ rfl (s + 1) _ _ rfl ho5 rfl hl hs5 ?_)
      intro u' w' ho' hg' hk'
      have HC' := hid (chg_app Hc5.out hg' (fun q hq => by have h1 := HQ.out q hq; have h2 := (ho5.blocks q hq).1; omega))
      replace ho' : Own w' (s + 1) u' ((numK 0 m).take j ++ [valN (ordK m j) 0]) := ho'
      rw [← Ht.out] at ho'
      obtain ⟨ao5, cp5, rfl, -⟩ := ho'.sl
      have hlt' : ((numK 0 m).take (j + 1)).length = j + 1 := by rw [List.length_take, numK_len]; omega
      rw [hlt'] at ho' hk' ⊢
      have HQ' : Hid (∀ q, (Value.slice ao5 (j + 1) cp5).ownBlock = some q → q < s + 2 ∨ w2.heap.size ≤ q) := hid (fun q hq => by
        rcases hk' with e | e
        · exact HQ.out q (e ▸ hq)
        · rw [e] at hq; have := Option.some.inj hq; omega)
      clear hlt' hk' hg' ho5 Hc5
      go_wp2
      go_roundw
      case rel => exact ⟨j + 1, _, _, by omega, rfl, by go_num, HC', ho', HQ'⟩
      case measure => simp [intOf]; omega
    · obtain rfl : j = facN m := by omega
      have ho2 : Own wr w.heap.size (.slice ao' (facN m) cap') (numK 0 m) := by
        rw [List.take_of_length_le (by rw [numK_len]; exact Nat.le_refl _)] at ho
        exact ho.mono (by omega)
      have Ho2 := hid ho2
      clear ho ho2
      go_wp2
      go_ret2
      exact ⟨_, rfl, Ho2.out, hch.below bw2 (by omega) bw2.size⟩

set_option maxRecDepth 20000 in
set_option maxHeartbeats 4000000 in
theorem numY1_any (m : Nat) (w : World) (hm : m ≤ 5) :
    Calls Try.prog 54 #[.string nm_major, .int .i64 m] w (Made2 w (numK 1 m) true) := by
  have hf1 := (facN_pos m (by omega)).2
  go_enter Try.func54, Try.ntmps54
  go_wp2_with fail
  refine (counters_any _).mono ?_
  rintro e w1 ⟨b, rfl, C, b1⟩
  obtain ⟨x1, x2, x3, x4, hM, hx1, hx2, hx3, hx4⟩ := C.all
  have hsee := run_see (P := Try.prog) Try.underlying60 Try.underlying9 [(nm_inversions, .agg #[.func (.func 93) #[] #[]])] [(nm_denert, .agg #[.func (.func 95) #[] #[]]), (nm_crossings, .agg #[.func (.func 96) #[] #[]]), (nm_nestings, .agg #[.func (.func 97) #[] #[]]), (nm_descents, .agg #[.func (.func 114) #[] #[.pointer (some ⟨x1, 0, none⟩)]]), (nm_above, .agg #[.func (.func 114) #[] #[.pointer (some ⟨x2, 0, none⟩)]]), (nm_records, .agg #[.func (.func 114) #[] #[.pointer (some ⟨x3, 0, none⟩)]]), (nm_circles, .agg #[.func (.func 117) #[] #[.pointer (some ⟨x4, 0, none⟩)]])] nm_major (.agg #[.func (.func 94) #[] #[]]) hM (nm_new _ _ rfl)
  clear hM C
  have hW : Below w1.heap.size w1 ((w1.alloc (.cells #[.func (.func 94) #[] #[]] 58)).alloc (.cells #[] 3)) := ((Below.refl w1.heap.size w1).alloc (Nat.le_refl _) _).alloc (by simp) _
  have hBx : Bx ((w1.alloc (.cells #[.func (.func 94) #[] #[]] 58)).alloc (.cells #[] 3)) w1.heap.size 58 (.func (.func 94) #[] #[]) := (Bx.new w1 _ _).alloc _
  have ho0 : Own ((w1.alloc (.cells #[.func (.func 94) #[] #[]] 58)).alloc (.cells #[] 3)) (w1.heap.size + 1) (.slice (some ⟨w1.heap.size + 1, 0, none⟩) 0 0) [] := by
    have := own_lit (w1.alloc (.cells #[.func (.func 94) #[] #[]] 58))
    simpa only [World.size_alloc] using this
  have hsz : ((w1.alloc (.cells #[.func (.func 94) #[] #[]] 58)).alloc (.cells #[] 3)).heap.size = w1.heap.size + 2 := by simp
  have HB0 := hid hBx
  have Ho0 := hid ho0
  have Hsz := hid hsz
  clear hBx ho0 hsz
  go_wp2_with fail
  refine (allI_yes m _ hm).mono ?_
  rintro e w2 ⟨u2, rfl, o2, b2⟩
  have ho2 := Ho0.out.below (Nat.le_refl _) b2
  have hB2 := HB0.out.keep (b2.block _ HB0.out.lt)
  have hsz2 : w1.heap.size + 2 ≤ w2.heap.size := by have := b2.size; have := Hsz.out; omega
  rw [Hsz.out] at o2
  have bw2 : Below w.heap.size w w2 := b1.trans ((hW.trans (b2.mono hW.size)).mono b1.size)
  have hw1 := b1.size
  obtain ⟨ad2, cp2, rfl, -⟩ := o2.sl
  rw [allK_len] at o2 ⊢
  have HO2 := hid o2
  have HB2 := hid hB2
  obtain ⟨s, hs⟩ : ∃ s, s = w1.heap.size := ⟨_, rfl⟩
  rw [← hs] at ho2 hsz2 HO2 HB2 hw1 ⊢
  clear hx1 hx2 hx3 hx4
  clear hs hW b1 b2 o2 hB2 hsee HB0 Ho0 Hsz
  go_wp2
  go_loopw [8, 31] (fun v i wr => ∃ (j : Nat) (ao' : Option Addr) (cap' : Nat), j ≤ facN m ∧ v = .slice ao' j cap' ∧ i = .int .i64 j ∧ Hid (Chg (s + 1) (s + 2) w2 wr) ∧ Own wr (s + 1) (.slice ao' j cap') ((numK 1 m).take j) ∧ Hid (∀ q, (Value.slice ao' j cap').ownBlock = some q → q < s + 2 ∨ w2.heap.size ≤ q))
    (fun _ i _ => facN m - (intOf i).toNat)
  case atStart => exact ⟨0, _, _, Nat.zero_le _, rfl, rfl, hid (Chg.refl _ _ _), ho2, hid (fun q hq => by simp [Value.ownBlock] at hq; omega)⟩
  case round =>
    clear ho2
    obtain ⟨j, ao', cap', hj, rfl, rfl, HC, ho, HQ⟩ := hrel
    have hch := HC.out
    have hszr := hch.size
    by_cases hlt : j < facN m
    · have hji : (j : Int) < (facN m : Int) := by omega
      obtain ⟨b', off, rfl, hblt, hc⟩ := (ownL_read (HO2.out.chg hch (Or.inr (Nat.le_refl _)))).row (by omega)
      obtain ⟨ai, ci, hcell, hsi⟩ := hc j hlt
      rw [ell_allK hlt, ordK_len] at hcell hsi
      have hcf := (HB2.out.keep (hch.block _ HB2.out.lt (Or.inl (by omega)))).cell
      have hl : ((numK 1 m).take j).length ≤ 2000000 := by rw [List.length_take]; omega
      have Ht : Hid ((numK 1 m).take (j + 1) = (numK 1 m).take j ++ [valN (ordK m j) 1]) := hid (take_numK hlt)
      have Hhc := hid hch
      clear hc hch
      go_wp2_with fail
      refine (says_to (majorI_any _ _ _ (ordK m j) _ hsi) (onVi_yes (ordK_valid (by omega) j))).mono ?_
      rintro e w5 ⟨rfl, b5⟩
      have ho5 := ho.below (Nat.le_refl _) b5
      have hc5 := Hhc.out.trans (Chg.of_below (lo := s + 1) (hi := s + 2) b5)
      have hs5 : s + 1 ≤ w5.heap.size := by have := b5.size; omega
      have hl2 : w2.heap.size ≤ w5.heap.size := hc5.size
      have Hc5 := hid hc5
      clear hcell hsi hcf hc5 b5
      go_wp2_with (at_builtin; refine app_int2 _ _ rfl _ _ rfl (s + 1) _ _ rfl ho5 rfl hl hs5 ?_)
      intro u' w' ho' hg' hk'
      have HC' := hid (chg_app Hc5.out hg' (fun q hq => by have h1 := HQ.out q hq; have h2 := (ho5.blocks q hq).1; omega))
      replace ho' : Own w' (s + 1) u' ((numK 1 m).take j ++ [valN (ordK m j) 1]) := ho'
      rw [← Ht.out] at ho'
      obtain ⟨ao5, cp5, rfl, -⟩ := ho'.sl
      have hlt' : ((numK 1 m).take (j + 1)).length = j + 1 := by rw [List.length_take, numK_len]; omega
      rw [hlt'] at ho' hk' ⊢
      have HQ' : Hid (∀ q, (Value.slice ao5 (j + 1) cp5).ownBlock = some q → q < s + 2 ∨ w2.heap.size ≤ q) := hid (fun q hq => by
        rcases hk' with e | e
        · exact HQ.out q (e ▸ hq)
        · rw [e] at hq; have := Option.some.inj hq; omega)
      clear hlt' hk' hg' ho5 Hc5
      go_wp2
      go_roundw
      case rel => exact ⟨j + 1, _, _, by omega, rfl, by go_num, HC', ho', HQ'⟩
      case measure => simp [intOf]; omega
    · obtain rfl : j = facN m := by omega
      have ho2 : Own wr w.heap.size (.slice ao' (facN m) cap') (numK 1 m) := by
        rw [List.take_of_length_le (by rw [numK_len]; exact Nat.le_refl _)] at ho
        exact ho.mono (by omega)
      have Ho2 := hid ho2
      clear ho ho2
      go_wp2
      go_ret2
      exact ⟨_, rfl, Ho2.out, hch.below bw2 (by omega) bw2.size⟩

set_option maxRecDepth 20000 in
set_option maxHeartbeats 4000000 in
theorem numY2_any (m : Nat) (w : World) (hm : m ≤ 5) :
    Calls Try.prog 54 #[.string nm_denert, .int .i64 m] w (Made2 w (numK 2 m) true) := by
  have hf1 := (facN_pos m (by omega)).2
  go_enter Try.func54, Try.ntmps54
  go_wp2_with fail
  refine (counters_any _).mono ?_
  rintro e w1 ⟨b, rfl, C, b1⟩
  obtain ⟨x1, x2, x3, x4, hM, hx1, hx2, hx3, hx4⟩ := C.all
  have hsee := run_see (P := Try.prog) Try.underlying60 Try.underlying9 [(nm_inversions, .agg #[.func (.func 93) #[] #[]]), (nm_major, .agg #[.func (.func 94) #[] #[]])] [(nm_crossings, .agg #[.func (.func 96) #[] #[]]), (nm_nestings, .agg #[.func (.func 97) #[] #[]]), (nm_descents, .agg #[.func (.func 114) #[] #[.pointer (some ⟨x1, 0, none⟩)]]), (nm_above, .agg #[.func (.func 114) #[] #[.pointer (some ⟨x2, 0, none⟩)]]), (nm_records, .agg #[.func (.func 114) #[] #[.pointer (some ⟨x3, 0, none⟩)]]), (nm_circles, .agg #[.func (.func 117) #[] #[.pointer (some ⟨x4, 0, none⟩)]])] nm_denert (.agg #[.func (.func 95) #[] #[]]) hM (nm_new _ _ rfl)
  clear hM C
  have hW : Below w1.heap.size w1 ((w1.alloc (.cells #[.func (.func 95) #[] #[]] 58)).alloc (.cells #[] 3)) := ((Below.refl w1.heap.size w1).alloc (Nat.le_refl _) _).alloc (by simp) _
  have hBx : Bx ((w1.alloc (.cells #[.func (.func 95) #[] #[]] 58)).alloc (.cells #[] 3)) w1.heap.size 58 (.func (.func 95) #[] #[]) := (Bx.new w1 _ _).alloc _
  have ho0 : Own ((w1.alloc (.cells #[.func (.func 95) #[] #[]] 58)).alloc (.cells #[] 3)) (w1.heap.size + 1) (.slice (some ⟨w1.heap.size + 1, 0, none⟩) 0 0) [] := by
    have := own_lit (w1.alloc (.cells #[.func (.func 95) #[] #[]] 58))
    simpa only [World.size_alloc] using this
  have hsz : ((w1.alloc (.cells #[.func (.func 95) #[] #[]] 58)).alloc (.cells #[] 3)).heap.size = w1.heap.size + 2 := by simp
  have HB0 := hid hBx
  have Ho0 := hid ho0
  have Hsz := hid hsz
  clear hBx ho0 hsz
  go_wp2_with fail
  refine (allI_yes m _ hm).mono ?_
  rintro e w2 ⟨u2, rfl, o2, b2⟩
  have ho2 := Ho0.out.below (Nat.le_refl _) b2
  have hB2 := HB0.out.keep (b2.block _ HB0.out.lt)
  have hsz2 : w1.heap.size + 2 ≤ w2.heap.size := by have := b2.size; have := Hsz.out; omega
  rw [Hsz.out] at o2
  have bw2 : Below w.heap.size w w2 := b1.trans ((hW.trans (b2.mono hW.size)).mono b1.size)
  have hw1 := b1.size
  obtain ⟨ad2, cp2, rfl, -⟩ := o2.sl
  rw [allK_len] at o2 ⊢
  have HO2 := hid o2
  have HB2 := hid hB2
  obtain ⟨s, hs⟩ : ∃ s, s = w1.heap.size := ⟨_, rfl⟩
  rw [← hs] at ho2 hsz2 HO2 HB2 hw1 ⊢
  clear hx1 hx2 hx3 hx4
  clear hs hW b1 b2 o2 hB2 hsee HB0 Ho0 Hsz
  go_wp2
  go_loopw [8, 31] (fun v i wr => ∃ (j : Nat) (ao' : Option Addr) (cap' : Nat), j ≤ facN m ∧ v = .slice ao' j cap' ∧ i = .int .i64 j ∧ Hid (Chg (s + 1) (s + 2) w2 wr) ∧ Own wr (s + 1) (.slice ao' j cap') ((numK 2 m).take j) ∧ Hid (∀ q, (Value.slice ao' j cap').ownBlock = some q → q < s + 2 ∨ w2.heap.size ≤ q))
    (fun _ i _ => facN m - (intOf i).toNat)
  case atStart => exact ⟨0, _, _, Nat.zero_le _, rfl, rfl, hid (Chg.refl _ _ _), ho2, hid (fun q hq => by simp [Value.ownBlock] at hq; omega)⟩
  case round =>
    clear ho2
    obtain ⟨j, ao', cap', hj, rfl, rfl, HC, ho, HQ⟩ := hrel
    have hch := HC.out
    have hszr := hch.size
    by_cases hlt : j < facN m
    · have hji : (j : Int) < (facN m : Int) := by omega
      obtain ⟨b', off, rfl, hblt, hc⟩ := (ownL_read (HO2.out.chg hch (Or.inr (Nat.le_refl _)))).row (by omega)
      obtain ⟨ai, ci, hcell, hsi⟩ := hc j hlt
      rw [ell_allK hlt, ordK_len] at hcell hsi
      have hcf := (HB2.out.keep (hch.block _ HB2.out.lt (Or.inl (by omega)))).cell
      have hl : ((numK 2 m).take j).length ≤ 2000000 := by rw [List.length_take]; omega
      have Ht : Hid ((numK 2 m).take (j + 1) = (numK 2 m).take j ++ [valN (ordK m j) 2]) := hid (take_numK hlt)
      have Hhc := hid hch
      clear hc hch
      go_wp2_with fail
      refine (says_to (denI_any _ _ _ (ordK m j) _ hsi) (onVi_yes (ordK_valid (by omega) j))).mono ?_
      rintro e w5 ⟨rfl, b5⟩
      have ho5 := ho.below (Nat.le_refl _) b5
      have hc5 := Hhc.out.trans (Chg.of_below (lo := s + 1) (hi := s + 2) b5)
      have hs5 : s + 1 ≤ w5.heap.size := by have := b5.size; omega
      have hl2 : w2.heap.size ≤ w5.heap.size := hc5.size
      have Hc5 := hid hc5
      clear hcell hsi hcf hc5 b5
      go_wp2_with (at_builtin; refine app_int2 _ _ rfl _ _ rfl (s + 1) _ _ rfl ho5 rfl hl hs5 ?_)
      intro u' w' ho' hg' hk'
      have HC' := hid (chg_app Hc5.out hg' (fun q hq => by have h1 := HQ.out q hq; have h2 := (ho5.blocks q hq).1; omega))
      replace ho' : Own w' (s + 1) u' ((numK 2 m).take j ++ [valN (ordK m j) 2]) := ho'
      rw [← Ht.out] at ho'
      obtain ⟨ao5, cp5, rfl, -⟩ := ho'.sl
      have hlt' : ((numK 2 m).take (j + 1)).length = j + 1 := by rw [List.length_take, numK_len]; omega
      rw [hlt'] at ho' hk' ⊢
      have HQ' : Hid (∀ q, (Value.slice ao5 (j + 1) cp5).ownBlock = some q → q < s + 2 ∨ w2.heap.size ≤ q) := hid (fun q hq => by
        rcases hk' with e | e
        · exact HQ.out q (e ▸ hq)
        · rw [e] at hq; have := Option.some.inj hq; omega)
      clear hlt' hk' hg' ho5 Hc5
      go_wp2
      go_roundw
      case rel => exact ⟨j + 1, _, _, by omega, rfl, by go_num, HC', ho', HQ'⟩
      case measure => simp [intOf]; omega
    · obtain rfl : j = facN m := by omega
      have ho2 : Own wr w.heap.size (.slice ao' (facN m) cap') (numK 2 m) := by
        rw [List.take_of_length_le (by rw [numK_len]; exact Nat.le_refl _)] at ho
        exact ho.mono (by omega)
      have Ho2 := hid ho2
      clear ho ho2
      go_wp2
      go_ret2
      exact ⟨_, rfl, Ho2.out, hch.below bw2 (by omega) bw2.size⟩

set_option maxRecDepth 20000 in
set_option maxHeartbeats 4000000 in
theorem numY3_any (m : Nat) (w : World) (hm : m ≤ 5) :
    Calls Try.prog 54 #[.string nm_crossings, .int .i64 m] w (Made2 w (numK 3 m) true) := by
  have hf1 := (facN_pos m (by omega)).2
  go_enter Try.func54, Try.ntmps54
  go_wp2_with fail
  refine (counters_any _).mono ?_
  rintro e w1 ⟨b, rfl, C, b1⟩
  obtain ⟨x1, x2, x3, x4, hM, hx1, hx2, hx3, hx4⟩ := C.all
  have hsee := run_see (P := Try.prog) Try.underlying60 Try.underlying9 [(nm_inversions, .agg #[.func (.func 93) #[] #[]]), (nm_major, .agg #[.func (.func 94) #[] #[]]), (nm_denert, .agg #[.func (.func 95) #[] #[]])] [(nm_nestings, .agg #[.func (.func 97) #[] #[]]), (nm_descents, .agg #[.func (.func 114) #[] #[.pointer (some ⟨x1, 0, none⟩)]]), (nm_above, .agg #[.func (.func 114) #[] #[.pointer (some ⟨x2, 0, none⟩)]]), (nm_records, .agg #[.func (.func 114) #[] #[.pointer (some ⟨x3, 0, none⟩)]]), (nm_circles, .agg #[.func (.func 117) #[] #[.pointer (some ⟨x4, 0, none⟩)]])] nm_crossings (.agg #[.func (.func 96) #[] #[]]) hM (nm_new _ _ rfl)
  clear hM C
  have hW : Below w1.heap.size w1 ((w1.alloc (.cells #[.func (.func 96) #[] #[]] 58)).alloc (.cells #[] 3)) := ((Below.refl w1.heap.size w1).alloc (Nat.le_refl _) _).alloc (by simp) _
  have hBx : Bx ((w1.alloc (.cells #[.func (.func 96) #[] #[]] 58)).alloc (.cells #[] 3)) w1.heap.size 58 (.func (.func 96) #[] #[]) := (Bx.new w1 _ _).alloc _
  have ho0 : Own ((w1.alloc (.cells #[.func (.func 96) #[] #[]] 58)).alloc (.cells #[] 3)) (w1.heap.size + 1) (.slice (some ⟨w1.heap.size + 1, 0, none⟩) 0 0) [] := by
    have := own_lit (w1.alloc (.cells #[.func (.func 96) #[] #[]] 58))
    simpa only [World.size_alloc] using this
  have hsz : ((w1.alloc (.cells #[.func (.func 96) #[] #[]] 58)).alloc (.cells #[] 3)).heap.size = w1.heap.size + 2 := by simp
  have HB0 := hid hBx
  have Ho0 := hid ho0
  have Hsz := hid hsz
  clear hBx ho0 hsz
  go_wp2_with fail
  refine (allI_yes m _ hm).mono ?_
  rintro e w2 ⟨u2, rfl, o2, b2⟩
  have ho2 := Ho0.out.below (Nat.le_refl _) b2
  have hB2 := HB0.out.keep (b2.block _ HB0.out.lt)
  have hsz2 : w1.heap.size + 2 ≤ w2.heap.size := by have := b2.size; have := Hsz.out; omega
  rw [Hsz.out] at o2
  have bw2 : Below w.heap.size w w2 := b1.trans ((hW.trans (b2.mono hW.size)).mono b1.size)
  have hw1 := b1.size
  obtain ⟨ad2, cp2, rfl, -⟩ := o2.sl
  rw [allK_len] at o2 ⊢
  have HO2 := hid o2
  have HB2 := hid hB2
  obtain ⟨s, hs⟩ : ∃ s, s = w1.heap.size := ⟨_, rfl⟩
  rw [← hs] at ho2 hsz2 HO2 HB2 hw1 ⊢
  clear hx1 hx2 hx3 hx4
  clear hs hW b1 b2 o2 hB2 hsee HB0 Ho0 Hsz
  go_wp2
  go_loopw [8, 31] (fun v i wr => ∃ (j : Nat) (ao' : Option Addr) (cap' : Nat), j ≤ facN m ∧ v = .slice ao' j cap' ∧ i = .int .i64 j ∧ Hid (Chg (s + 1) (s + 2) w2 wr) ∧ Own wr (s + 1) (.slice ao' j cap') ((numK 3 m).take j) ∧ Hid (∀ q, (Value.slice ao' j cap').ownBlock = some q → q < s + 2 ∨ w2.heap.size ≤ q))
    (fun _ i _ => facN m - (intOf i).toNat)
  case atStart => exact ⟨0, _, _, Nat.zero_le _, rfl, rfl, hid (Chg.refl _ _ _), ho2, hid (fun q hq => by simp [Value.ownBlock] at hq; omega)⟩
  case round =>
    clear ho2
    obtain ⟨j, ao', cap', hj, rfl, rfl, HC, ho, HQ⟩ := hrel
    have hch := HC.out
    have hszr := hch.size
    by_cases hlt : j < facN m
    · have hji : (j : Int) < (facN m : Int) := by omega
      obtain ⟨b', off, rfl, hblt, hc⟩ := (ownL_read (HO2.out.chg hch (Or.inr (Nat.le_refl _)))).row (by omega)
      obtain ⟨ai, ci, hcell, hsi⟩ := hc j hlt
      rw [ell_allK hlt, ordK_len] at hcell hsi
      have hcf := (HB2.out.keep (hch.block _ HB2.out.lt (Or.inl (by omega)))).cell
      have hl : ((numK 3 m).take j).length ≤ 2000000 := by rw [List.length_take]; omega
      have Ht : Hid ((numK 3 m).take (j + 1) = (numK 3 m).take j ++ [valN (ordK m j) 3]) := hid (take_numK hlt)
      have Hhc := hid hch
      clear hc hch
      go_wp2_with fail
      refine (says_to (crossI_any _ _ _ (ordK m j) _ hsi) (onVi_yes (ordK_valid (by omega) j))).mono ?_
      rintro e w5 ⟨rfl, b5⟩
      have ho5 := ho.below (Nat.le_refl _) b5
      have hc5 := Hhc.out.trans (Chg.of_below (lo := s + 1) (hi := s + 2) b5)
      have hs5 : s + 1 ≤ w5.heap.size := by have := b5.size; omega
      have hl2 : w2.heap.size ≤ w5.heap.size := hc5.size
      have Hc5 := hid hc5
      clear hcell hsi hcf hc5 b5
      go_wp2_with (at_builtin; refine app_int2 _ _ rfl _ _ rfl (s + 1) _ _ rfl ho5 rfl hl hs5 ?_)
      intro u' w' ho' hg' hk'
      have HC' := hid (chg_app Hc5.out hg' (fun q hq => by have h1 := HQ.out q hq; have h2 := (ho5.blocks q hq).1; omega))
      replace ho' : Own w' (s + 1) u' ((numK 3 m).take j ++ [valN (ordK m j) 3]) := ho'
      rw [← Ht.out] at ho'
      obtain ⟨ao5, cp5, rfl, -⟩ := ho'.sl
      have hlt' : ((numK 3 m).take (j + 1)).length = j + 1 := by rw [List.length_take, numK_len]; omega
      rw [hlt'] at ho' hk' ⊢
      have HQ' : Hid (∀ q, (Value.slice ao5 (j + 1) cp5).ownBlock = some q → q < s + 2 ∨ w2.heap.size ≤ q) := hid (fun q hq => by
        rcases hk' with e | e
        · exact HQ.out q (e ▸ hq)
        · rw [e] at hq; have := Option.some.inj hq; omega)
      clear hlt' hk' hg' ho5 Hc5
      go_wp2
      go_roundw
      case rel => exact ⟨j + 1, _, _, by omega, rfl, by go_num, HC', ho', HQ'⟩
      case measure => simp [intOf]; omega
    · obtain rfl : j = facN m := by omega
      have ho2 : Own wr w.heap.size (.slice ao' (facN m) cap') (numK 3 m) := by
        rw [List.take_of_length_le (by rw [numK_len]; exact Nat.le_refl _)] at ho
        exact ho.mono (by omega)
      have Ho2 := hid ho2
      clear ho ho2
      go_wp2
      go_ret2
      exact ⟨_, rfl, Ho2.out, hch.below bw2 (by omega) bw2.size⟩

set_option maxRecDepth 20000 in
set_option maxHeartbeats 4000000 in
theorem numY4_any (m : Nat) (w : World) (hm : m ≤ 5) :
    Calls Try.prog 54 #[.string nm_nestings, .int .i64 m] w (Made2 w (numK 4 m) true) := by
  have hf1 := (facN_pos m (by omega)).2
  go_enter Try.func54, Try.ntmps54
  go_wp2_with fail
  refine (counters_any _).mono ?_
  rintro e w1 ⟨b, rfl, C, b1⟩
  obtain ⟨x1, x2, x3, x4, hM, hx1, hx2, hx3, hx4⟩ := C.all
  have hsee := run_see (P := Try.prog) Try.underlying60 Try.underlying9 [(nm_inversions, .agg #[.func (.func 93) #[] #[]]), (nm_major, .agg #[.func (.func 94) #[] #[]]), (nm_denert, .agg #[.func (.func 95) #[] #[]]), (nm_crossings, .agg #[.func (.func 96) #[] #[]])] [(nm_descents, .agg #[.func (.func 114) #[] #[.pointer (some ⟨x1, 0, none⟩)]]), (nm_above, .agg #[.func (.func 114) #[] #[.pointer (some ⟨x2, 0, none⟩)]]), (nm_records, .agg #[.func (.func 114) #[] #[.pointer (some ⟨x3, 0, none⟩)]]), (nm_circles, .agg #[.func (.func 117) #[] #[.pointer (some ⟨x4, 0, none⟩)]])] nm_nestings (.agg #[.func (.func 97) #[] #[]]) hM (nm_new _ _ rfl)
  clear hM C
  have hW : Below w1.heap.size w1 ((w1.alloc (.cells #[.func (.func 97) #[] #[]] 58)).alloc (.cells #[] 3)) := ((Below.refl w1.heap.size w1).alloc (Nat.le_refl _) _).alloc (by simp) _
  have hBx : Bx ((w1.alloc (.cells #[.func (.func 97) #[] #[]] 58)).alloc (.cells #[] 3)) w1.heap.size 58 (.func (.func 97) #[] #[]) := (Bx.new w1 _ _).alloc _
  have ho0 : Own ((w1.alloc (.cells #[.func (.func 97) #[] #[]] 58)).alloc (.cells #[] 3)) (w1.heap.size + 1) (.slice (some ⟨w1.heap.size + 1, 0, none⟩) 0 0) [] := by
    have := own_lit (w1.alloc (.cells #[.func (.func 97) #[] #[]] 58))
    simpa only [World.size_alloc] using this
  have hsz : ((w1.alloc (.cells #[.func (.func 97) #[] #[]] 58)).alloc (.cells #[] 3)).heap.size = w1.heap.size + 2 := by simp
  have HB0 := hid hBx
  have Ho0 := hid ho0
  have Hsz := hid hsz
  clear hBx ho0 hsz
  go_wp2_with fail
  refine (allI_yes m _ hm).mono ?_
  rintro e w2 ⟨u2, rfl, o2, b2⟩
  have ho2 := Ho0.out.below (Nat.le_refl _) b2
  have hB2 := HB0.out.keep (b2.block _ HB0.out.lt)
  have hsz2 : w1.heap.size + 2 ≤ w2.heap.size := by have := b2.size; have := Hsz.out; omega
  rw [Hsz.out] at o2
  have bw2 : Below w.heap.size w w2 := b1.trans ((hW.trans (b2.mono hW.size)).mono b1.size)
  have hw1 := b1.size
  obtain ⟨ad2, cp2, rfl, -⟩ := o2.sl
  rw [allK_len] at o2 ⊢
  have HO2 := hid o2
  have HB2 := hid hB2
  obtain ⟨s, hs⟩ : ∃ s, s = w1.heap.size := ⟨_, rfl⟩
  rw [← hs] at ho2 hsz2 HO2 HB2 hw1 ⊢
  clear hx1 hx2 hx3 hx4
  clear hs hW b1 b2 o2 hB2 hsee HB0 Ho0 Hsz
  go_wp2
  go_loopw [8, 31] (fun v i wr => ∃ (j : Nat) (ao' : Option Addr) (cap' : Nat), j ≤ facN m ∧ v = .slice ao' j cap' ∧ i = .int .i64 j ∧ Hid (Chg (s + 1) (s + 2) w2 wr) ∧ Own wr (s + 1) (.slice ao' j cap') ((numK 4 m).take j) ∧ Hid (∀ q, (Value.slice ao' j cap').ownBlock = some q → q < s + 2 ∨ w2.heap.size ≤ q))
    (fun _ i _ => facN m - (intOf i).toNat)
  case atStart => exact ⟨0, _, _, Nat.zero_le _, rfl, rfl, hid (Chg.refl _ _ _), ho2, hid (fun q hq => by simp [Value.ownBlock] at hq; omega)⟩
  case round =>
    clear ho2
    obtain ⟨j, ao', cap', hj, rfl, rfl, HC, ho, HQ⟩ := hrel
    have hch := HC.out
    have hszr := hch.size
    by_cases hlt : j < facN m
    · have hji : (j : Int) < (facN m : Int) := by omega
      obtain ⟨b', off, rfl, hblt, hc⟩ := (ownL_read (HO2.out.chg hch (Or.inr (Nat.le_refl _)))).row (by omega)
      obtain ⟨ai, ci, hcell, hsi⟩ := hc j hlt
      rw [ell_allK hlt, ordK_len] at hcell hsi
      have hcf := (HB2.out.keep (hch.block _ HB2.out.lt (Or.inl (by omega)))).cell
      have hl : ((numK 4 m).take j).length ≤ 2000000 := by rw [List.length_take]; omega
      have Ht : Hid ((numK 4 m).take (j + 1) = (numK 4 m).take j ++ [valN (ordK m j) 4]) := hid (take_numK hlt)
      have Hhc := hid hch
      clear hc hch
      go_wp2_with fail
      refine (says_to (nestI_any _ _ _ (ordK m j) _ hsi) (onVi_yes (ordK_valid (by omega) j))).mono ?_
      rintro e w5 ⟨rfl, b5⟩
      have ho5 := ho.below (Nat.le_refl _) b5
      have hc5 := Hhc.out.trans (Chg.of_below (lo := s + 1) (hi := s + 2) b5)
      have hs5 : s + 1 ≤ w5.heap.size := by have := b5.size; omega
      have hl2 : w2.heap.size ≤ w5.heap.size := hc5.size
      have Hc5 := hid hc5
      clear hcell hsi hcf hc5 b5
      go_wp2_with (at_builtin; refine app_int2 _ _ rfl _ _ rfl (s + 1) _ _ rfl ho5 rfl hl hs5 ?_)
      intro u' w' ho' hg' hk'
      have HC' := hid (chg_app Hc5.out hg' (fun q hq => by have h1 := HQ.out q hq; have h2 := (ho5.blocks q hq).1; omega))
      replace ho' : Own w' (s + 1) u' ((numK 4 m).take j ++ [valN (ordK m j) 4]) := ho'
      rw [← Ht.out] at ho'
      obtain ⟨ao5, cp5, rfl, -⟩ := ho'.sl
      have hlt' : ((numK 4 m).take (j + 1)).length = j + 1 := by rw [List.length_take, numK_len]; omega
      rw [hlt'] at ho' hk' ⊢
      have HQ' : Hid (∀ q, (Value.slice ao5 (j + 1) cp5).ownBlock = some q → q < s + 2 ∨ w2.heap.size ≤ q) := hid (fun q hq => by
        rcases hk' with e | e
        · exact HQ.out q (e ▸ hq)
        · rw [e] at hq; have := Option.some.inj hq; omega)
      clear hlt' hk' hg' ho5 Hc5
      go_wp2
      go_roundw
      case rel => exact ⟨j + 1, _, _, by omega, rfl, by go_num, HC', ho', HQ'⟩
      case measure => simp [intOf]; omega
    · obtain rfl : j = facN m := by omega
      have ho2 : Own wr w.heap.size (.slice ao' (facN m) cap') (numK 4 m) := by
        rw [List.take_of_length_le (by rw [numK_len]; exact Nat.le_refl _)] at ho
        exact ho.mono (by omega)
      have Ho2 := hid ho2
      clear ho ho2
      go_wp2
      go_ret2
      exact ⟨_, rfl, Ho2.out, hch.below bw2 (by omega) bw2.size⟩

set_option maxRecDepth 20000 in
set_option maxHeartbeats 4000000 in
theorem numY5_any (m : Nat) (w : World) (hm : m ≤ 5) :
    Calls Try.prog 54 #[.string nm_descents, .int .i64 m] w (Made2 w (numK 5 m) true) := by
  have hf1 := (facN_pos m (by omega)).2
  go_enter Try.func54, Try.ntmps54
  go_wp2_with fail
  refine (counters_any _).mono ?_
  rintro e w1 ⟨b, rfl, C, b1⟩
  obtain ⟨x1, x2, x3, x4, hM, hx1, hx2, hx3, hx4⟩ := C.all
  have hsee := run_see (P := Try.prog) Try.underlying60 Try.underlying9 [(nm_inversions, .agg #[.func (.func 93) #[] #[]]), (nm_major, .agg #[.func (.func 94) #[] #[]]), (nm_denert, .agg #[.func (.func 95) #[] #[]]), (nm_crossings, .agg #[.func (.func 96) #[] #[]]), (nm_nestings, .agg #[.func (.func 97) #[] #[]])] [(nm_above, .agg #[.func (.func 114) #[] #[.pointer (some ⟨x2, 0, none⟩)]]), (nm_records, .agg #[.func (.func 114) #[] #[.pointer (some ⟨x3, 0, none⟩)]]), (nm_circles, .agg #[.func (.func 117) #[] #[.pointer (some ⟨x4, 0, none⟩)]])] nm_descents (.agg #[.func (.func 114) #[] #[.pointer (some ⟨x1, 0, none⟩)]]) hM (nm_new _ _ rfl)
  clear hM C
  have hW : Below w1.heap.size w1 ((w1.alloc (.cells #[.func (.func 114) #[] #[.pointer (some ⟨x1, 0, none⟩)]] 58)).alloc (.cells #[] 3)) := ((Below.refl w1.heap.size w1).alloc (Nat.le_refl _) _).alloc (by simp) _
  have hBx : Bx ((w1.alloc (.cells #[.func (.func 114) #[] #[.pointer (some ⟨x1, 0, none⟩)]] 58)).alloc (.cells #[] 3)) w1.heap.size 58 (.func (.func 114) #[] #[.pointer (some ⟨x1, 0, none⟩)]) := (Bx.new w1 _ _).alloc _
  have ho0 : Own ((w1.alloc (.cells #[.func (.func 114) #[] #[.pointer (some ⟨x1, 0, none⟩)]] 58)).alloc (.cells #[] 3)) (w1.heap.size + 1) (.slice (some ⟨w1.heap.size + 1, 0, none⟩) 0 0) [] := by
    have := own_lit (w1.alloc (.cells #[.func (.func 114) #[] #[.pointer (some ⟨x1, 0, none⟩)]] 58))
    simpa only [World.size_alloc] using this
  have hsz : ((w1.alloc (.cells #[.func (.func 114) #[] #[.pointer (some ⟨x1, 0, none⟩)]] 58)).alloc (.cells #[] 3)).heap.size = w1.heap.size + 2 := by simp
  have HB0 := hid hBx
  have Ho0 := hid ho0
  have Hsz := hid hsz
  clear hBx ho0 hsz
  go_wp2_with fail
  refine (allI_yes m _ hm).mono ?_
  rintro e w2 ⟨u2, rfl, o2, b2⟩
  have ho2 := Ho0.out.below (Nat.le_refl _) b2
  have hB2 := HB0.out.keep (b2.block _ HB0.out.lt)
  have hsz2 : w1.heap.size + 2 ≤ w2.heap.size := by have := b2.size; have := Hsz.out; omega
  rw [Hsz.out] at o2
  have HX : Hid (BoxAt w2 x1 99 54) := hid ((hx1.kept hW).kept b2)
  have HXl : Hid (x1 < w1.heap.size + 1) := hid (by have := hx1.lt; omega)
  have bw2 : Below w.heap.size w w2 := b1.trans ((hW.trans (b2.mono hW.size)).mono b1.size)
  have hw1 := b1.size
  obtain ⟨ad2, cp2, rfl, -⟩ := o2.sl
  rw [allK_len] at o2 ⊢
  have HO2 := hid o2
  have HB2 := hid hB2
  obtain ⟨s, hs⟩ : ∃ s, s = w1.heap.size := ⟨_, rfl⟩
  rw [← hs] at ho2 hsz2 HO2 HB2 hw1 HXl ⊢
  clear hx1 hx2 hx3 hx4
  clear hs hW b1 b2 o2 hB2 hsee HB0 Ho0 Hsz
  go_wp2
  go_loopw [8, 31] (fun v i wr => ∃ (j : Nat) (ao' : Option Addr) (cap' : Nat), j ≤ facN m ∧ v = .slice ao' j cap' ∧ i = .int .i64 j ∧ Hid (Chg (s + 1) (s + 2) w2 wr) ∧ Own wr (s + 1) (.slice ao' j cap') ((numK 5 m).take j) ∧ Hid (∀ q, (Value.slice ao' j cap').ownBlock = some q → q < s + 2 ∨ w2.heap.size ≤ q))
    (fun _ i _ => facN m - (intOf i).toNat)
  case atStart => exact ⟨0, _, _, Nat.zero_le _, rfl, rfl, hid (Chg.refl _ _ _), ho2, hid (fun q hq => by simp [Value.ownBlock] at hq; omega)⟩
  case round =>
    clear ho2
    obtain ⟨j, ao', cap', hj, rfl, rfl, HC, ho, HQ⟩ := hrel
    have hch := HC.out
    have hszr := hch.size
    have hxb := HX.out.keepc hch HXl.out
    by_cases hlt : j < facN m
    · have hji : (j : Int) < (facN m : Int) := by omega
      obtain ⟨b', off, rfl, hblt, hc⟩ := (ownL_read (HO2.out.chg hch (Or.inr (Nat.le_refl _)))).row (by omega)
      obtain ⟨ai, ci, hcell, hsi⟩ := hc j hlt
      rw [ell_allK hlt, ordK_len] at hcell hsi
      have hcf := (HB2.out.keep (hch.block _ HB2.out.lt (Or.inl (by omega)))).cell
      have hl : ((numK 5 m).take j).length ≤ 2000000 := by rw [List.length_take]; omega
      have Ht : Hid ((numK 5 m).take (j + 1) = (numK 5 m).take j ++ [valN (ordK m j) 5]) := hid (take_numK hlt)
      have Hhc := hid hch
      clear hc hch
      go_wp2_with fail
      refine (says_to (sz5_any x1 _ _ _ (ordK m j) _ hsi hxb) (congrArg (fun l => ((List.length l : Nat) : Int)) (onV_yes (ordK_valid (by omega) j)))).mono ?_
      rintro e w5 ⟨rfl, b5⟩
      have ho5 := ho.below (Nat.le_refl _) b5
      have hc5 := Hhc.out.trans (Chg.of_below (lo := s + 1) (hi := s + 2) b5)
      have hs5 : s + 1 ≤ w5.heap.size := by have := b5.size; omega
      have hl2 : w2.heap.size ≤ w5.heap.size := hc5.size
      have Hc5 := hid hc5
      clear hcell hsi hcf hc5 b5
      go_wp2_with (at_builtin; refine app_int2 _ _ rfl _ _ rfl (s + 1) _ _ rfl ho5 rfl hl hs5 ?_)
      intro u' w' ho' hg' hk'
      have HC' := hid (chg_app Hc5.out hg' (fun q hq => by have h1 := HQ.out q hq; have h2 := (ho5.blocks q hq).1; omega))
      replace ho' : Own w' (s + 1) u' ((numK 5 m).take j ++ [valN (ordK m j) 5]) := ho'
      rw [← Ht.out] at ho'
      obtain ⟨ao5, cp5, rfl, -⟩ := ho'.sl
      have hlt' : ((numK 5 m).take (j + 1)).length = j + 1 := by rw [List.length_take, numK_len]; omega
      rw [hlt'] at ho' hk' ⊢
      have HQ' : Hid (∀ q, (Value.slice ao5 (j + 1) cp5).ownBlock = some q → q < s + 2 ∨ w2.heap.size ≤ q) := hid (fun q hq => by
        rcases hk' with e | e
        · exact HQ.out q (e ▸ hq)
        · rw [e] at hq; have := Option.some.inj hq; omega)
      clear hlt' hk' hg' ho5 Hc5
      go_wp2
      go_roundw
      case rel => exact ⟨j + 1, _, _, by omega, rfl, by go_num, HC', ho', HQ'⟩
      case measure => simp [intOf]; omega
    · obtain rfl : j = facN m := by omega
      have ho2 : Own wr w.heap.size (.slice ao' (facN m) cap') (numK 5 m) := by
        rw [List.take_of_length_le (by rw [numK_len]; exact Nat.le_refl _)] at ho
        exact ho.mono (by omega)
      have Ho2 := hid ho2
      clear ho ho2
      go_wp2
      go_ret2
      exact ⟨_, rfl, Ho2.out, hch.below bw2 (by omega) bw2.size⟩

set_option maxRecDepth 20000 in
set_option maxHeartbeats 4000000 in
theorem numY6_any (m : Nat) (w : World) (hm : m ≤ 5) :
    Calls Try.prog 54 #[.string nm_above, .int .i64 m] w (Made2 w (numK 6 m) true) := by
  have hf1 := (facN_pos m (by omega)).2
  go_enter Try.func54, Try.ntmps54
  go_wp2_with fail
  refine (counters_any _).mono ?_
  rintro e w1 ⟨b, rfl, C, b1⟩
  obtain ⟨x1, x2, x3, x4, hM, hx1, hx2, hx3, hx4⟩ := C.all
  have hsee := run_see (P := Try.prog) Try.underlying60 Try.underlying9 [(nm_inversions, .agg #[.func (.func 93) #[] #[]]), (nm_major, .agg #[.func (.func 94) #[] #[]]), (nm_denert, .agg #[.func (.func 95) #[] #[]]), (nm_crossings, .agg #[.func (.func 96) #[] #[]]), (nm_nestings, .agg #[.func (.func 97) #[] #[]]), (nm_descents, .agg #[.func (.func 114) #[] #[.pointer (some ⟨x1, 0, none⟩)]])] [(nm_records, .agg #[.func (.func 114) #[] #[.pointer (some ⟨x3, 0, none⟩)]]), (nm_circles, .agg #[.func (.func 117) #[] #[.pointer (some ⟨x4, 0, none⟩)]])] nm_above (.agg #[.func (.func 114) #[] #[.pointer (some ⟨x2, 0, none⟩)]]) hM (nm_new _ _ rfl)
  clear hM C
  have hW : Below w1.heap.size w1 ((w1.alloc (.cells #[.func (.func 114) #[] #[.pointer (some ⟨x2, 0, none⟩)]] 58)).alloc (.cells #[] 3)) := ((Below.refl w1.heap.size w1).alloc (Nat.le_refl _) _).alloc (by simp) _
  have hBx : Bx ((w1.alloc (.cells #[.func (.func 114) #[] #[.pointer (some ⟨x2, 0, none⟩)]] 58)).alloc (.cells #[] 3)) w1.heap.size 58 (.func (.func 114) #[] #[.pointer (some ⟨x2, 0, none⟩)]) := (Bx.new w1 _ _).alloc _
  have ho0 : Own ((w1.alloc (.cells #[.func (.func 114) #[] #[.pointer (some ⟨x2, 0, none⟩)]] 58)).alloc (.cells #[] 3)) (w1.heap.size + 1) (.slice (some ⟨w1.heap.size + 1, 0, none⟩) 0 0) [] := by
    have := own_lit (w1.alloc (.cells #[.func (.func 114) #[] #[.pointer (some ⟨x2, 0, none⟩)]] 58))
    simpa only [World.size_alloc] using this
  have hsz : ((w1.alloc (.cells #[.func (.func 114) #[] #[.pointer (some ⟨x2, 0, none⟩)]] 58)).alloc (.cells #[] 3)).heap.size = w1.heap.size + 2 := by simp
  have HB0 := hid hBx
  have Ho0 := hid ho0
  have Hsz := hid hsz
  clear hBx ho0 hsz
  go_wp2_with fail
  refine (allI_yes m _ hm).mono ?_
  rintro e w2 ⟨u2, rfl, o2, b2⟩
  have ho2 := Ho0.out.below (Nat.le_refl _) b2
  have hB2 := HB0.out.keep (b2.block _ HB0.out.lt)
  have hsz2 : w1.heap.size + 2 ≤ w2.heap.size := by have := b2.size; have := Hsz.out; omega
  rw [Hsz.out] at o2
  have HX : Hid (BoxAt w2 x2 100 54) := hid ((hx2.kept hW).kept b2)
  have HXl : Hid (x2 < w1.heap.size + 1) := hid (by have := hx2.lt; omega)
  have bw2 : Below w.heap.size w w2 := b1.trans ((hW.trans (b2.mono hW.size)).mono b1.size)
  have hw1 := b1.size
  obtain ⟨ad2, cp2, rfl, -⟩ := o2.sl
  rw [allK_len] at o2 ⊢
  have HO2 := hid o2
  have HB2 := hid hB2
  obtain ⟨s, hs⟩ : ∃ s, s = w1.heap.size := ⟨_, rfl⟩
  rw [← hs] at ho2 hsz2 HO2 HB2 hw1 HXl ⊢
  clear hx1 hx2 hx3 hx4
  clear hs hW b1 b2 o2 hB2 hsee HB0 Ho0 Hsz
  go_wp2
  go_loopw [8, 31] (fun v i wr => ∃ (j : Nat) (ao' : Option Addr) (cap' : Nat), j ≤ facN m ∧ v = .slice ao' j cap' ∧ i = .int .i64 j ∧ Hid (Chg (s + 1) (s + 2) w2 wr) ∧ Own wr (s + 1) (.slice ao' j cap') ((numK 6 m).take j) ∧ Hid (∀ q, (Value.slice ao' j cap').ownBlock = some q → q < s + 2 ∨ w2.heap.size ≤ q))
    (fun _ i _ => facN m - (intOf i).toNat)
  case atStart => exact ⟨0, _, _, Nat.zero_le _, rfl, rfl, hid (Chg.refl _ _ _), ho2, hid (fun q hq => by simp [Value.ownBlock] at hq; omega)⟩
  case round =>
    clear ho2
    obtain ⟨j, ao', cap', hj, rfl, rfl, HC, ho, HQ⟩ := hrel
    have hch := HC.out
    have hszr := hch.size
    have hxb := HX.out.keepc hch HXl.out
    by_cases hlt : j < facN m
    · have hji : (j : Int) < (facN m : Int) := by omega
      obtain ⟨b', off, rfl, hblt, hc⟩ := (ownL_read (HO2.out.chg hch (Or.inr (Nat.le_refl _)))).row (by omega)
      obtain ⟨ai, ci, hcell, hsi⟩ := hc j hlt
      rw [ell_allK hlt, ordK_len] at hcell hsi
      have hcf := (HB2.out.keep (hch.block _ HB2.out.lt (Or.inl (by omega)))).cell
      have hl : ((numK 6 m).take j).length ≤ 2000000 := by rw [List.length_take]; omega
      have Ht : Hid ((numK 6 m).take (j + 1) = (numK 6 m).take j ++ [valN (ordK m j) 6]) := hid (take_numK hlt)
      have Hhc := hid hch
      clear hc hch
      go_wp2_with fail
      refine (says_to (sz6_any x2 _ _ _ (ordK m j) _ hsi hxb) (congrArg (fun l => ((List.length l : Nat) : Int)) (onV_yes (ordK_valid (by omega) j)))).mono ?_
      rintro e w5 ⟨rfl, b5⟩
      have ho5 := ho.below (Nat.le_refl _) b5
      have hc5 := Hhc.out.trans (Chg.of_below (lo := s + 1) (hi := s + 2) b5)
      have hs5 : s + 1 ≤ w5.heap.size := by have := b5.size; omega
      have hl2 : w2.heap.size ≤ w5.heap.size := hc5.size
      have Hc5 := hid hc5
      clear hcell hsi hcf hc5 b5
      go_wp2_with (at_builtin; refine app_int2 _ _ rfl _ _ rfl (s + 1) _ _ rfl ho5 rfl hl hs5 ?_)
      intro u' w' ho' hg' hk'
      have HC' := hid (chg_app Hc5.out hg' (fun q hq => by have h1 := HQ.out q hq; have h2 := (ho5.blocks q hq).1; omega))
      replace ho' : Own w' (s + 1) u' ((numK 6 m).take j ++ [valN (ordK m j) 6]) := ho'
      rw [← Ht.out] at ho'
      obtain ⟨ao5, cp5, rfl, -⟩ := ho'.sl
      have hlt' : ((numK 6 m).take (j + 1)).length = j + 1 := by rw [List.length_take, numK_len]; omega
      rw [hlt'] at ho' hk' ⊢
      have HQ' : Hid (∀ q, (Value.slice ao5 (j + 1) cp5).ownBlock = some q → q < s + 2 ∨ w2.heap.size ≤ q) := hid (fun q hq => by
        rcases hk' with e | e
        · exact HQ.out q (e ▸ hq)
        · rw [e] at hq; have := Option.some.inj hq; omega)
      clear hlt' hk' hg' ho5 Hc5
      go_wp2
      go_roundw
      case rel => exact ⟨j + 1, _, _, by omega, rfl, by go_num, HC', ho', HQ'⟩
      case measure => simp [intOf]; omega
    · obtain rfl : j = facN m := by omega
      have ho2 : Own wr w.heap.size (.slice ao' (facN m) cap') (numK 6 m) := by
        rw [List.take_of_length_le (by rw [numK_len]; exact Nat.le_refl _)] at ho
        exact ho.mono (by omega)
      have Ho2 := hid ho2
      clear ho ho2
      go_wp2
      go_ret2
      exact ⟨_, rfl, Ho2.out, hch.below bw2 (by omega) bw2.size⟩

set_option maxRecDepth 20000 in
set_option maxHeartbeats 4000000 in
theorem numY7_any (m : Nat) (w : World) (hm : m ≤ 5) :
    Calls Try.prog 54 #[.string nm_records, .int .i64 m] w (Made2 w (numK 7 m) true) := by
  have hf1 := (facN_pos m (by omega)).2
  go_enter Try.func54, Try.ntmps54
  go_wp2_with fail
  refine (counters_any _).mono ?_
  rintro e w1 ⟨b, rfl, C, b1⟩
  obtain ⟨x1, x2, x3, x4, hM, hx1, hx2, hx3, hx4⟩ := C.all
  have hsee := run_see (P := Try.prog) Try.underlying60 Try.underlying9 [(nm_inversions, .agg #[.func (.func 93) #[] #[]]), (nm_major, .agg #[.func (.func 94) #[] #[]]), (nm_denert, .agg #[.func (.func 95) #[] #[]]), (nm_crossings, .agg #[.func (.func 96) #[] #[]]), (nm_nestings, .agg #[.func (.func 97) #[] #[]]), (nm_descents, .agg #[.func (.func 114) #[] #[.pointer (some ⟨x1, 0, none⟩)]]), (nm_above, .agg #[.func (.func 114) #[] #[.pointer (some ⟨x2, 0, none⟩)]])] [(nm_circles, .agg #[.func (.func 117) #[] #[.pointer (some ⟨x4, 0, none⟩)]])] nm_records (.agg #[.func (.func 114) #[] #[.pointer (some ⟨x3, 0, none⟩)]]) hM (nm_new _ _ rfl)
  clear hM C
  have hW : Below w1.heap.size w1 ((w1.alloc (.cells #[.func (.func 114) #[] #[.pointer (some ⟨x3, 0, none⟩)]] 58)).alloc (.cells #[] 3)) := ((Below.refl w1.heap.size w1).alloc (Nat.le_refl _) _).alloc (by simp) _
  have hBx : Bx ((w1.alloc (.cells #[.func (.func 114) #[] #[.pointer (some ⟨x3, 0, none⟩)]] 58)).alloc (.cells #[] 3)) w1.heap.size 58 (.func (.func 114) #[] #[.pointer (some ⟨x3, 0, none⟩)]) := (Bx.new w1 _ _).alloc _
  have ho0 : Own ((w1.alloc (.cells #[.func (.func 114) #[] #[.pointer (some ⟨x3, 0, none⟩)]] 58)).alloc (.cells #[] 3)) (w1.heap.size + 1) (.slice (some ⟨w1.heap.size + 1, 0, none⟩) 0 0) [] := by
    have := own_lit (w1.alloc (.cells #[.func (.func 114) #[] #[.pointer (some ⟨x3, 0, none⟩)]] 58))
    simpa only [World.size_alloc] using this
  have hsz : ((w1.alloc (.cells #[.func (.func 114) #[] #[.pointer (some ⟨x3, 0, none⟩)]] 58)).alloc (.cells #[] 3)).heap.size = w1.heap.size + 2 := by simp
  have HB0 := hid hBx
  have Ho0 := hid ho0
  have Hsz := hid hsz
  clear hBx ho0 hsz
  go_wp2_with fail
  refine (allI_yes m _ hm).mono ?_
  rintro e w2 ⟨u2, rfl, o2, b2⟩
  have ho2 := Ho0.out.below (Nat.le_refl _) b2
  have hB2 := HB0.out.keep (b2.block _ HB0.out.lt)
  have hsz2 : w1.heap.size + 2 ≤ w2.heap.size := by have := b2.size; have := Hsz.out; omega
  rw [Hsz.out] at o2
  have HX : Hid (BoxAt w2 x3 101 54) := hid ((hx3.kept hW).kept b2)
  have HXl : Hid (x3 < w1.heap.size + 1) := hid (by have := hx3.lt; omega)
  have bw2 : Below w.heap.size w w2 := b1.trans ((hW.trans (b2.mono hW.size)).mono b1.size)
  have hw1 := b1.size
  obtain ⟨ad2, cp2, rfl, -⟩ := o2.sl
  rw [allK_len] at o2 ⊢
  have HO2 := hid o2
  have HB2 := hid hB2
  obtain ⟨s, hs⟩ : ∃ s, s = w1.heap.size := ⟨_, rfl⟩
  rw [← hs] at ho2 hsz2 HO2 HB2 hw1 HXl ⊢
  clear hx1 hx2 hx3 hx4
  clear hs hW b1 b2 o2 hB2 hsee HB0 Ho0 Hsz
  go_wp2
  go_loopw [8, 31] (fun v i wr => ∃ (j : Nat) (ao' : Option Addr) (cap' : Nat), j ≤ facN m ∧ v = .slice ao' j cap' ∧ i = .int .i64 j ∧ Hid (Chg (s + 1) (s + 2) w2 wr) ∧ Own wr (s + 1) (.slice ao' j cap') ((numK 7 m).take j) ∧ Hid (∀ q, (Value.slice ao' j cap').ownBlock = some q → q < s + 2 ∨ w2.heap.size ≤ q))
    (fun _ i _ => facN m - (intOf i).toNat)
  case atStart => exact ⟨0, _, _, Nat.zero_le _, rfl, rfl, hid (Chg.refl _ _ _), ho2, hid (fun q hq => by simp [Value.ownBlock] at hq; omega)⟩
  case round =>
    clear ho2
    obtain ⟨j, ao', cap', hj, rfl, rfl, HC, ho, HQ⟩ := hrel
    have hch := HC.out
    have hszr := hch.size
    have hxb := HX.out.keepc hch HXl.out
    by_cases hlt : j < facN m
    · have hji : (j : Int) < (facN m : Int) := by omega
      obtain ⟨b', off, rfl, hblt, hc⟩ := (ownL_read (HO2.out.chg hch (Or.inr (Nat.le_refl _)))).row (by omega)
      obtain ⟨ai, ci, hcell, hsi⟩ := hc j hlt
      rw [ell_allK hlt, ordK_len] at hcell hsi
      have hcf := (HB2.out.keep (hch.block _ HB2.out.lt (Or.inl (by omega)))).cell
      have hl : ((numK 7 m).take j).length ≤ 2000000 := by rw [List.length_take]; omega
      have Ht : Hid ((numK 7 m).take (j + 1) = (numK 7 m).take j ++ [valN (ordK m j) 7]) := hid (take_numK hlt)
      have Hhc := hid hch
      clear hc hch
      go_wp2_with fail
      refine (says_to (sz7_any x3 _ _ _ (ordK m j) _ hsi hxb) (congrArg (fun l => ((List.length l : Nat) : Int)) (onV_yes (ordK_valid (by omega) j)))).mono ?_
      rintro e w5 ⟨rfl, b5⟩
      have ho5 := ho.below (Nat.le_refl _) b5
      have hc5 := Hhc.out.trans (Chg.of_below (lo := s + 1) (hi := s + 2) b5)
      have hs5 : s + 1 ≤ w5.heap.size := by have := b5.size; omega
      have hl2 : w2.heap.size ≤ w5.heap.size := hc5.size
      have Hc5 := hid hc5
      clear hcell hsi hcf hc5 b5
      go_wp2_with (at_builtin; refine app_int2 _ _ rfl _ _ rfl (s + 1) _ _ rfl ho5 rfl hl hs5 ?_)
      intro u' w' ho' hg' hk'
      have HC' := hid (chg_app Hc5.out hg' (fun q hq => by have h1 := HQ.out q hq; have h2 := (ho5.blocks q hq).1; omega))
      replace ho' : Own w' (s + 1) u' ((numK 7 m).take j ++ [valN (ordK m j) 7]) := ho'
      rw [← Ht.out] at ho'
      obtain ⟨ao5, cp5, rfl, -⟩ := ho'.sl
      have hlt' : ((numK 7 m).take (j + 1)).length = j + 1 := by rw [List.length_take, numK_len]; omega
      rw [hlt'] at ho' hk' ⊢
      have HQ' : Hid (∀ q, (Value.slice ao5 (j + 1) cp5).ownBlock = some q → q < s + 2 ∨ w2.heap.size ≤ q) := hid (fun q hq => by
        rcases hk' with e | e
        · exact HQ.out q (e ▸ hq)
        · rw [e] at hq; have := Option.some.inj hq; omega)
      clear hlt' hk' hg' ho5 Hc5
      go_wp2
      go_roundw
      case rel => exact ⟨j + 1, _, _, by omega, rfl, by go_num, HC', ho', HQ'⟩
      case measure => simp [intOf]; omega
    · obtain rfl : j = facN m := by omega
      have ho2 : Own wr w.heap.size (.slice ao' (facN m) cap') (numK 7 m) := by
        rw [List.take_of_length_le (by rw [numK_len]; exact Nat.le_refl _)] at ho
        exact ho.mono (by omega)
      have Ho2 := hid ho2
      clear ho ho2
      go_wp2
      go_ret2
      exact ⟨_, rfl, Ho2.out, hch.below bw2 (by omega) bw2.size⟩

set_option maxRecDepth 20000 in
set_option maxHeartbeats 4000000 in
theorem numY8_any (m : Nat) (w : World) (hm : m ≤ 5) :
    Calls Try.prog 54 #[.string nm_circles, .int .i64 m] w (Made2 w (numK 8 m) true) := by
  have hf1 := (facN_pos m (by omega)).2
  go_enter Try.func54, Try.ntmps54
  go_wp2_with fail
  refine (counters_any _).mono ?_
  rintro e w1 ⟨b, rfl, C, b1⟩
  obtain ⟨x1, x2, x3, x4, hM, hx1, hx2, hx3, hx4⟩ := C.all
  have hsee := run_see (P := Try.prog) Try.underlying60 Try.underlying9 [(nm_inversions, .agg #[.func (.func 93) #[] #[]]), (nm_major, .agg #[.func (.func 94) #[] #[]]), (nm_denert, .agg #[.func (.func 95) #[] #[]]), (nm_crossings, .agg #[.func (.func 96) #[] #[]]), (nm_nestings, .agg #[.func (.func 97) #[] #[]]), (nm_descents, .agg #[.func (.func 114) #[] #[.pointer (some ⟨x1, 0, none⟩)]]), (nm_above, .agg #[.func (.func 114) #[] #[.pointer (some ⟨x2, 0, none⟩)]]), (nm_records, .agg #[.func (.func 114) #[] #[.pointer (some ⟨x3, 0, none⟩)]])] [] nm_circles (.agg #[.func (.func 117) #[] #[.pointer (some ⟨x4, 0, none⟩)]]) hM (nm_new _ _ rfl)
  clear hM C
  have hW : Below w1.heap.size w1 ((w1.alloc (.cells #[.func (.func 117) #[] #[.pointer (some ⟨x4, 0, none⟩)]] 58)).alloc (.cells #[] 3)) := ((Below.refl w1.heap.size w1).alloc (Nat.le_refl _) _).alloc (by simp) _
  have hBx : Bx ((w1.alloc (.cells #[.func (.func 117) #[] #[.pointer (some ⟨x4, 0, none⟩)]] 58)).alloc (.cells #[] 3)) w1.heap.size 58 (.func (.func 117) #[] #[.pointer (some ⟨x4, 0, none⟩)]) := (Bx.new w1 _ _).alloc _
  have ho0 : Own ((w1.alloc (.cells #[.func (.func 117) #[] #[.pointer (some ⟨x4, 0, none⟩)]] 58)).alloc (.cells #[] 3)) (w1.heap.size + 1) (.slice (some ⟨w1.heap.size + 1, 0, none⟩) 0 0) [] := by
    have := own_lit (w1.alloc (.cells #[.func (.func 117) #[] #[.pointer (some ⟨x4, 0, none⟩)]] 58))
    simpa only [World.size_alloc] using this
  have hsz : ((w1.alloc (.cells #[.func (.func 117) #[] #[.pointer (some ⟨x4, 0, none⟩)]] 58)).alloc (.cells #[] 3)).heap.size = w1.heap.size + 2 := by simp
  have HB0 := hid hBx
  have Ho0 := hid ho0
  have Hsz := hid hsz
  clear hBx ho0 hsz
  go_wp2_with fail
  refine (allI_yes m _ hm).mono ?_
  rintro e w2 ⟨u2, rfl, o2, b2⟩
  have ho2 := Ho0.out.below (Nat.le_refl _) b2
  have hB2 := HB0.out.keep (b2.block _ HB0.out.lt)
  have hsz2 : w1.heap.size + 2 ≤ w2.heap.size := by have := b2.size; have := Hsz.out; omega
  rw [Hsz.out] at o2
  have HX : Hid (BoxAt w2 x4 103 83) := hid ((hx4.kept hW).kept b2)
  have HXl : Hid (x4 < w1.heap.size + 1) := hid (by have := hx4.lt; omega)
  have bw2 : Below w.heap.size w w2 := b1.trans ((hW.trans (b2.mono hW.size)).mono b1.size)
  have hw1 := b1.size
  obtain ⟨ad2, cp2, rfl, -⟩ := o2.sl
  rw [allK_len] at o2 ⊢
  have HO2 := hid o2
  have HB2 := hid hB2
  obtain ⟨s, hs⟩ : ∃ s, s = w1.heap.size := ⟨_, rfl⟩
  rw [← hs] at ho2 hsz2 HO2 HB2 hw1 HXl ⊢
  clear hx1 hx2 hx3 hx4
  clear hs hW b1 b2 o2 hB2 hsee HB0 Ho0 Hsz
  go_wp2
  go_loopw [8, 31] (fun v i wr => ∃ (j : Nat) (ao' : Option Addr) (cap' : Nat), j ≤ facN m ∧ v = .slice ao' j cap' ∧ i = .int .i64 j ∧ Hid (Chg (s + 1) (s + 2) w2 wr) ∧ Own wr (s + 1) (.slice ao' j cap') ((numK 8 m).take j) ∧ Hid (∀ q, (Value.slice ao' j cap').ownBlock = some q → q < s + 2 ∨ w2.heap.size ≤ q))
    (fun _ i _ => facN m - (intOf i).toNat)
  case atStart => exact ⟨0, _, _, Nat.zero_le _, rfl, rfl, hid (Chg.refl _ _ _), ho2, hid (fun q hq => by simp [Value.ownBlock] at hq; omega)⟩
  case round =>
    clear ho2
    obtain ⟨j, ao', cap', hj, rfl, rfl, HC, ho, HQ⟩ := hrel
    have hch := HC.out
    have hszr := hch.size
    have hxb := HX.out.keepc hch HXl.out
    by_cases hlt : j < facN m
    · have hji : (j : Int) < (facN m : Int) := by omega
      obtain ⟨b', off, rfl, hblt, hc⟩ := (ownL_read (HO2.out.chg hch (Or.inr (Nat.le_refl _)))).row (by omega)
      obtain ⟨ai, ci, hcell, hsi⟩ := hc j hlt
      rw [ell_allK hlt, ordK_len] at hcell hsi
      have hcf := (HB2.out.keep (hch.block _ HB2.out.lt (Or.inl (by omega)))).cell
      have hl : ((numK 8 m).take j).length ≤ 2000000 := by rw [List.length_take]; omega
      have Ht : Hid ((numK 8 m).take (j + 1) = (numK 8 m).take j ++ [valN (ordK m j) 8]) := hid (take_numK hlt)
      have Hhc := hid hch
      clear hc hch
      go_wp2_with fail
      refine (says_to (sz8_any x4 _ _ _ (ordK m j) _ hsi hxb) (congrArg (fun l => ((List.length l : Nat) : Int)) (onVL_yes (ordK_valid (by omega) j)))).mono ?_
      rintro e w5 ⟨rfl, b5⟩
      have ho5 := ho.below (Nat.le_refl _) b5
      have hc5 := Hhc.out.trans (Chg.of_below (lo := s + 1) (hi := s + 2) b5)
      have hs5 : s + 1 ≤ w5.heap.size := by have := b5.size; omega
      have hl2 : w2.heap.size ≤ w5.heap.size := hc5.size
      have Hc5 := hid hc5
      clear hcell hsi hcf hc5 b5
      go_wp2_with (at_builtin; refine app_int2 _ _ rfl _ _ rfl (s + 1) _ _ rfl ho5 rfl hl hs5 ?_)
      intro u' w' ho' hg' hk'
      have HC' := hid (chg_app Hc5.out hg' (fun q hq => by have h1 := HQ.out q hq; have h2 := (ho5.blocks q hq).1; omega))
      replace ho' : Own w' (s + 1) u' ((numK 8 m).take j ++ [valN (ordK m j) 8]) := ho'
      rw [← Ht.out] at ho'
      obtain ⟨ao5, cp5, rfl, -⟩ := ho'.sl
      have hlt' : ((numK 8 m).take (j + 1)).length = j + 1 := by rw [List.length_take, numK_len]; omega
      rw [hlt'] at ho' hk' ⊢
      have HQ' : Hid (∀ q, (Value.slice ao5 (j + 1) cp5).ownBlock = some q → q < s + 2 ∨ w2.heap.size ≤ q) := hid (fun q hq => by
        rcases hk' with e | e
        · exact HQ.out q (e ▸ hq)
        · rw [e] at hq; have := Option.some.inj hq; omega)
      clear hlt' hk' hg' ho5 Hc5
      go_wp2
      go_roundw
      case rel => exact ⟨j + 1, _, _, by omega, rfl, by go_num, HC', ho', HQ'⟩
      case measure => simp [intOf]; omega
    · obtain rfl : j = facN m := by omega
      have ho2 : Own wr w.heap.size (.slice ao' (facN m) cap') (numK 8 m) := by
        rw [List.take_of_length_le (by rw [numK_len]; exact Nat.le_refl _)] at ho
        exact ho.mono (by omega)
      have Ho2 := hid ho2
      clear ho ho2
      go_wp2
      go_ret2
      exact ⟨_, rfl, Ho2.out, hch.below bw2 (by omega) bw2.size⟩

set_option maxRecDepth 20000 in
set_option maxHeartbeats 4000000 in
theorem numN0_any (m : Int) (w : World) (hm : m < 0 ∨ 5 < m) :
    Calls Try.prog 54 #[.string nm_inversions, .int .i64 m] w (Made2 w [] false) := by
  go_enter Try.func54, Try.ntmps54
  go_wp2_with fail
  refine (counters_any _).mono ?_
  rintro e w1 ⟨b, rfl, C, b1⟩
  obtain ⟨x1, x2, x3, x4, hM, hx1, hx2, hx3, hx4⟩ := C.all
  have hsee := run_see (P := Try.prog) Try.underlying60 Try.underlying9 [] [(nm_major, .agg #[.func (.func 94) #[] #[]]), (nm_denert, .agg #[.func (.func 95) #[] #[]]), (nm_crossings, .agg #[.func (.func 96) #[] #[]]), (nm_nestings, .agg #[.func (.func 97) #[] #[]]), (nm_descents, .agg #[.func (.func 114) #[] #[.pointer (some ⟨x1, 0, none⟩)]]), (nm_above, .agg #[.func (.func 114) #[] #[.pointer (some ⟨x2, 0, none⟩)]]), (nm_records, .agg #[.func (.func 114) #[] #[.pointer (some ⟨x3, 0, none⟩)]]), (nm_circles, .agg #[.func (.func 117) #[] #[.pointer (some ⟨x4, 0, none⟩)]])] nm_inversions (.agg #[.func (.func 93) #[] #[]]) hM (nm_new _ _ rfl)
  clear hM C
  have hW : Below w1.heap.size w1 (w1.alloc (.cells #[.func (.func 93) #[] #[]] 58)) := (Below.refl w1.heap.size w1).alloc (Nat.le_refl _) _
  by_cases h0 : m < 0
  · go_wp2
    go_ret2
    exact ⟨_, rfl, Own.nil, b1.trans (hW.mono b1.size)⟩
  · have h5 : 5 < m := by omega
    go_wp2
    go_ret2
    exact ⟨_, rfl, Own.nil, b1.trans (hW.mono b1.size)⟩

set_option maxRecDepth 20000 in
set_option maxHeartbeats 4000000 in
theorem numN1_any (m : Int) (w : World) (hm : m < 0 ∨ 5 < m) :
    Calls Try.prog 54 #[.string nm_major, .int .i64 m] w (Made2 w [] false) := by
  go_enter Try.func54, Try.ntmps54
  go_wp2_with fail
  refine (counters_any _).mono ?_
  rintro e w1 ⟨b, rfl, C, b1⟩
  obtain ⟨x1, x2, x3, x4, hM, hx1, hx2, hx3, hx4⟩ := C.all
  have hsee := run_see (P := Try.prog) Try.underlying60 Try.underlying9 [(nm_inversions, .agg #[.func (.func 93) #[] #[]])] [(nm_denert, .agg #[.func (.func 95) #[] #[]]), (nm_crossings, .agg #[.func (.func 96) #[] #[]]), (nm_nestings, .agg #[.func (.func 97) #[] #[]]), (nm_descents, .agg #[.func (.func 114) #[] #[.pointer (some ⟨x1, 0, none⟩)]]), (nm_above, .agg #[.func (.func 114) #[] #[.pointer (some ⟨x2, 0, none⟩)]]), (nm_records, .agg #[.func (.func 114) #[] #[.pointer (some ⟨x3, 0, none⟩)]]), (nm_circles, .agg #[.func (.func 117) #[] #[.pointer (some ⟨x4, 0, none⟩)]])] nm_major (.agg #[.func (.func 94) #[] #[]]) hM (nm_new _ _ rfl)
  clear hM C
  have hW : Below w1.heap.size w1 (w1.alloc (.cells #[.func (.func 94) #[] #[]] 58)) := (Below.refl w1.heap.size w1).alloc (Nat.le_refl _) _
  by_cases h0 : m < 0
  · go_wp2
    go_ret2
    exact ⟨_, rfl, Own.nil, b1.trans (hW.mono b1.size)⟩
  · have h5 : 5 < m := by omega
    go_wp2
    go_ret2
    exact ⟨_, rfl, Own.nil, b1.trans (hW.mono b1.size)⟩

set_option maxRecDepth 20000 in
set_option maxHeartbeats 4000000 in
theorem numN2_any (m : Int) (w : World) (hm : m < 0 ∨ 5 < m) :
    Calls Try.prog 54 #[.string nm_denert, .int .i64 m] w (Made2 w [] false) := by
  go_enter Try.func54, Try.ntmps54
  go_wp2_with fail
  refine (counters_any _).mono ?_
  rintro e w1 ⟨b, rfl, C, b1⟩
  obtain ⟨x1, x2, x3, x4, hM, hx1, hx2, hx3, hx4⟩ := C.all
  have hsee := run_see (P := Try.prog) Try.underlying60 Try.underlying9 [(nm_inversions, .agg #[.func (.func 93) #[] #[]]), (nm_major, .agg #[.func (.func 94) #[] #[]])] [(nm_crossings, .agg #[.func (.func 96) #[] #[]]), (nm_nestings, .agg #[.func (.func 97) #[] #[]]), (nm_descents, .agg #[.func (.func 114) #[] #[.pointer (some ⟨x1, 0, none⟩)]]), (nm_above, .agg #[.func (.func 114) #[] #[.pointer (some ⟨x2, 0, none⟩)]]), (nm_records, .agg #[.func (.func 114) #[] #[.pointer (some ⟨x3, 0, none⟩)]]), (nm_circles, .agg #[.func (.func 117) #[] #[.pointer (some ⟨x4, 0, none⟩)]])] nm_denert (.agg #[.func (.func 95) #[] #[]]) hM (nm_new _ _ rfl)
  clear hM C
  have hW : Below w1.heap.size w1 (w1.alloc (.cells #[.func (.func 95) #[] #[]] 58)) := (Below.refl w1.heap.size w1).alloc (Nat.le_refl _) _
  by_cases h0 : m < 0
  · go_wp2
    go_ret2
    exact ⟨_, rfl, Own.nil, b1.trans (hW.mono b1.size)⟩
  · have h5 : 5 < m := by omega
    go_wp2
    go_ret2
    exact ⟨_, rfl, Own.nil, b1.trans (hW.mono b1.size)⟩

set_option maxRecDepth 20000 in
set_option maxHeartbeats 4000000 in
theorem numN3_any (m : Int) (w : World) (hm : m < 0 ∨ 5 < m) :
    Calls Try.prog 54 #[.string nm_crossings, .int .i64 m] w (Made2 w [] false) := by
  go_enter Try.func54, Try.ntmps54
  go_wp2_with fail
  refine (counters_any _).mono ?_
  rintro e w1 ⟨b, rfl, C, b1⟩
  obtain ⟨x1, x2, x3, x4, hM, hx1, hx2, hx3, hx4⟩ := C.all
  have hsee := run_see (P := Try.prog) Try.underlying60 Try.underlying9 [(nm_inversions, .agg #[.func (.func 93) #[] #[]]), (nm_major, .agg #[.func (.func 94) #[] #[]]), (nm_denert, .agg #[.func (.func 95) #[] #[]])] [(nm_nestings, .agg #[.func (.func 97) #[] #[]]), (nm_descents, .agg #[.func (.func 114) #[] #[.pointer (some ⟨x1, 0, none⟩)]]), (nm_above, .agg #[.func (.func 114) #[] #[.pointer (some ⟨x2, 0, none⟩)]]), (nm_records, .agg #[.func (.func 114) #[] #[.pointer (some ⟨x3, 0, none⟩)]]), (nm_circles, .agg #[.func (.func 117) #[] #[.pointer (some ⟨x4, 0, none⟩)]])] nm_crossings (.agg #[.func (.func 96) #[] #[]]) hM (nm_new _ _ rfl)
  clear hM C
  have hW : Below w1.heap.size w1 (w1.alloc (.cells #[.func (.func 96) #[] #[]] 58)) := (Below.refl w1.heap.size w1).alloc (Nat.le_refl _) _
  by_cases h0 : m < 0
  · go_wp2
    go_ret2
    exact ⟨_, rfl, Own.nil, b1.trans (hW.mono b1.size)⟩
  · have h5 : 5 < m := by omega
    go_wp2
    go_ret2
    exact ⟨_, rfl, Own.nil, b1.trans (hW.mono b1.size)⟩

set_option maxRecDepth 20000 in
set_option maxHeartbeats 4000000 in
theorem numN4_any (m : Int) (w : World) (hm : m < 0 ∨ 5 < m) :
    Calls Try.prog 54 #[.string nm_nestings, .int .i64 m] w (Made2 w [] false) := by
  go_enter Try.func54, Try.ntmps54
  go_wp2_with fail
  refine (counters_any _).mono ?_
  rintro e w1 ⟨b, rfl, C, b1⟩
  obtain ⟨x1, x2, x3, x4, hM, hx1, hx2, hx3, hx4⟩ := C.all
  have hsee := run_see (P := Try.prog) Try.underlying60 Try.underlying9 [(nm_inversions, .agg #[.func (.func 93) #[] #[]]), (nm_major, .agg #[.func (.func 94) #[] #[]]), (nm_denert, .agg #[.func (.func 95) #[] #[]]), (nm_crossings, .agg #[.func (.func 96) #[] #[]])] [(nm_descents, .agg #[.func (.func 114) #[] #[.pointer (some ⟨x1, 0, none⟩)]]), (nm_above, .agg #[.func (.func 114) #[] #[.pointer (some ⟨x2, 0, none⟩)]]), (nm_records, .agg #[.func (.func 114) #[] #[.pointer (some ⟨x3, 0, none⟩)]]), (nm_circles, .agg #[.func (.func 117) #[] #[.pointer (some ⟨x4, 0, none⟩)]])] nm_nestings (.agg #[.func (.func 97) #[] #[]]) hM (nm_new _ _ rfl)
  clear hM C
  have hW : Below w1.heap.size w1 (w1.alloc (.cells #[.func (.func 97) #[] #[]] 58)) := (Below.refl w1.heap.size w1).alloc (Nat.le_refl _) _
  by_cases h0 : m < 0
  · go_wp2
    go_ret2
    exact ⟨_, rfl, Own.nil, b1.trans (hW.mono b1.size)⟩
  · have h5 : 5 < m := by omega
    go_wp2
    go_ret2
    exact ⟨_, rfl, Own.nil, b1.trans (hW.mono b1.size)⟩

set_option maxRecDepth 20000 in
set_option maxHeartbeats 4000000 in
theorem numN5_any (m : Int) (w : World) (hm : m < 0 ∨ 5 < m) :
    Calls Try.prog 54 #[.string nm_descents, .int .i64 m] w (Made2 w [] false) := by
  go_enter Try.func54, Try.ntmps54
  go_wp2_with fail
  refine (counters_any _).mono ?_
  rintro e w1 ⟨b, rfl, C, b1⟩
  obtain ⟨x1, x2, x3, x4, hM, hx1, hx2, hx3, hx4⟩ := C.all
  have hsee := run_see (P := Try.prog) Try.underlying60 Try.underlying9 [(nm_inversions, .agg #[.func (.func 93) #[] #[]]), (nm_major, .agg #[.func (.func 94) #[] #[]]), (nm_denert, .agg #[.func (.func 95) #[] #[]]), (nm_crossings, .agg #[.func (.func 96) #[] #[]]), (nm_nestings, .agg #[.func (.func 97) #[] #[]])] [(nm_above, .agg #[.func (.func 114) #[] #[.pointer (some ⟨x2, 0, none⟩)]]), (nm_records, .agg #[.func (.func 114) #[] #[.pointer (some ⟨x3, 0, none⟩)]]), (nm_circles, .agg #[.func (.func 117) #[] #[.pointer (some ⟨x4, 0, none⟩)]])] nm_descents (.agg #[.func (.func 114) #[] #[.pointer (some ⟨x1, 0, none⟩)]]) hM (nm_new _ _ rfl)
  clear hM C
  have hW : Below w1.heap.size w1 (w1.alloc (.cells #[.func (.func 114) #[] #[.pointer (some ⟨x1, 0, none⟩)]] 58)) := (Below.refl w1.heap.size w1).alloc (Nat.le_refl _) _
  by_cases h0 : m < 0
  · go_wp2
    go_ret2
    exact ⟨_, rfl, Own.nil, b1.trans (hW.mono b1.size)⟩
  · have h5 : 5 < m := by omega
    go_wp2
    go_ret2
    exact ⟨_, rfl, Own.nil, b1.trans (hW.mono b1.size)⟩

set_option maxRecDepth 20000 in
set_option maxHeartbeats 4000000 in
theorem numN6_any (m : Int) (w : World) (hm : m < 0 ∨ 5 < m) :
    Calls Try.prog 54 #[.string nm_above, .int .i64 m] w (Made2 w [] false) := by
  go_enter Try.func54, Try.ntmps54
  go_wp2_with fail
  refine (counters_any _).mono ?_
  rintro e w1 ⟨b, rfl, C, b1⟩
  obtain ⟨x1, x2, x3, x4, hM, hx1, hx2, hx3, hx4⟩ := C.all
  have hsee := run_see (P := Try.prog) Try.underlying60 Try.underlying9 [(nm_inversions, .agg #[.func (.func 93) #[] #[]]), (nm_major, .agg #[.func (.func 94) #[] #[]]), (nm_denert, .agg #[.func (.func 95) #[] #[]]), (nm_crossings, .agg #[.func (.func 96) #[] #[]]), (nm_nestings, .agg #[.func (.func 97) #[] #[]]), (nm_descents, .agg #[.func (.func 114) #[] #[.pointer (some ⟨x1, 0, none⟩)]])] [(nm_records, .agg #[.func (.func 114) #[] #[.pointer (some ⟨x3, 0, none⟩)]]), (nm_circles, .agg #[.func (.func 117) #[] #[.pointer (some ⟨x4, 0, none⟩)]])] nm_above (.agg #[.func (.func 114) #[] #[.pointer (some ⟨x2, 0, none⟩)]]) hM (nm_new _ _ rfl)
  clear hM C
  have hW : Below w1.heap.size w1 (w1.alloc (.cells #[.func (.func 114) #[] #[.pointer (some ⟨x2, 0, none⟩)]] 58)) := (Below.refl w1.heap.size w1).alloc (Nat.le_refl _) _
  by_cases h0 : m < 0
  · go_wp2
    go_ret2
    exact ⟨_, rfl, Own.nil, b1.trans (hW.mono b1.size)⟩
  · have h5 : 5 < m := by omega
    go_wp2
    go_ret2
    exact ⟨_, rfl, Own.nil, b1.trans (hW.mono b1.size)⟩

set_option maxRecDepth 20000 in
set_option maxHeartbeats 4000000 in
theorem numN7_any (m : Int) (w : World) (hm : m < 0 ∨ 5 < m) :
    Calls Try.prog 54 #[.string nm_records, .int .i64 m] w (Made2 w [] false) := by
  go_enter Try.func54, Try.ntmps54
  go_wp2_with fail
  refine (counters_any _).mono ?_
  rintro e w1 ⟨b, rfl, C, b1⟩
  obtain ⟨x1, x2, x3, x4, hM, hx1, hx2, hx3, hx4⟩ := C.all
  have hsee := run_see (P := Try.prog) Try.underlying60 Try.underlying9 [(nm_inversions, .agg #[.func (.func 93) #[] #[]]), (nm_major, .agg #[.func (.func 94) #[] #[]]), (nm_denert, .agg #[.func (.func 95) #[] #[]]), (nm_crossings, .agg #[.func (.func 96) #[] #[]]), (nm_nestings, .agg #[.func (.func 97) #[] #[]]), (nm_descents, .agg #[.func (.func 114) #[] #[.pointer (some ⟨x1, 0, none⟩)]]), (nm_above, .agg #[.func (.func 114) #[] #[.pointer (some ⟨x2, 0, none⟩)]])] [(nm_circles, .agg #[.func (.func 117) #[] #[.pointer (some ⟨x4, 0, none⟩)]])] nm_records (.agg #[.func (.func 114) #[] #[.pointer (some ⟨x3, 0, none⟩)]]) hM (nm_new _ _ rfl)
  clear hM C
  have hW : Below w1.heap.size w1 (w1.alloc (.cells #[.func (.func 114) #[] #[.pointer (some ⟨x3, 0, none⟩)]] 58)) := (Below.refl w1.heap.size w1).alloc (Nat.le_refl _) _
  by_cases h0 : m < 0
  · go_wp2
    go_ret2
    exact ⟨_, rfl, Own.nil, b1.trans (hW.mono b1.size)⟩
  · have h5 : 5 < m := by omega
    go_wp2
    go_ret2
    exact ⟨_, rfl, Own.nil, b1.trans (hW.mono b1.size)⟩

set_option maxRecDepth 20000 in
set_option maxHeartbeats 4000000 in
theorem numN8_any (m : Int) (w : World) (hm : m < 0 ∨ 5 < m) :
    Calls Try.prog 54 #[.string nm_circles, .int .i64 m] w (Made2 w [] false) := by
  go_enter Try.func54, Try.ntmps54
  go_wp2_with fail
  refine (counters_any _).mono ?_
  rintro e w1 ⟨b, rfl, C, b1⟩
  obtain ⟨x1, x2, x3, x4, hM, hx1, hx2, hx3, hx4⟩ := C.all
  have hsee := run_see (P := Try.prog) Try.underlying60 Try.underlying9 [(nm_inversions, .agg #[.func (.func 93) #[] #[]]), (nm_major, .agg #[.func (.func 94) #[] #[]]), (nm_denert, .agg #[.func (.func 95) #[] #[]]), (nm_crossings, .agg #[.func (.func 96) #[] #[]]), (nm_nestings, .agg #[.func (.func 97) #[] #[]]), (nm_descents, .agg #[.func (.func 114) #[] #[.pointer (some ⟨x1, 0, none⟩)]]), (nm_above, .agg #[.func (.func 114) #[] #[.pointer (some ⟨x2, 0, none⟩)]]), (nm_records, .agg #[.func (.func 114) #[] #[.pointer (some ⟨x3, 0, none⟩)]])] [] nm_circles (.agg #[.func (.func 117) #[] #[.pointer (some ⟨x4, 0, none⟩)]]) hM (nm_new _ _ rfl)
  clear hM C
  have hW : Below w1.heap.size w1 (w1.alloc (.cells #[.func (.func 117) #[] #[.pointer (some ⟨x4, 0, none⟩)]] 58)) := (Below.refl w1.heap.size w1).alloc (Nat.le_refl _) _
  by_cases h0 : m < 0
  · go_wp2
    go_ret2
    exact ⟨_, rfl, Own.nil, b1.trans (hW.mono b1.size)⟩
  · have h5 : 5 < m := by omega
    go_wp2
    go_ret2
    exact ⟨_, rfl, Own.nil, b1.trans (hW.mono b1.size)⟩

set_option maxRecDepth 20000 in
set_option maxHeartbeats 4000000 in
theorem numZ_any (s : ByteArray) (m : Int) (w : World) (h9 : ¬ ixOf s < 9) :
    Calls Try.prog 54 #[.string s, .int .i64 m] w (Made2 w [] false) := by
  go_enter Try.func54, Try.ntmps54
  go_wp2_with fail
  refine (counters_any _).mono ?_
  rintro e w1 ⟨b, rfl, C, b1⟩
  obtain ⟨x1, x2, x3, x4, hM, hx1, hx2, hx3, hx4⟩ := C.all
  have hun := run_unseen (P := Try.prog) Try.underlying60 Try.underlying9 (w := w1) (b := b) (et := 58) (.agg #[.nilFunc]) (by kernel_rfl) s hM (ix_no h9)
  clear hM C
  have hW := ((Below.refl w1.heap.size w1).alloc (Nat.le_refl _) (.cells #[.nilFunc] 58))
  go_wp2
  go_ret2
  exact ⟨_, rfl, Own.nil, b1.trans (hW.mono b1.size)⟩

theorem numI_yes (s : ByteArray) (k m : Nat) (w : World) (hk : k = ixOf s) (h9 : k < 9) (hm : m ≤ 5) :
    Calls Try.prog 54 #[.string s, .int .i64 m] w (Made2 w (numK k m) true) := by
  have hc : k = 0 ∨ k = 1 ∨ k = 2 ∨ k = 3 ∨ k = 4 ∨ k = 5 ∨ k = 6 ∨ k = 7 ∨ k = 8 := by omega
  rcases hc with rfl | rfl | rfl | rfl | rfl | rfl | rfl | rfl | rfl
  · rw [ix_inversions hk.symm]; exact numY0_any m w hm
  · rw [ix_major hk.symm]; exact numY1_any m w hm
  · rw [ix_denert hk.symm]; exact numY2_any m w hm
  · rw [ix_crossings hk.symm]; exact numY3_any m w hm
  · rw [ix_nestings hk.symm]; exact numY4_any m w hm
  · rw [ix_descents hk.symm]; exact numY5_any m w hm
  · rw [ix_above hk.symm]; exact numY6_any m w hm
  · rw [ix_records hk.symm]; exact numY7_any m w hm
  · rw [ix_circles hk.symm]; exact numY8_any m w hm

theorem numI_no (s : ByteArray) (m : Int) (w : World) (h : ¬ (ixOf s < 9 ∧ 0 ≤ m ∧ m ≤ 5)) :
    Calls Try.prog 54 #[.string s, .int .i64 m] w (Made2 w [] false) := by
  by_cases h9 : ixOf s < 9
  · have hm : m < 0 ∨ 5 < m := by omega
    obtain ⟨k, hk⟩ : ∃ k, k = ixOf s := ⟨_, rfl⟩
    rw [← hk] at h9
    have hc : k = 0 ∨ k = 1 ∨ k = 2 ∨ k = 3 ∨ k = 4 ∨ k = 5 ∨ k = 6 ∨ k = 7 ∨ k = 8 := by omega
    rcases hc with rfl | rfl | rfl | rfl | rfl | rfl | rfl | rfl | rfl
    · rw [ix_inversions hk.symm]; exact numN0_any m w hm
    · rw [ix_major hk.symm]; exact numN1_any m w hm
    · rw [ix_denert hk.symm]; exact numN2_any m w hm
    · rw [ix_crossings hk.symm]; exact numN3_any m w hm
    · rw [ix_nestings hk.symm]; exact numN4_any m w hm
    · rw [ix_descents hk.symm]; exact numN5_any m w hm
    · rw [ix_above hk.symm]; exact numN6_any m w hm
    · rw [ix_records hk.symm]; exact numN7_any m w hm
    · rw [ix_circles hk.symm]; exact numN8_any m w hm
  · exact numZ_any s m w h9

end Go.Proofs.Ytjgaglfinpeeoac
