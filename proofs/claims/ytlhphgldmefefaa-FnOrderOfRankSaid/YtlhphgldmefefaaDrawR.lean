/- The draw of a number of values and a rank. Condition: the bytes can be read. -/
import Derived.Test.YtlhphgldmefefaaDraw5
import Derived.Test.YtlhphgldmefefaaRank
import Derived.Deep.RegionWith
namespace Go.Proofs.Ytlhphgldmefefaa
open Go.RowKit

theorem min_max (n : Int) : 0 ≤ min (max n 0) 7 ∧ min (max n 0) 7 ≤ 7 := by omega

set_option maxHeartbeats 60000000 in
theorem drawOrderOfRank_any (bo : Option Addr) (n cap : Nat) (cs : List Int) (w : World) (h : Slb w bo n cap cs) :
    Calls Try.prog 15 #[.slice bo n cap] w fun e w' => ∃ a r : Int, e = .returned (.tuple #[.int .i64 a, .int .i64 r]) ∧ -1 ≤ a ∧ a ≤ 8 ∧ -1 ≤ r ∧ r ≤ 100000 ∧ Below w.heap.size w w' := by
  go_enter Try.func15, Try.ntmps15
  go_wp2_with fail
  refine (newReader_any bo n cap cs w h).mono ?_
  rintro e w1 ⟨rfl, hr1, hb1⟩
  have ha := lit_arr w1 [4, 3, 5, 2, 6, 7, 1, 0, 8, -1]
  have hr := hr1.below ((Below.refl w1.heap.size w1).alloc (Nat.le_refl _) (.cells ([4, 3, 5, 2, 6, 7, 1, 0, 8, -1].map (Value.int .i64)).toArray 3))
  have hlt := hr1.lt
  have Ha := hid ha
  have Hr := hid hr
  clear ha hr
  go_wp2_with fail
  refine (one_any w.heap.size 0 w1.heap.size 10 3 [4, 3, 5, 2, 6, 7, 1, 0, 8, -1] _ Hr.out (by omega) Ha.out rfl (by omega) (by omega) (by omega)).mono ?_
  rintro e w2 ⟨j, hj, rfl, hr2, hg2⟩
  have hv : ∀ j, j < 10 → -1 ≤ el [4, 3, 5, 2, 6, 7, 1, 0, 8, -1] j ∧ el [4, 3, 5, 2, 6, 7, 1, 0, 8, -1] j ≤ 8 := by decide
  have hv' := hv j hj
  obtain ⟨v, hv2⟩ : ∃ v, v = el [4, 3, 5, 2, 6, 7, 1, 0, 8, -1] j := ⟨_, rfl⟩
  rw [← hv2] at hv' ⊢
  have hva := hv'.1
  have hvb := hv'.2
  have hb2 : Below w.heap.size w w2 := below_reader (hb1.alloc hb1.size _) hg2
  clear hv hv' hv2 hj Hr Ha hg2
  go_wp2_with fail
  refine (pick_any w.heap.size 1 256 w2 hr2 (by omega) (by omega)).mono ?_
  rintro e w3 ⟨k, rfl, hk0, hk1, hr3, hg3⟩
  have hk2 : k ≤ 255 := by omega
  have hb3 : Below w.heap.size w w3 := below_reader hb2 hg3
  clear hk1
  have hc4 : v = -1 ∨ v = 8 ∨ v = 6 ∨ v = 7 ∨ v = 0 ∨ v = 1 ∨ v = 2 ∨ v = 3 ∨ v = 4 ∨ v = 5 := by omega
  rcases hc4 with rfl | rfl | rfl | rfl | rfl | rfl | rfl | rfl | rfl | rfl
  · clear hva hvb
    obtain ⟨K, hK⟩ : ∃ K, K = k := ⟨_, rfl⟩
    rw [← hK]
    have hK0 : 0 ≤ K := by omega
    have hK1 : K ≤ 10000 := by omega
    clear hK
    go_wp2_with fail
    obtain ⟨f, hf⟩ : ∃ f, f = fac (0 : Int).toNat := ⟨_, rfl⟩
    have f1 := fac_pos (0 : Int).toNat
    have f2 := fac_le (n := (0 : Int).toNat) (by omega)
    rw [← hf] at f1 f2
    have Hf := hid hf
    have hf0 : f ≠ 0 := by omega
    have hf1 : (f == 0) = false := by rw [beq_eq_false_iff_ne]; omega
    have hwf : IntKind.i64.wrap (f - 1) = f - 1 := IntWalk.i64_in _ ⟨by omega, by omega⟩
    clear hf
    have hkm := Int.emod_nonneg K (show f ≠ 0 by omega)
    have hkl := Int.emod_lt_of_pos K (show 0 < f by omega)
    have hel : Hid (∀ j, j < [K % f, K, 0, f - 1, -1].length → -1 ≤ el [K % f, K, 0, f - 1, -1] j ∧ el [K % f, K, 0, f - 1, -1] j ≤ 100000) := fun j hj => by
      match j, hj with
      | 0, _ => show -1 ≤ K % f ∧ K % f ≤ 100000; omega
      | 1, _ => show -1 ≤ K ∧ K ≤ 100000; omega
      | 2, _ => show -1 ≤ (0 : Int) ∧ (0 : Int) ≤ 100000; omega
      | 3, _ => show -1 ≤ f - 1 ∧ f - 1 ≤ 100000; omega
      | 4, _ => show -1 ≤ (-1 : Int) ∧ (-1 : Int) ≤ 100000; omega
      | j + 5, h => exact absurd h (by simp)
    have Hrx : Hid (Rdr (w3.alloc (.cells #[.int .i64 (K % f), .int .i64 K, .int .i64 0, .int .i64 (f - 1), .int .i64 (-1)] 3)).drew w.heap.size 2) := hid (hr3.below (((Below.refl w3.heap.size w3).alloc (Nat.le_refl _) _).drew))
    have Hax : Hid (Arr (w3.alloc (.cells #[.int .i64 (K % f), .int .i64 K, .int .i64 0, .int .i64 (f - 1), .int .i64 (-1)] 3)).drew w3.heap.size 3 [K % f, K, 0, f - 1, -1]) := hid (Arr.made w3 3 [K % f, K, 0, f - 1, -1])
    have hne : w3.heap.size ≠ w.heap.size := by have := hr3.lt; omega
    have hbx : Below w.heap.size w (w3.alloc (.cells #[.int .i64 (K % f), .int .i64 K, .int .i64 0, .int .i64 (f - 1), .int .i64 (-1)] 3)).drew := (hb3.alloc hb3.size _).drew
    have Hpost : Hid (∀ (e : Ending) (w9 : World), Oned (w3.alloc (.cells #[.int .i64 (K % f), .int .i64 K, .int .i64 0, .int .i64 (f - 1), .int .i64 (-1)] 3)).drew w.heap.size 2 [K % f, K, 0, f - 1, -1] e w9 → ∃ r : Int, e = .returned (.int .i64 r) ∧ Hid (-1 ≤ r ∧ r ≤ 100000) ∧ Hid (Below w.heap.size w w9)) := by
      rintro e w9 ⟨j, hj, rfl, hr9, hg9⟩
      exact ⟨_, rfl, hid (hel.out j hj), hid (below_reader hbx hg9)⟩
    clear hkm hkl hel hbx
    refine wp_region_any (by kernel_rfl) ?_
    try (change wpAny _ _ _ _ _ _ _ (World.drew _))
    refine wpAny_take (i := 0) (v := ?_) rfl (by kernel_rfl) (by kernel_rfl) (by kernel_rfl) (fun _ _ _ h => h) (Or.inl ⟨by rfl, ?_⟩) ?_
    rotate_left
    · intro w
      go_simp
      try with_reducible rfl
    refine wpAny_take (i := 1) (v := ?_) rfl (by kernel_rfl) (by kernel_rfl) (by kernel_rfl) (fun _ _ _ h => h) (Or.inl ⟨by rfl, ?_⟩) ?_
    rotate_left
    · intro w
      go_simp
      try with_reducible rfl
    refine wpAny_take (i := 2) (v := ?_) rfl (by kernel_rfl) (by kernel_rfl) (by kernel_rfl) (fun _ _ _ h => h) (Or.inl ⟨by rfl, ?_⟩) ?_
    rotate_left
    · intro w
      go_simp
      try with_reducible rfl
    refine wpAny_take (i := 3) (v := ?_) rfl (by kernel_rfl) (by kernel_rfl) (by kernel_rfl) (fun _ _ _ h => h) (Or.inl ⟨by rfl, ?_⟩) ?_
    rotate_left
    · intro w
      go_simp
      try with_reducible rfl
    refine wpAny_take (i := 4) (v := ?_) rfl (by kernel_rfl) (by kernel_rfl) (by kernel_rfl) (fun _ _ _ h => h) (Or.inl ⟨by rfl, ?_⟩) ?_
    rotate_left
    · intro w
      go_simp
      try with_reducible rfl
    refine wpAny_take (i := 5) (v := ?_) rfl (by kernel_rfl) (by kernel_rfl) (by kernel_rfl) (fun _ _ _ h => h) (Or.inl ⟨by rfl, ?_⟩) ?_
    rotate_left
    · intro w
      go_simp
      try with_reducible rfl
    refine wpAny_take (i := 8) (v := ?_) rfl (by kernel_rfl) (by kernel_rfl) (by kernel_rfl) (fun _ _ _ h => h) (Or.inl ⟨by rfl, ?_⟩) ?_
    rotate_left
    · intro w
      go_simp
      try with_reducible rfl
    refine wpAny_take (i := 9) (v := ?_) rfl (by kernel_rfl) (by kernel_rfl) (by kernel_rfl) (fun _ _ _ h => h) (Or.inl ⟨by rfl, ?_⟩) ?_
    rotate_left
    · intro w
      go_simp
      try with_reducible rfl
    refine wpAny_take (i := 10) (v := ?_) rfl (by kernel_rfl) (by kernel_rfl) (by kernel_rfl) (fun _ _ _ h => h) (Or.inl ⟨by rfl, ?_⟩) ?_
    rotate_left
    · intro w
      go_simp
      try with_reducible rfl
    refine wpAny_take (i := 11) (v := ?_) rfl (by kernel_rfl) (by kernel_rfl) (by kernel_rfl) (fun _ _ _ h => h) (Or.inl ⟨by rfl, ?_⟩) ?_
    rotate_left
    · intro w
      go_simp
      try with_reducible rfl
    refine wpAny_ready (rs := [6]) (by kernel_rfl) (by simp) ?_
    refine AllReady.cons rfl (fun K9 h9 => ?_) AllReady.nil
    go_simp
    go_wp2_with (go_at_call 65; refine (fac_any (0) _ (by omega) (by omega)).mono ?_; rintro e w' ⟨rfl, rfl⟩; rw [← Hf.out])
    first | (refine h9 _ _ ?_; clear h9 K9) | skip
    refine wpAny_take (i := 7) (v := ?_) rfl (by kernel_rfl) (by kernel_rfl) (by kernel_rfl) (fun _ _ _ h => h) (Or.inl ⟨by rfl, ?_⟩) ?_
    rotate_left
    · intro w
      go_simp
      rw [Int.tmod_eq_emod_of_nonneg hK0]
      try with_reducible rfl
    refine wpAny_ready (rs := [12]) (by kernel_rfl) (by simp) ?_
    refine AllReady.cons rfl (fun K9 h9 => ?_) AllReady.nil
    go_simp
    go_wp2_with (go_at_call 65; refine (fac_any (0) _ (by omega) (by omega)).mono ?_; rintro e w' ⟨rfl, rfl⟩; rw [← Hf.out])
    first | (refine h9 _ _ ?_; clear h9 K9) | skip
    refine wpAny_take (i := 13) (v := ?_) rfl (by kernel_rfl) (by kernel_rfl) (by kernel_rfl) (fun _ _ _ h => h) (Or.inl ⟨by rfl, ?_⟩) ?_
    rotate_left
    · intro w
      go_simp
      try with_reducible rfl
    refine wpAny_ready (rs := [14]) (by kernel_rfl) (by simp) ?_
    refine AllReady.cons rfl (fun K9 h9 => ?_) AllReady.nil
    go_simp
    go_wp2_with fail
    first | (refine h9 _ _ ?_; clear h9 K9) | skip
    refine wpAny_ready (rs := [15]) (by kernel_rfl) (by simp) ?_
    refine AllReady.cons rfl (fun K9 h9 => ?_) AllReady.nil
    go_simp
    go_wp2_with (go_at_call 63; refine (one_any w.heap.size 2 w3.heap.size 5 3 [K % f, K, 0, f - 1, -1] (w3.alloc (.cells #[.int .i64 (K % f), .int .i64 K, .int .i64 0, .int .i64 (f - 1), .int .i64 (-1)] 3)).drew Hrx.out (by omega) Hax.out rfl (by omega) (by omega) hne).mono ?_; rintro e w9 hh; obtain ⟨r, he, hv9, hg9⟩ := Hpost.out _ _ hh; subst he; clear hh)
    first | (refine h9 _ _ ?_; clear h9 K9) | skip
    refine wpAny_take (i := 16) (v := ?_) rfl (by kernel_rfl) (by kernel_rfl) (by kernel_rfl) (fun _ _ _ h => h) (Or.inl ⟨by rfl, ?_⟩) ?_
    rotate_left
    · intro w
      go_simp
      try with_reducible rfl
    refine wpAny_take (i := 17) (v := ?_) rfl (by kernel_rfl) (by kernel_rfl) (by kernel_rfl) (fun _ _ _ h => h) (Or.inl ⟨by rfl, ?_⟩) ?_
    rotate_left
    · intro w
      go_simp
      try with_reducible rfl
    refine wpAny_done (by kernel_rfl) ?_ _
    all_goals go_wp2
    all_goals go_ret2
    all_goals exact ⟨_, r, rfl, by omega, by omega, hv9.out.1, hv9.out.2, hg9.out⟩
  · clear hva hvb
    go_wp2_with fail
    refine (pick_any w.heap.size 2 60 w3 hr3 (by omega) (by omega)).mono ?_
    rintro e w4 ⟨k2, rfl, hl0, hl1, hr4, hg4⟩
    have hl2 : k2 ≤ 59 := by omega
    have hb4 : Below w.heap.size w w4 := below_reader hb3 hg4
    clear hl1
    go_wp2_with fail
    obtain ⟨K, hK⟩ : ∃ K, K = 19 * k + k2 := ⟨_, rfl⟩
    rw [← hK]
    have hK0 : 0 ≤ K := by omega
    have hK1 : K ≤ 10000 := by omega
    clear hK
    obtain ⟨f, hf⟩ : ∃ f, f = fac (7 : Int).toNat := ⟨_, rfl⟩
    have f1 := fac_pos (7 : Int).toNat
    have f2 := fac_le (n := (7 : Int).toNat) (by omega)
    rw [← hf] at f1 f2
    have Hf := hid hf
    have hf0 : f ≠ 0 := by omega
    have hf1 : (f == 0) = false := by rw [beq_eq_false_iff_ne]; omega
    have hwf : IntKind.i64.wrap (f - 1) = f - 1 := IntWalk.i64_in _ ⟨by omega, by omega⟩
    clear hf
    have hkm := Int.emod_nonneg K (show f ≠ 0 by omega)
    have hkl := Int.emod_lt_of_pos K (show 0 < f by omega)
    have hel : Hid (∀ j, j < [K % f, K, 0, f - 1, -1].length → -1 ≤ el [K % f, K, 0, f - 1, -1] j ∧ el [K % f, K, 0, f - 1, -1] j ≤ 100000) := fun j hj => by
      match j, hj with
      | 0, _ => show -1 ≤ K % f ∧ K % f ≤ 100000; omega
      | 1, _ => show -1 ≤ K ∧ K ≤ 100000; omega
      | 2, _ => show -1 ≤ (0 : Int) ∧ (0 : Int) ≤ 100000; omega
      | 3, _ => show -1 ≤ f - 1 ∧ f - 1 ≤ 100000; omega
      | 4, _ => show -1 ≤ (-1 : Int) ∧ (-1 : Int) ≤ 100000; omega
      | j + 5, h => exact absurd h (by simp)
    have Hrx : Hid (Rdr (w4.alloc (.cells #[.int .i64 (K % f), .int .i64 K, .int .i64 0, .int .i64 (f - 1), .int .i64 (-1)] 3)).drew w.heap.size 3) := hid (hr4.below (((Below.refl w4.heap.size w4).alloc (Nat.le_refl _) _).drew))
    have Hax : Hid (Arr (w4.alloc (.cells #[.int .i64 (K % f), .int .i64 K, .int .i64 0, .int .i64 (f - 1), .int .i64 (-1)] 3)).drew w4.heap.size 3 [K % f, K, 0, f - 1, -1]) := hid (Arr.made w4 3 [K % f, K, 0, f - 1, -1])
    have hne : w4.heap.size ≠ w.heap.size := by have := hr4.lt; omega
    have hbx : Below w.heap.size w (w4.alloc (.cells #[.int .i64 (K % f), .int .i64 K, .int .i64 0, .int .i64 (f - 1), .int .i64 (-1)] 3)).drew := (hb4.alloc hb4.size _).drew
    have Hpost : Hid (∀ (e : Ending) (w9 : World), Oned (w4.alloc (.cells #[.int .i64 (K % f), .int .i64 K, .int .i64 0, .int .i64 (f - 1), .int .i64 (-1)] 3)).drew w.heap.size 3 [K % f, K, 0, f - 1, -1] e w9 → ∃ r : Int, e = .returned (.int .i64 r) ∧ Hid (-1 ≤ r ∧ r ≤ 100000) ∧ Hid (Below w.heap.size w w9)) := by
      rintro e w9 ⟨j, hj, rfl, hr9, hg9⟩
      exact ⟨_, rfl, hid (hel.out j hj), hid (below_reader hbx hg9)⟩
    clear hkm hkl hel hbx
    refine wp_region_any (by kernel_rfl) ?_
    try (change wpAny _ _ _ _ _ _ _ (World.drew _))
    refine wpAny_take (i := 0) (v := ?_) rfl (by kernel_rfl) (by kernel_rfl) (by kernel_rfl) (fun _ _ _ h => h) (Or.inl ⟨by rfl, ?_⟩) ?_
    rotate_left
    · intro w
      go_simp
      try with_reducible rfl
    refine wpAny_take (i := 1) (v := ?_) rfl (by kernel_rfl) (by kernel_rfl) (by kernel_rfl) (fun _ _ _ h => h) (Or.inl ⟨by rfl, ?_⟩) ?_
    rotate_left
    · intro w
      go_simp
      try with_reducible rfl
    refine wpAny_take (i := 2) (v := ?_) rfl (by kernel_rfl) (by kernel_rfl) (by kernel_rfl) (fun _ _ _ h => h) (Or.inl ⟨by rfl, ?_⟩) ?_
    rotate_left
    · intro w
      go_simp
      try with_reducible rfl
    refine wpAny_take (i := 3) (v := ?_) rfl (by kernel_rfl) (by kernel_rfl) (by kernel_rfl) (fun _ _ _ h => h) (Or.inl ⟨by rfl, ?_⟩) ?_
    rotate_left
    · intro w
      go_simp
      try with_reducible rfl
    refine wpAny_take (i := 4) (v := ?_) rfl (by kernel_rfl) (by kernel_rfl) (by kernel_rfl) (fun _ _ _ h => h) (Or.inl ⟨by rfl, ?_⟩) ?_
    rotate_left
    · intro w
      go_simp
      try with_reducible rfl
    refine wpAny_take (i := 5) (v := ?_) rfl (by kernel_rfl) (by kernel_rfl) (by kernel_rfl) (fun _ _ _ h => h) (Or.inl ⟨by rfl, ?_⟩) ?_
    rotate_left
    · intro w
      go_simp
      try with_reducible rfl
    refine wpAny_take (i := 8) (v := ?_) rfl (by kernel_rfl) (by kernel_rfl) (by kernel_rfl) (fun _ _ _ h => h) (Or.inl ⟨by rfl, ?_⟩) ?_
    rotate_left
    · intro w
      go_simp
      try with_reducible rfl
    refine wpAny_take (i := 9) (v := ?_) rfl (by kernel_rfl) (by kernel_rfl) (by kernel_rfl) (fun _ _ _ h => h) (Or.inl ⟨by rfl, ?_⟩) ?_
    rotate_left
    · intro w
      go_simp
      try with_reducible rfl
    refine wpAny_take (i := 10) (v := ?_) rfl (by kernel_rfl) (by kernel_rfl) (by kernel_rfl) (fun _ _ _ h => h) (Or.inl ⟨by rfl, ?_⟩) ?_
    rotate_left
    · intro w
      go_simp
      try with_reducible rfl
    refine wpAny_take (i := 11) (v := ?_) rfl (by kernel_rfl) (by kernel_rfl) (by kernel_rfl) (fun _ _ _ h => h) (Or.inl ⟨by rfl, ?_⟩) ?_
    rotate_left
    · intro w
      go_simp
      try with_reducible rfl
    refine wpAny_ready (rs := [6]) (by kernel_rfl) (by simp) ?_
    refine AllReady.cons rfl (fun K9 h9 => ?_) AllReady.nil
    go_simp
    go_wp2_with (go_at_call 65; refine (fac_any (7) _ (by omega) (by omega)).mono ?_; rintro e w' ⟨rfl, rfl⟩; rw [← Hf.out])
    first | (refine h9 _ _ ?_; clear h9 K9) | skip
    refine wpAny_take (i := 7) (v := ?_) rfl (by kernel_rfl) (by kernel_rfl) (by kernel_rfl) (fun _ _ _ h => h) (Or.inl ⟨by rfl, ?_⟩) ?_
    rotate_left
    · intro w
      go_simp
      rw [Int.tmod_eq_emod_of_nonneg hK0]
      try with_reducible rfl
    refine wpAny_ready (rs := [12]) (by kernel_rfl) (by simp) ?_
    refine AllReady.cons rfl (fun K9 h9 => ?_) AllReady.nil
    go_simp
    go_wp2_with (go_at_call 65; refine (fac_any (7) _ (by omega) (by omega)).mono ?_; rintro e w' ⟨rfl, rfl⟩; rw [← Hf.out])
    first | (refine h9 _ _ ?_; clear h9 K9) | skip
    refine wpAny_take (i := 13) (v := ?_) rfl (by kernel_rfl) (by kernel_rfl) (by kernel_rfl) (fun _ _ _ h => h) (Or.inl ⟨by rfl, ?_⟩) ?_
    rotate_left
    · intro w
      go_simp
      try with_reducible rfl
    refine wpAny_ready (rs := [14]) (by kernel_rfl) (by simp) ?_
    refine AllReady.cons rfl (fun K9 h9 => ?_) AllReady.nil
    go_simp
    go_wp2_with fail
    first | (refine h9 _ _ ?_; clear h9 K9) | skip
    refine wpAny_ready (rs := [15]) (by kernel_rfl) (by simp) ?_
    refine AllReady.cons rfl (fun K9 h9 => ?_) AllReady.nil
    go_simp
    go_wp2_with (go_at_call 63; refine (one_any w.heap.size 3 w4.heap.size 5 3 [K % f, K, 0, f - 1, -1] (w4.alloc (.cells #[.int .i64 (K % f), .int .i64 K, .int .i64 0, .int .i64 (f - 1), .int .i64 (-1)] 3)).drew Hrx.out (by omega) Hax.out rfl (by omega) (by omega) hne).mono ?_; rintro e w9 hh; obtain ⟨r, he, hv9, hg9⟩ := Hpost.out _ _ hh; subst he; clear hh)
    first | (refine h9 _ _ ?_; clear h9 K9) | skip
    refine wpAny_take (i := 16) (v := ?_) rfl (by kernel_rfl) (by kernel_rfl) (by kernel_rfl) (fun _ _ _ h => h) (Or.inl ⟨by rfl, ?_⟩) ?_
    rotate_left
    · intro w
      go_simp
      try with_reducible rfl
    refine wpAny_take (i := 17) (v := ?_) rfl (by kernel_rfl) (by kernel_rfl) (by kernel_rfl) (fun _ _ _ h => h) (Or.inl ⟨by rfl, ?_⟩) ?_
    rotate_left
    · intro w
      go_simp
      try with_reducible rfl
    refine wpAny_done (by kernel_rfl) ?_ _
    all_goals go_wp2
    all_goals go_ret2
    all_goals exact ⟨_, r, rfl, by omega, by omega, hv9.out.1, hv9.out.2, hg9.out⟩
  · clear hva hvb
    go_wp2_with fail
    refine (pick_any w.heap.size 2 60 w3 hr3 (by omega) (by omega)).mono ?_
    rintro e w4 ⟨k2, rfl, hl0, hl1, hr4, hg4⟩
    have hl2 : k2 ≤ 59 := by omega
    have hb4 : Below w.heap.size w w4 := below_reader hb3 hg4
    clear hl1
    go_wp2_with fail
    obtain ⟨K, hK⟩ : ∃ K, K = 19 * k + k2 := ⟨_, rfl⟩
    rw [← hK]
    have hK0 : 0 ≤ K := by omega
    have hK1 : K ≤ 10000 := by omega
    clear hK
    obtain ⟨f, hf⟩ : ∃ f, f = fac (6 : Int).toNat := ⟨_, rfl⟩
    have f1 := fac_pos (6 : Int).toNat
    have f2 := fac_le (n := (6 : Int).toNat) (by omega)
    rw [← hf] at f1 f2
    have Hf := hid hf
    have hf0 : f ≠ 0 := by omega
    have hf1 : (f == 0) = false := by rw [beq_eq_false_iff_ne]; omega
    have hwf : IntKind.i64.wrap (f - 1) = f - 1 := IntWalk.i64_in _ ⟨by omega, by omega⟩
    clear hf
    have hkm := Int.emod_nonneg K (show f ≠ 0 by omega)
    have hkl := Int.emod_lt_of_pos K (show 0 < f by omega)
    have hel : Hid (∀ j, j < [K % f, K, 0, f - 1, -1].length → -1 ≤ el [K % f, K, 0, f - 1, -1] j ∧ el [K % f, K, 0, f - 1, -1] j ≤ 100000) := fun j hj => by
      match j, hj with
      | 0, _ => show -1 ≤ K % f ∧ K % f ≤ 100000; omega
      | 1, _ => show -1 ≤ K ∧ K ≤ 100000; omega
      | 2, _ => show -1 ≤ (0 : Int) ∧ (0 : Int) ≤ 100000; omega
      | 3, _ => show -1 ≤ f - 1 ∧ f - 1 ≤ 100000; omega
      | 4, _ => show -1 ≤ (-1 : Int) ∧ (-1 : Int) ≤ 100000; omega
      | j + 5, h => exact absurd h (by simp)
    have Hrx : Hid (Rdr (w4.alloc (.cells #[.int .i64 (K % f), .int .i64 K, .int .i64 0, .int .i64 (f - 1), .int .i64 (-1)] 3)).drew w.heap.size 3) := hid (hr4.below (((Below.refl w4.heap.size w4).alloc (Nat.le_refl _) _).drew))
    have Hax : Hid (Arr (w4.alloc (.cells #[.int .i64 (K % f), .int .i64 K, .int .i64 0, .int .i64 (f - 1), .int .i64 (-1)] 3)).drew w4.heap.size 3 [K % f, K, 0, f - 1, -1]) := hid (Arr.made w4 3 [K % f, K, 0, f - 1, -1])
    have hne : w4.heap.size ≠ w.heap.size := by have := hr4.lt; omega
    have hbx : Below w.heap.size w (w4.alloc (.cells #[.int .i64 (K % f), .int .i64 K, .int .i64 0, .int .i64 (f - 1), .int .i64 (-1)] 3)).drew := (hb4.alloc hb4.size _).drew
    have Hpost : Hid (∀ (e : Ending) (w9 : World), Oned (w4.alloc (.cells #[.int .i64 (K % f), .int .i64 K, .int .i64 0, .int .i64 (f - 1), .int .i64 (-1)] 3)).drew w.heap.size 3 [K % f, K, 0, f - 1, -1] e w9 → ∃ r : Int, e = .returned (.int .i64 r) ∧ Hid (-1 ≤ r ∧ r ≤ 100000) ∧ Hid (Below w.heap.size w w9)) := by
      rintro e w9 ⟨j, hj, rfl, hr9, hg9⟩
      exact ⟨_, rfl, hid (hel.out j hj), hid (below_reader hbx hg9)⟩
    clear hkm hkl hel hbx
    refine wp_region_any (by kernel_rfl) ?_
    try (change wpAny _ _ _ _ _ _ _ (World.drew _))
    refine wpAny_take (i := 0) (v := ?_) rfl (by kernel_rfl) (by kernel_rfl) (by kernel_rfl) (fun _ _ _ h => h) (Or.inl ⟨by rfl, ?_⟩) ?_
    rotate_left
    · intro w
      go_simp
      try with_reducible rfl
    refine wpAny_take (i := 1) (v := ?_) rfl (by kernel_rfl) (by kernel_rfl) (by kernel_rfl) (fun _ _ _ h => h) (Or.inl ⟨by rfl, ?_⟩) ?_
    rotate_left
    · intro w
      go_simp
      try with_reducible rfl
    refine wpAny_take (i := 2) (v := ?_) rfl (by kernel_rfl) (by kernel_rfl) (by kernel_rfl) (fun _ _ _ h => h) (Or.inl ⟨by rfl, ?_⟩) ?_
    rotate_left
    · intro w
      go_simp
      try with_reducible rfl
    refine wpAny_take (i := 3) (v := ?_) rfl (by kernel_rfl) (by kernel_rfl) (by kernel_rfl) (fun _ _ _ h => h) (Or.inl ⟨by rfl, ?_⟩) ?_
    rotate_left
    · intro w
      go_simp
      try with_reducible rfl
    refine wpAny_take (i := 4) (v := ?_) rfl (by kernel_rfl) (by kernel_rfl) (by kernel_rfl) (fun _ _ _ h => h) (Or.inl ⟨by rfl, ?_⟩) ?_
    rotate_left
    · intro w
      go_simp
      try with_reducible rfl
    refine wpAny_take (i := 5) (v := ?_) rfl (by kernel_rfl) (by kernel_rfl) (by kernel_rfl) (fun _ _ _ h => h) (Or.inl ⟨by rfl, ?_⟩) ?_
    rotate_left
    · intro w
      go_simp
      try with_reducible rfl
    refine wpAny_take (i := 8) (v := ?_) rfl (by kernel_rfl) (by kernel_rfl) (by kernel_rfl) (fun _ _ _ h => h) (Or.inl ⟨by rfl, ?_⟩) ?_
    rotate_left
    · intro w
      go_simp
      try with_reducible rfl
    refine wpAny_take (i := 9) (v := ?_) rfl (by kernel_rfl) (by kernel_rfl) (by kernel_rfl) (fun _ _ _ h => h) (Or.inl ⟨by rfl, ?_⟩) ?_
    rotate_left
    · intro w
      go_simp
      try with_reducible rfl
    refine wpAny_take (i := 10) (v := ?_) rfl (by kernel_rfl) (by kernel_rfl) (by kernel_rfl) (fun _ _ _ h => h) (Or.inl ⟨by rfl, ?_⟩) ?_
    rotate_left
    · intro w
      go_simp
      try with_reducible rfl
    refine wpAny_take (i := 11) (v := ?_) rfl (by kernel_rfl) (by kernel_rfl) (by kernel_rfl) (fun _ _ _ h => h) (Or.inl ⟨by rfl, ?_⟩) ?_
    rotate_left
    · intro w
      go_simp
      try with_reducible rfl
    refine wpAny_ready (rs := [6]) (by kernel_rfl) (by simp) ?_
    refine AllReady.cons rfl (fun K9 h9 => ?_) AllReady.nil
    go_simp
    go_wp2_with (go_at_call 65; refine (fac_any (6) _ (by omega) (by omega)).mono ?_; rintro e w' ⟨rfl, rfl⟩; rw [← Hf.out])
    first | (refine h9 _ _ ?_; clear h9 K9) | skip
    refine wpAny_take (i := 7) (v := ?_) rfl (by kernel_rfl) (by kernel_rfl) (by kernel_rfl) (fun _ _ _ h => h) (Or.inl ⟨by rfl, ?_⟩) ?_
    rotate_left
    · intro w
      go_simp
      rw [Int.tmod_eq_emod_of_nonneg hK0]
      try with_reducible rfl
    refine wpAny_ready (rs := [12]) (by kernel_rfl) (by simp) ?_
    refine AllReady.cons rfl (fun K9 h9 => ?_) AllReady.nil
    go_simp
    go_wp2_with (go_at_call 65; refine (fac_any (6) _ (by omega) (by omega)).mono ?_; rintro e w' ⟨rfl, rfl⟩; rw [← Hf.out])
    first | (refine h9 _ _ ?_; clear h9 K9) | skip
    refine wpAny_take (i := 13) (v := ?_) rfl (by kernel_rfl) (by kernel_rfl) (by kernel_rfl) (fun _ _ _ h => h) (Or.inl ⟨by rfl, ?_⟩) ?_
    rotate_left
    · intro w
      go_simp
      try with_reducible rfl
    refine wpAny_ready (rs := [14]) (by kernel_rfl) (by simp) ?_
    refine AllReady.cons rfl (fun K9 h9 => ?_) AllReady.nil
    go_simp
    go_wp2_with fail
    first | (refine h9 _ _ ?_; clear h9 K9) | skip
    refine wpAny_ready (rs := [15]) (by kernel_rfl) (by simp) ?_
    refine AllReady.cons rfl (fun K9 h9 => ?_) AllReady.nil
    go_simp
    go_wp2_with (go_at_call 63; refine (one_any w.heap.size 3 w4.heap.size 5 3 [K % f, K, 0, f - 1, -1] (w4.alloc (.cells #[.int .i64 (K % f), .int .i64 K, .int .i64 0, .int .i64 (f - 1), .int .i64 (-1)] 3)).drew Hrx.out (by omega) Hax.out rfl (by omega) (by omega) hne).mono ?_; rintro e w9 hh; obtain ⟨r, he, hv9, hg9⟩ := Hpost.out _ _ hh; subst he; clear hh)
    first | (refine h9 _ _ ?_; clear h9 K9) | skip
    refine wpAny_take (i := 16) (v := ?_) rfl (by kernel_rfl) (by kernel_rfl) (by kernel_rfl) (fun _ _ _ h => h) (Or.inl ⟨by rfl, ?_⟩) ?_
    rotate_left
    · intro w
      go_simp
      try with_reducible rfl
    refine wpAny_take (i := 17) (v := ?_) rfl (by kernel_rfl) (by kernel_rfl) (by kernel_rfl) (fun _ _ _ h => h) (Or.inl ⟨by rfl, ?_⟩) ?_
    rotate_left
    · intro w
      go_simp
      try with_reducible rfl
    refine wpAny_done (by kernel_rfl) ?_ _
    all_goals go_wp2
    all_goals go_ret2
    all_goals exact ⟨_, r, rfl, by omega, by omega, hv9.out.1, hv9.out.2, hg9.out⟩
  · clear hva hvb
    go_wp2_with fail
    refine (pick_any w.heap.size 2 60 w3 hr3 (by omega) (by omega)).mono ?_
    rintro e w4 ⟨k2, rfl, hl0, hl1, hr4, hg4⟩
    have hl2 : k2 ≤ 59 := by omega
    have hb4 : Below w.heap.size w w4 := below_reader hb3 hg4
    clear hl1
    go_wp2_with fail
    obtain ⟨K, hK⟩ : ∃ K, K = 19 * k + k2 := ⟨_, rfl⟩
    rw [← hK]
    have hK0 : 0 ≤ K := by omega
    have hK1 : K ≤ 10000 := by omega
    clear hK
    obtain ⟨f, hf⟩ : ∃ f, f = fac (7 : Int).toNat := ⟨_, rfl⟩
    have f1 := fac_pos (7 : Int).toNat
    have f2 := fac_le (n := (7 : Int).toNat) (by omega)
    rw [← hf] at f1 f2
    have Hf := hid hf
    have hf0 : f ≠ 0 := by omega
    have hf1 : (f == 0) = false := by rw [beq_eq_false_iff_ne]; omega
    have hwf : IntKind.i64.wrap (f - 1) = f - 1 := IntWalk.i64_in _ ⟨by omega, by omega⟩
    clear hf
    have hkm := Int.emod_nonneg K (show f ≠ 0 by omega)
    have hkl := Int.emod_lt_of_pos K (show 0 < f by omega)
    have hel : Hid (∀ j, j < [K % f, K, 0, f - 1, -1].length → -1 ≤ el [K % f, K, 0, f - 1, -1] j ∧ el [K % f, K, 0, f - 1, -1] j ≤ 100000) := fun j hj => by
      match j, hj with
      | 0, _ => show -1 ≤ K % f ∧ K % f ≤ 100000; omega
      | 1, _ => show -1 ≤ K ∧ K ≤ 100000; omega
      | 2, _ => show -1 ≤ (0 : Int) ∧ (0 : Int) ≤ 100000; omega
      | 3, _ => show -1 ≤ f - 1 ∧ f - 1 ≤ 100000; omega
      | 4, _ => show -1 ≤ (-1 : Int) ∧ (-1 : Int) ≤ 100000; omega
      | j + 5, h => exact absurd h (by simp)
    have Hrx : Hid (Rdr (w4.alloc (.cells #[.int .i64 (K % f), .int .i64 K, .int .i64 0, .int .i64 (f - 1), .int .i64 (-1)] 3)).drew w.heap.size 3) := hid (hr4.below (((Below.refl w4.heap.size w4).alloc (Nat.le_refl _) _).drew))
    have Hax : Hid (Arr (w4.alloc (.cells #[.int .i64 (K % f), .int .i64 K, .int .i64 0, .int .i64 (f - 1), .int .i64 (-1)] 3)).drew w4.heap.size 3 [K % f, K, 0, f - 1, -1]) := hid (Arr.made w4 3 [K % f, K, 0, f - 1, -1])
    have hne : w4.heap.size ≠ w.heap.size := by have := hr4.lt; omega
    have hbx : Below w.heap.size w (w4.alloc (.cells #[.int .i64 (K % f), .int .i64 K, .int .i64 0, .int .i64 (f - 1), .int .i64 (-1)] 3)).drew := (hb4.alloc hb4.size _).drew
    have Hpost : Hid (∀ (e : Ending) (w9 : World), Oned (w4.alloc (.cells #[.int .i64 (K % f), .int .i64 K, .int .i64 0, .int .i64 (f - 1), .int .i64 (-1)] 3)).drew w.heap.size 3 [K % f, K, 0, f - 1, -1] e w9 → ∃ r : Int, e = .returned (.int .i64 r) ∧ Hid (-1 ≤ r ∧ r ≤ 100000) ∧ Hid (Below w.heap.size w w9)) := by
      rintro e w9 ⟨j, hj, rfl, hr9, hg9⟩
      exact ⟨_, rfl, hid (hel.out j hj), hid (below_reader hbx hg9)⟩
    clear hkm hkl hel hbx
    refine wp_region_any (by kernel_rfl) ?_
    try (change wpAny _ _ _ _ _ _ _ (World.drew _))
    refine wpAny_take (i := 0) (v := ?_) rfl (by kernel_rfl) (by kernel_rfl) (by kernel_rfl) (fun _ _ _ h => h) (Or.inl ⟨by rfl, ?_⟩) ?_
    rotate_left
    · intro w
      go_simp
      try with_reducible rfl
    refine wpAny_take (i := 1) (v := ?_) rfl (by kernel_rfl) (by kernel_rfl) (by kernel_rfl) (fun _ _ _ h => h) (Or.inl ⟨by rfl, ?_⟩) ?_
    rotate_left
    · intro w
      go_simp
      try with_reducible rfl
    refine wpAny_take (i := 2) (v := ?_) rfl (by kernel_rfl) (by kernel_rfl) (by kernel_rfl) (fun _ _ _ h => h) (Or.inl ⟨by rfl, ?_⟩) ?_
    rotate_left
    · intro w
      go_simp
      try with_reducible rfl
    refine wpAny_take (i := 3) (v := ?_) rfl (by kernel_rfl) (by kernel_rfl) (by kernel_rfl) (fun _ _ _ h => h) (Or.inl ⟨by rfl, ?_⟩) ?_
    rotate_left
    · intro w
      go_simp
      try with_reducible rfl
    refine wpAny_take (i := 4) (v := ?_) rfl (by kernel_rfl) (by kernel_rfl) (by kernel_rfl) (fun _ _ _ h => h) (Or.inl ⟨by rfl, ?_⟩) ?_
    rotate_left
    · intro w
      go_simp
      try with_reducible rfl
    refine wpAny_take (i := 5) (v := ?_) rfl (by kernel_rfl) (by kernel_rfl) (by kernel_rfl) (fun _ _ _ h => h) (Or.inl ⟨by rfl, ?_⟩) ?_
    rotate_left
    · intro w
      go_simp
      try with_reducible rfl
    refine wpAny_take (i := 8) (v := ?_) rfl (by kernel_rfl) (by kernel_rfl) (by kernel_rfl) (fun _ _ _ h => h) (Or.inl ⟨by rfl, ?_⟩) ?_
    rotate_left
    · intro w
      go_simp
      try with_reducible rfl
    refine wpAny_take (i := 9) (v := ?_) rfl (by kernel_rfl) (by kernel_rfl) (by kernel_rfl) (fun _ _ _ h => h) (Or.inl ⟨by rfl, ?_⟩) ?_
    rotate_left
    · intro w
      go_simp
      try with_reducible rfl
    refine wpAny_take (i := 10) (v := ?_) rfl (by kernel_rfl) (by kernel_rfl) (by kernel_rfl) (fun _ _ _ h => h) (Or.inl ⟨by rfl, ?_⟩) ?_
    rotate_left
    · intro w
      go_simp
      try with_reducible rfl
    refine wpAny_take (i := 11) (v := ?_) rfl (by kernel_rfl) (by kernel_rfl) (by kernel_rfl) (fun _ _ _ h => h) (Or.inl ⟨by rfl, ?_⟩) ?_
    rotate_left
    · intro w
      go_simp
      try with_reducible rfl
    refine wpAny_ready (rs := [6]) (by kernel_rfl) (by simp) ?_
    refine AllReady.cons rfl (fun K9 h9 => ?_) AllReady.nil
    go_simp
    go_wp2_with (go_at_call 65; refine (fac_any (7) _ (by omega) (by omega)).mono ?_; rintro e w' ⟨rfl, rfl⟩; rw [← Hf.out])
    first | (refine h9 _ _ ?_; clear h9 K9) | skip
    refine wpAny_take (i := 7) (v := ?_) rfl (by kernel_rfl) (by kernel_rfl) (by kernel_rfl) (fun _ _ _ h => h) (Or.inl ⟨by rfl, ?_⟩) ?_
    rotate_left
    · intro w
      go_simp
      rw [Int.tmod_eq_emod_of_nonneg hK0]
      try with_reducible rfl
    refine wpAny_ready (rs := [12]) (by kernel_rfl) (by simp) ?_
    refine AllReady.cons rfl (fun K9 h9 => ?_) AllReady.nil
    go_simp
    go_wp2_with (go_at_call 65; refine (fac_any (7) _ (by omega) (by omega)).mono ?_; rintro e w' ⟨rfl, rfl⟩; rw [← Hf.out])
    first | (refine h9 _ _ ?_; clear h9 K9) | skip
    refine wpAny_take (i := 13) (v := ?_) rfl (by kernel_rfl) (by kernel_rfl) (by kernel_rfl) (fun _ _ _ h => h) (Or.inl ⟨by rfl, ?_⟩) ?_
    rotate_left
    · intro w
      go_simp
      try with_reducible rfl
    refine wpAny_ready (rs := [14]) (by kernel_rfl) (by simp) ?_
    refine AllReady.cons rfl (fun K9 h9 => ?_) AllReady.nil
    go_simp
    go_wp2_with fail
    first | (refine h9 _ _ ?_; clear h9 K9) | skip
    refine wpAny_ready (rs := [15]) (by kernel_rfl) (by simp) ?_
    refine AllReady.cons rfl (fun K9 h9 => ?_) AllReady.nil
    go_simp
    go_wp2_with (go_at_call 63; refine (one_any w.heap.size 3 w4.heap.size 5 3 [K % f, K, 0, f - 1, -1] (w4.alloc (.cells #[.int .i64 (K % f), .int .i64 K, .int .i64 0, .int .i64 (f - 1), .int .i64 (-1)] 3)).drew Hrx.out (by omega) Hax.out rfl (by omega) (by omega) hne).mono ?_; rintro e w9 hh; obtain ⟨r, he, hv9, hg9⟩ := Hpost.out _ _ hh; subst he; clear hh)
    first | (refine h9 _ _ ?_; clear h9 K9) | skip
    refine wpAny_take (i := 16) (v := ?_) rfl (by kernel_rfl) (by kernel_rfl) (by kernel_rfl) (fun _ _ _ h => h) (Or.inl ⟨by rfl, ?_⟩) ?_
    rotate_left
    · intro w
      go_simp
      try with_reducible rfl
    refine wpAny_take (i := 17) (v := ?_) rfl (by kernel_rfl) (by kernel_rfl) (by kernel_rfl) (fun _ _ _ h => h) (Or.inl ⟨by rfl, ?_⟩) ?_
    rotate_left
    · intro w
      go_simp
      try with_reducible rfl
    refine wpAny_done (by kernel_rfl) ?_ _
    all_goals go_wp2
    all_goals go_ret2
    all_goals exact ⟨_, r, rfl, by omega, by omega, hv9.out.1, hv9.out.2, hg9.out⟩
  · clear hva hvb
    obtain ⟨K, hK⟩ : ∃ K, K = k := ⟨_, rfl⟩
    rw [← hK]
    have hK0 : 0 ≤ K := by omega
    have hK1 : K ≤ 10000 := by omega
    clear hK
    go_wp2_with fail
    obtain ⟨f, hf⟩ : ∃ f, f = fac (0 : Int).toNat := ⟨_, rfl⟩
    have f1 := fac_pos (0 : Int).toNat
    have f2 := fac_le (n := (0 : Int).toNat) (by omega)
    rw [← hf] at f1 f2
    have Hf := hid hf
    have hf0 : f ≠ 0 := by omega
    have hf1 : (f == 0) = false := by rw [beq_eq_false_iff_ne]; omega
    have hwf : IntKind.i64.wrap (f - 1) = f - 1 := IntWalk.i64_in _ ⟨by omega, by omega⟩
    clear hf
    have hkm := Int.emod_nonneg K (show f ≠ 0 by omega)
    have hkl := Int.emod_lt_of_pos K (show 0 < f by omega)
    have hel : Hid (∀ j, j < [K % f, K, 0, f - 1, -1].length → -1 ≤ el [K % f, K, 0, f - 1, -1] j ∧ el [K % f, K, 0, f - 1, -1] j ≤ 100000) := fun j hj => by
      match j, hj with
      | 0, _ => show -1 ≤ K % f ∧ K % f ≤ 100000; omega
      | 1, _ => show -1 ≤ K ∧ K ≤ 100000; omega
      | 2, _ => show -1 ≤ (0 : Int) ∧ (0 : Int) ≤ 100000; omega
      | 3, _ => show -1 ≤ f - 1 ∧ f - 1 ≤ 100000; omega
      | 4, _ => show -1 ≤ (-1 : Int) ∧ (-1 : Int) ≤ 100000; omega
      | j + 5, h => exact absurd h (by simp)
    have Hrx : Hid (Rdr (w3.alloc (.cells #[.int .i64 (K % f), .int .i64 K, .int .i64 0, .int .i64 (f - 1), .int .i64 (-1)] 3)).drew w.heap.size 2) := hid (hr3.below (((Below.refl w3.heap.size w3).alloc (Nat.le_refl _) _).drew))
    have Hax : Hid (Arr (w3.alloc (.cells #[.int .i64 (K % f), .int .i64 K, .int .i64 0, .int .i64 (f - 1), .int .i64 (-1)] 3)).drew w3.heap.size 3 [K % f, K, 0, f - 1, -1]) := hid (Arr.made w3 3 [K % f, K, 0, f - 1, -1])
    have hne : w3.heap.size ≠ w.heap.size := by have := hr3.lt; omega
    have hbx : Below w.heap.size w (w3.alloc (.cells #[.int .i64 (K % f), .int .i64 K, .int .i64 0, .int .i64 (f - 1), .int .i64 (-1)] 3)).drew := (hb3.alloc hb3.size _).drew
    have Hpost : Hid (∀ (e : Ending) (w9 : World), Oned (w3.alloc (.cells #[.int .i64 (K % f), .int .i64 K, .int .i64 0, .int .i64 (f - 1), .int .i64 (-1)] 3)).drew w.heap.size 2 [K % f, K, 0, f - 1, -1] e w9 → ∃ r : Int, e = .returned (.int .i64 r) ∧ Hid (-1 ≤ r ∧ r ≤ 100000) ∧ Hid (Below w.heap.size w w9)) := by
      rintro e w9 ⟨j, hj, rfl, hr9, hg9⟩
      exact ⟨_, rfl, hid (hel.out j hj), hid (below_reader hbx hg9)⟩
    clear hkm hkl hel hbx
    refine wp_region_any (by kernel_rfl) ?_
    try (change wpAny _ _ _ _ _ _ _ (World.drew _))
    refine wpAny_take (i := 0) (v := ?_) rfl (by kernel_rfl) (by kernel_rfl) (by kernel_rfl) (fun _ _ _ h => h) (Or.inl ⟨by rfl, ?_⟩) ?_
    rotate_left
    · intro w
      go_simp
      try with_reducible rfl
    refine wpAny_take (i := 1) (v := ?_) rfl (by kernel_rfl) (by kernel_rfl) (by kernel_rfl) (fun _ _ _ h => h) (Or.inl ⟨by rfl, ?_⟩) ?_
    rotate_left
    · intro w
      go_simp
      try with_reducible rfl
    refine wpAny_take (i := 2) (v := ?_) rfl (by kernel_rfl) (by kernel_rfl) (by kernel_rfl) (fun _ _ _ h => h) (Or.inl ⟨by rfl, ?_⟩) ?_
    rotate_left
    · intro w
      go_simp
      try with_reducible rfl
    refine wpAny_take (i := 3) (v := ?_) rfl (by kernel_rfl) (by kernel_rfl) (by kernel_rfl) (fun _ _ _ h => h) (Or.inl ⟨by rfl, ?_⟩) ?_
    rotate_left
    · intro w
      go_simp
      try with_reducible rfl
    refine wpAny_take (i := 4) (v := ?_) rfl (by kernel_rfl) (by kernel_rfl) (by kernel_rfl) (fun _ _ _ h => h) (Or.inl ⟨by rfl, ?_⟩) ?_
    rotate_left
    · intro w
      go_simp
      try with_reducible rfl
    refine wpAny_take (i := 5) (v := ?_) rfl (by kernel_rfl) (by kernel_rfl) (by kernel_rfl) (fun _ _ _ h => h) (Or.inl ⟨by rfl, ?_⟩) ?_
    rotate_left
    · intro w
      go_simp
      try with_reducible rfl
    refine wpAny_take (i := 8) (v := ?_) rfl (by kernel_rfl) (by kernel_rfl) (by kernel_rfl) (fun _ _ _ h => h) (Or.inl ⟨by rfl, ?_⟩) ?_
    rotate_left
    · intro w
      go_simp
      try with_reducible rfl
    refine wpAny_take (i := 9) (v := ?_) rfl (by kernel_rfl) (by kernel_rfl) (by kernel_rfl) (fun _ _ _ h => h) (Or.inl ⟨by rfl, ?_⟩) ?_
    rotate_left
    · intro w
      go_simp
      try with_reducible rfl
    refine wpAny_take (i := 10) (v := ?_) rfl (by kernel_rfl) (by kernel_rfl) (by kernel_rfl) (fun _ _ _ h => h) (Or.inl ⟨by rfl, ?_⟩) ?_
    rotate_left
    · intro w
      go_simp
      try with_reducible rfl
    refine wpAny_take (i := 11) (v := ?_) rfl (by kernel_rfl) (by kernel_rfl) (by kernel_rfl) (fun _ _ _ h => h) (Or.inl ⟨by rfl, ?_⟩) ?_
    rotate_left
    · intro w
      go_simp
      try with_reducible rfl
    refine wpAny_ready (rs := [6]) (by kernel_rfl) (by simp) ?_
    refine AllReady.cons rfl (fun K9 h9 => ?_) AllReady.nil
    go_simp
    go_wp2_with (go_at_call 65; refine (fac_any (0) _ (by omega) (by omega)).mono ?_; rintro e w' ⟨rfl, rfl⟩; rw [← Hf.out])
    first | (refine h9 _ _ ?_; clear h9 K9) | skip
    refine wpAny_take (i := 7) (v := ?_) rfl (by kernel_rfl) (by kernel_rfl) (by kernel_rfl) (fun _ _ _ h => h) (Or.inl ⟨by rfl, ?_⟩) ?_
    rotate_left
    · intro w
      go_simp
      rw [Int.tmod_eq_emod_of_nonneg hK0]
      try with_reducible rfl
    refine wpAny_ready (rs := [12]) (by kernel_rfl) (by simp) ?_
    refine AllReady.cons rfl (fun K9 h9 => ?_) AllReady.nil
    go_simp
    go_wp2_with (go_at_call 65; refine (fac_any (0) _ (by omega) (by omega)).mono ?_; rintro e w' ⟨rfl, rfl⟩; rw [← Hf.out])
    first | (refine h9 _ _ ?_; clear h9 K9) | skip
    refine wpAny_take (i := 13) (v := ?_) rfl (by kernel_rfl) (by kernel_rfl) (by kernel_rfl) (fun _ _ _ h => h) (Or.inl ⟨by rfl, ?_⟩) ?_
    rotate_left
    · intro w
      go_simp
      try with_reducible rfl
    refine wpAny_ready (rs := [14]) (by kernel_rfl) (by simp) ?_
    refine AllReady.cons rfl (fun K9 h9 => ?_) AllReady.nil
    go_simp
    go_wp2_with fail
    first | (refine h9 _ _ ?_; clear h9 K9) | skip
    refine wpAny_ready (rs := [15]) (by kernel_rfl) (by simp) ?_
    refine AllReady.cons rfl (fun K9 h9 => ?_) AllReady.nil
    go_simp
    go_wp2_with (go_at_call 63; refine (one_any w.heap.size 2 w3.heap.size 5 3 [K % f, K, 0, f - 1, -1] (w3.alloc (.cells #[.int .i64 (K % f), .int .i64 K, .int .i64 0, .int .i64 (f - 1), .int .i64 (-1)] 3)).drew Hrx.out (by omega) Hax.out rfl (by omega) (by omega) hne).mono ?_; rintro e w9 hh; obtain ⟨r, he, hv9, hg9⟩ := Hpost.out _ _ hh; subst he; clear hh)
    first | (refine h9 _ _ ?_; clear h9 K9) | skip
    refine wpAny_take (i := 16) (v := ?_) rfl (by kernel_rfl) (by kernel_rfl) (by kernel_rfl) (fun _ _ _ h => h) (Or.inl ⟨by rfl, ?_⟩) ?_
    rotate_left
    · intro w
      go_simp
      try with_reducible rfl
    refine wpAny_take (i := 17) (v := ?_) rfl (by kernel_rfl) (by kernel_rfl) (by kernel_rfl) (fun _ _ _ h => h) (Or.inl ⟨by rfl, ?_⟩) ?_
    rotate_left
    · intro w
      go_simp
      try with_reducible rfl
    refine wpAny_done (by kernel_rfl) ?_ _
    all_goals go_wp2
    all_goals go_ret2
    all_goals exact ⟨_, r, rfl, by omega, by omega, hv9.out.1, hv9.out.2, hg9.out⟩
  · clear hva hvb
    obtain ⟨K, hK⟩ : ∃ K, K = k := ⟨_, rfl⟩
    rw [← hK]
    have hK0 : 0 ≤ K := by omega
    have hK1 : K ≤ 10000 := by omega
    clear hK
    go_wp2_with fail
    obtain ⟨f, hf⟩ : ∃ f, f = fac (1 : Int).toNat := ⟨_, rfl⟩
    have f1 := fac_pos (1 : Int).toNat
    have f2 := fac_le (n := (1 : Int).toNat) (by omega)
    rw [← hf] at f1 f2
    have Hf := hid hf
    have hf0 : f ≠ 0 := by omega
    have hf1 : (f == 0) = false := by rw [beq_eq_false_iff_ne]; omega
    have hwf : IntKind.i64.wrap (f - 1) = f - 1 := IntWalk.i64_in _ ⟨by omega, by omega⟩
    clear hf
    have hkm := Int.emod_nonneg K (show f ≠ 0 by omega)
    have hkl := Int.emod_lt_of_pos K (show 0 < f by omega)
    have hel : Hid (∀ j, j < [K % f, K, 0, f - 1, -1].length → -1 ≤ el [K % f, K, 0, f - 1, -1] j ∧ el [K % f, K, 0, f - 1, -1] j ≤ 100000) := fun j hj => by
      match j, hj with
      | 0, _ => show -1 ≤ K % f ∧ K % f ≤ 100000; omega
      | 1, _ => show -1 ≤ K ∧ K ≤ 100000; omega
      | 2, _ => show -1 ≤ (0 : Int) ∧ (0 : Int) ≤ 100000; omega
      | 3, _ => show -1 ≤ f - 1 ∧ f - 1 ≤ 100000; omega
      | 4, _ => show -1 ≤ (-1 : Int) ∧ (-1 : Int) ≤ 100000; omega
      | j + 5, h => exact absurd h (by simp)
    have Hrx : Hid (Rdr (w3.alloc (.cells #[.int .i64 (K % f), .int .i64 K, .int .i64 0, .int .i64 (f - 1), .int .i64 (-1)] 3)).drew w.heap.size 2) := hid (hr3.below (((Below.refl w3.heap.size w3).alloc (Nat.le_refl _) _).drew))
    have Hax : Hid (Arr (w3.alloc (.cells #[.int .i64 (K % f), .int .i64 K, .int .i64 0, .int .i64 (f - 1), .int .i64 (-1)] 3)).drew w3.heap.size 3 [K % f, K, 0, f - 1, -1]) := hid (Arr.made w3 3 [K % f, K, 0, f - 1, -1])
    have hne : w3.heap.size ≠ w.heap.size := by have := hr3.lt; omega
    have hbx : Below w.heap.size w (w3.alloc (.cells #[.int .i64 (K % f), .int .i64 K, .int .i64 0, .int .i64 (f - 1), .int .i64 (-1)] 3)).drew := (hb3.alloc hb3.size _).drew
    have Hpost : Hid (∀ (e : Ending) (w9 : World), Oned (w3.alloc (.cells #[.int .i64 (K % f), .int .i64 K, .int .i64 0, .int .i64 (f - 1), .int .i64 (-1)] 3)).drew w.heap.size 2 [K % f, K, 0, f - 1, -1] e w9 → ∃ r : Int, e = .returned (.int .i64 r) ∧ Hid (-1 ≤ r ∧ r ≤ 100000) ∧ Hid (Below w.heap.size w w9)) := by
      rintro e w9 ⟨j, hj, rfl, hr9, hg9⟩
      exact ⟨_, rfl, hid (hel.out j hj), hid (below_reader hbx hg9)⟩
    clear hkm hkl hel hbx
    refine wp_region_any (by kernel_rfl) ?_
    try (change wpAny _ _ _ _ _ _ _ (World.drew _))
    refine wpAny_take (i := 0) (v := ?_) rfl (by kernel_rfl) (by kernel_rfl) (by kernel_rfl) (fun _ _ _ h => h) (Or.inl ⟨by rfl, ?_⟩) ?_
    rotate_left
    · intro w
      go_simp
      try with_reducible rfl
    refine wpAny_take (i := 1) (v := ?_) rfl (by kernel_rfl) (by kernel_rfl) (by kernel_rfl) (fun _ _ _ h => h) (Or.inl ⟨by rfl, ?_⟩) ?_
    rotate_left
    · intro w
      go_simp
      try with_reducible rfl
    refine wpAny_take (i := 2) (v := ?_) rfl (by kernel_rfl) (by kernel_rfl) (by kernel_rfl) (fun _ _ _ h => h) (Or.inl ⟨by rfl, ?_⟩) ?_
    rotate_left
    · intro w
      go_simp
      try with_reducible rfl
    refine wpAny_take (i := 3) (v := ?_) rfl (by kernel_rfl) (by kernel_rfl) (by kernel_rfl) (fun _ _ _ h => h) (Or.inl ⟨by rfl, ?_⟩) ?_
    rotate_left
    · intro w
      go_simp
      try with_reducible rfl
    refine wpAny_take (i := 4) (v := ?_) rfl (by kernel_rfl) (by kernel_rfl) (by kernel_rfl) (fun _ _ _ h => h) (Or.inl ⟨by rfl, ?_⟩) ?_
    rotate_left
    · intro w
      go_simp
      try with_reducible rfl
    refine wpAny_take (i := 5) (v := ?_) rfl (by kernel_rfl) (by kernel_rfl) (by kernel_rfl) (fun _ _ _ h => h) (Or.inl ⟨by rfl, ?_⟩) ?_
    rotate_left
    · intro w
      go_simp
      try with_reducible rfl
    refine wpAny_take (i := 8) (v := ?_) rfl (by kernel_rfl) (by kernel_rfl) (by kernel_rfl) (fun _ _ _ h => h) (Or.inl ⟨by rfl, ?_⟩) ?_
    rotate_left
    · intro w
      go_simp
      try with_reducible rfl
    refine wpAny_take (i := 9) (v := ?_) rfl (by kernel_rfl) (by kernel_rfl) (by kernel_rfl) (fun _ _ _ h => h) (Or.inl ⟨by rfl, ?_⟩) ?_
    rotate_left
    · intro w
      go_simp
      try with_reducible rfl
    refine wpAny_take (i := 10) (v := ?_) rfl (by kernel_rfl) (by kernel_rfl) (by kernel_rfl) (fun _ _ _ h => h) (Or.inl ⟨by rfl, ?_⟩) ?_
    rotate_left
    · intro w
      go_simp
      try with_reducible rfl
    refine wpAny_take (i := 11) (v := ?_) rfl (by kernel_rfl) (by kernel_rfl) (by kernel_rfl) (fun _ _ _ h => h) (Or.inl ⟨by rfl, ?_⟩) ?_
    rotate_left
    · intro w
      go_simp
      try with_reducible rfl
    refine wpAny_ready (rs := [6]) (by kernel_rfl) (by simp) ?_
    refine AllReady.cons rfl (fun K9 h9 => ?_) AllReady.nil
    go_simp
    go_wp2_with (go_at_call 65; refine (fac_any (1) _ (by omega) (by omega)).mono ?_; rintro e w' ⟨rfl, rfl⟩; rw [← Hf.out])
    first | (refine h9 _ _ ?_; clear h9 K9) | skip
    refine wpAny_take (i := 7) (v := ?_) rfl (by kernel_rfl) (by kernel_rfl) (by kernel_rfl) (fun _ _ _ h => h) (Or.inl ⟨by rfl, ?_⟩) ?_
    rotate_left
    · intro w
      go_simp
      rw [Int.tmod_eq_emod_of_nonneg hK0]
      try with_reducible rfl
    refine wpAny_ready (rs := [12]) (by kernel_rfl) (by simp) ?_
    refine AllReady.cons rfl (fun K9 h9 => ?_) AllReady.nil
    go_simp
    go_wp2_with (go_at_call 65; refine (fac_any (1) _ (by omega) (by omega)).mono ?_; rintro e w' ⟨rfl, rfl⟩; rw [← Hf.out])
    first | (refine h9 _ _ ?_; clear h9 K9) | skip
    refine wpAny_take (i := 13) (v := ?_) rfl (by kernel_rfl) (by kernel_rfl) (by kernel_rfl) (fun _ _ _ h => h) (Or.inl ⟨by rfl, ?_⟩) ?_
    rotate_left
    · intro w
      go_simp
      try with_reducible rfl
    refine wpAny_ready (rs := [14]) (by kernel_rfl) (by simp) ?_
    refine AllReady.cons rfl (fun K9 h9 => ?_) AllReady.nil
    go_simp
    go_wp2_with fail
    first | (refine h9 _ _ ?_; clear h9 K9) | skip
    refine wpAny_ready (rs := [15]) (by kernel_rfl) (by simp) ?_
    refine AllReady.cons rfl (fun K9 h9 => ?_) AllReady.nil
    go_simp
    go_wp2_with (go_at_call 63; refine (one_any w.heap.size 2 w3.heap.size 5 3 [K % f, K, 0, f - 1, -1] (w3.alloc (.cells #[.int .i64 (K % f), .int .i64 K, .int .i64 0, .int .i64 (f - 1), .int .i64 (-1)] 3)).drew Hrx.out (by omega) Hax.out rfl (by omega) (by omega) hne).mono ?_; rintro e w9 hh; obtain ⟨r, he, hv9, hg9⟩ := Hpost.out _ _ hh; subst he; clear hh)
    first | (refine h9 _ _ ?_; clear h9 K9) | skip
    refine wpAny_take (i := 16) (v := ?_) rfl (by kernel_rfl) (by kernel_rfl) (by kernel_rfl) (fun _ _ _ h => h) (Or.inl ⟨by rfl, ?_⟩) ?_
    rotate_left
    · intro w
      go_simp
      try with_reducible rfl
    refine wpAny_take (i := 17) (v := ?_) rfl (by kernel_rfl) (by kernel_rfl) (by kernel_rfl) (fun _ _ _ h => h) (Or.inl ⟨by rfl, ?_⟩) ?_
    rotate_left
    · intro w
      go_simp
      try with_reducible rfl
    refine wpAny_done (by kernel_rfl) ?_ _
    all_goals go_wp2
    all_goals go_ret2
    all_goals exact ⟨_, r, rfl, by omega, by omega, hv9.out.1, hv9.out.2, hg9.out⟩
  · clear hva hvb
    obtain ⟨K, hK⟩ : ∃ K, K = k := ⟨_, rfl⟩
    rw [← hK]
    have hK0 : 0 ≤ K := by omega
    have hK1 : K ≤ 10000 := by omega
    clear hK
    go_wp2_with fail
    obtain ⟨f, hf⟩ : ∃ f, f = fac (2 : Int).toNat := ⟨_, rfl⟩
    have f1 := fac_pos (2 : Int).toNat
    have f2 := fac_le (n := (2 : Int).toNat) (by omega)
    rw [← hf] at f1 f2
    have Hf := hid hf
    have hf0 : f ≠ 0 := by omega
    have hf1 : (f == 0) = false := by rw [beq_eq_false_iff_ne]; omega
    have hwf : IntKind.i64.wrap (f - 1) = f - 1 := IntWalk.i64_in _ ⟨by omega, by omega⟩
    clear hf
    have hkm := Int.emod_nonneg K (show f ≠ 0 by omega)
    have hkl := Int.emod_lt_of_pos K (show 0 < f by omega)
    have hel : Hid (∀ j, j < [K % f, K, 0, f - 1, -1].length → -1 ≤ el [K % f, K, 0, f - 1, -1] j ∧ el [K % f, K, 0, f - 1, -1] j ≤ 100000) := fun j hj => by
      match j, hj with
      | 0, _ => show -1 ≤ K % f ∧ K % f ≤ 100000; omega
      | 1, _ => show -1 ≤ K ∧ K ≤ 100000; omega
      | 2, _ => show -1 ≤ (0 : Int) ∧ (0 : Int) ≤ 100000; omega
      | 3, _ => show -1 ≤ f - 1 ∧ f - 1 ≤ 100000; omega
      | 4, _ => show -1 ≤ (-1 : Int) ∧ (-1 : Int) ≤ 100000; omega
      | j + 5, h => exact absurd h (by simp)
    have Hrx : Hid (Rdr (w3.alloc (.cells #[.int .i64 (K % f), .int .i64 K, .int .i64 0, .int .i64 (f - 1), .int .i64 (-1)] 3)).drew w.heap.size 2) := hid (hr3.below (((Below.refl w3.heap.size w3).alloc (Nat.le_refl _) _).drew))
    have Hax : Hid (Arr (w3.alloc (.cells #[.int .i64 (K % f), .int .i64 K, .int .i64 0, .int .i64 (f - 1), .int .i64 (-1)] 3)).drew w3.heap.size 3 [K % f, K, 0, f - 1, -1]) := hid (Arr.made w3 3 [K % f, K, 0, f - 1, -1])
    have hne : w3.heap.size ≠ w.heap.size := by have := hr3.lt; omega
    have hbx : Below w.heap.size w (w3.alloc (.cells #[.int .i64 (K % f), .int .i64 K, .int .i64 0, .int .i64 (f - 1), .int .i64 (-1)] 3)).drew := (hb3.alloc hb3.size _).drew
    have Hpost : Hid (∀ (e : Ending) (w9 : World), Oned (w3.alloc (.cells #[.int .i64 (K % f), .int .i64 K, .int .i64 0, .int .i64 (f - 1), .int .i64 (-1)] 3)).drew w.heap.size 2 [K % f, K, 0, f - 1, -1] e w9 → ∃ r : Int, e = .returned (.int .i64 r) ∧ Hid (-1 ≤ r ∧ r ≤ 100000) ∧ Hid (Below w.heap.size w w9)) := by
      rintro e w9 ⟨j, hj, rfl, hr9, hg9⟩
      exact ⟨_, rfl, hid (hel.out j hj), hid (below_reader hbx hg9)⟩
    clear hkm hkl hel hbx
    refine wp_region_any (by kernel_rfl) ?_
    try (change wpAny _ _ _ _ _ _ _ (World.drew _))
    refine wpAny_take (i := 0) (v := ?_) rfl (by kernel_rfl) (by kernel_rfl) (by kernel_rfl) (fun _ _ _ h => h) (Or.inl ⟨by rfl, ?_⟩) ?_
    rotate_left
    · intro w
      go_simp
      try with_reducible rfl
    refine wpAny_take (i := 1) (v := ?_) rfl (by kernel_rfl) (by kernel_rfl) (by kernel_rfl) (fun _ _ _ h => h) (Or.inl ⟨by rfl, ?_⟩) ?_
    rotate_left
    · intro w
      go_simp
      try with_reducible rfl
    refine wpAny_take (i := 2) (v := ?_) rfl (by kernel_rfl) (by kernel_rfl) (by kernel_rfl) (fun _ _ _ h => h) (Or.inl ⟨by rfl, ?_⟩) ?_
    rotate_left
    · intro w
      go_simp
      try with_reducible rfl
    refine wpAny_take (i := 3) (v := ?_) rfl (by kernel_rfl) (by kernel_rfl) (by kernel_rfl) (fun _ _ _ h => h) (Or.inl ⟨by rfl, ?_⟩) ?_
    rotate_left
    · intro w
      go_simp
      try with_reducible rfl
    refine wpAny_take (i := 4) (v := ?_) rfl (by kernel_rfl) (by kernel_rfl) (by kernel_rfl) (fun _ _ _ h => h) (Or.inl ⟨by rfl, ?_⟩) ?_
    rotate_left
    · intro w
      go_simp
      try with_reducible rfl
    refine wpAny_take (i := 5) (v := ?_) rfl (by kernel_rfl) (by kernel_rfl) (by kernel_rfl) (fun _ _ _ h => h) (Or.inl ⟨by rfl, ?_⟩) ?_
    rotate_left
    · intro w
      go_simp
      try with_reducible rfl
    refine wpAny_take (i := 8) (v := ?_) rfl (by kernel_rfl) (by kernel_rfl) (by kernel_rfl) (fun _ _ _ h => h) (Or.inl ⟨by rfl, ?_⟩) ?_
    rotate_left
    · intro w
      go_simp
      try with_reducible rfl
    refine wpAny_take (i := 9) (v := ?_) rfl (by kernel_rfl) (by kernel_rfl) (by kernel_rfl) (fun _ _ _ h => h) (Or.inl ⟨by rfl, ?_⟩) ?_
    rotate_left
    · intro w
      go_simp
      try with_reducible rfl
    refine wpAny_take (i := 10) (v := ?_) rfl (by kernel_rfl) (by kernel_rfl) (by kernel_rfl) (fun _ _ _ h => h) (Or.inl ⟨by rfl, ?_⟩) ?_
    rotate_left
    · intro w
      go_simp
      try with_reducible rfl
    refine wpAny_take (i := 11) (v := ?_) rfl (by kernel_rfl) (by kernel_rfl) (by kernel_rfl) (fun _ _ _ h => h) (Or.inl ⟨by rfl, ?_⟩) ?_
    rotate_left
    · intro w
      go_simp
      try with_reducible rfl
    refine wpAny_ready (rs := [6]) (by kernel_rfl) (by simp) ?_
    refine AllReady.cons rfl (fun K9 h9 => ?_) AllReady.nil
    go_simp
    go_wp2_with (go_at_call 65; refine (fac_any (2) _ (by omega) (by omega)).mono ?_; rintro e w' ⟨rfl, rfl⟩; rw [← Hf.out])
    first | (refine h9 _ _ ?_; clear h9 K9) | skip
    refine wpAny_take (i := 7) (v := ?_) rfl (by kernel_rfl) (by kernel_rfl) (by kernel_rfl) (fun _ _ _ h => h) (Or.inl ⟨by rfl, ?_⟩) ?_
    rotate_left
    · intro w
      go_simp
      rw [Int.tmod_eq_emod_of_nonneg hK0]
      try with_reducible rfl
    refine wpAny_ready (rs := [12]) (by kernel_rfl) (by simp) ?_
    refine AllReady.cons rfl (fun K9 h9 => ?_) AllReady.nil
    go_simp
    go_wp2_with (go_at_call 65; refine (fac_any (2) _ (by omega) (by omega)).mono ?_; rintro e w' ⟨rfl, rfl⟩; rw [← Hf.out])
    first | (refine h9 _ _ ?_; clear h9 K9) | skip
    refine wpAny_take (i := 13) (v := ?_) rfl (by kernel_rfl) (by kernel_rfl) (by kernel_rfl) (fun _ _ _ h => h) (Or.inl ⟨by rfl, ?_⟩) ?_
    rotate_left
    · intro w
      go_simp
      try with_reducible rfl
    refine wpAny_ready (rs := [14]) (by kernel_rfl) (by simp) ?_
    refine AllReady.cons rfl (fun K9 h9 => ?_) AllReady.nil
    go_simp
    go_wp2_with fail
    first | (refine h9 _ _ ?_; clear h9 K9) | skip
    refine wpAny_ready (rs := [15]) (by kernel_rfl) (by simp) ?_
    refine AllReady.cons rfl (fun K9 h9 => ?_) AllReady.nil
    go_simp
    go_wp2_with (go_at_call 63; refine (one_any w.heap.size 2 w3.heap.size 5 3 [K % f, K, 0, f - 1, -1] (w3.alloc (.cells #[.int .i64 (K % f), .int .i64 K, .int .i64 0, .int .i64 (f - 1), .int .i64 (-1)] 3)).drew Hrx.out (by omega) Hax.out rfl (by omega) (by omega) hne).mono ?_; rintro e w9 hh; obtain ⟨r, he, hv9, hg9⟩ := Hpost.out _ _ hh; subst he; clear hh)
    first | (refine h9 _ _ ?_; clear h9 K9) | skip
    refine wpAny_take (i := 16) (v := ?_) rfl (by kernel_rfl) (by kernel_rfl) (by kernel_rfl) (fun _ _ _ h => h) (Or.inl ⟨by rfl, ?_⟩) ?_
    rotate_left
    · intro w
      go_simp
      try with_reducible rfl
    refine wpAny_take (i := 17) (v := ?_) rfl (by kernel_rfl) (by kernel_rfl) (by kernel_rfl) (fun _ _ _ h => h) (Or.inl ⟨by rfl, ?_⟩) ?_
    rotate_left
    · intro w
      go_simp
      try with_reducible rfl
    refine wpAny_done (by kernel_rfl) ?_ _
    all_goals go_wp2
    all_goals go_ret2
    all_goals exact ⟨_, r, rfl, by omega, by omega, hv9.out.1, hv9.out.2, hg9.out⟩
  · clear hva hvb
    obtain ⟨K, hK⟩ : ∃ K, K = k := ⟨_, rfl⟩
    rw [← hK]
    have hK0 : 0 ≤ K := by omega
    have hK1 : K ≤ 10000 := by omega
    clear hK
    go_wp2_with fail
    obtain ⟨f, hf⟩ : ∃ f, f = fac (3 : Int).toNat := ⟨_, rfl⟩
    have f1 := fac_pos (3 : Int).toNat
    have f2 := fac_le (n := (3 : Int).toNat) (by omega)
    rw [← hf] at f1 f2
    have Hf := hid hf
    have hf0 : f ≠ 0 := by omega
    have hf1 : (f == 0) = false := by rw [beq_eq_false_iff_ne]; omega
    have hwf : IntKind.i64.wrap (f - 1) = f - 1 := IntWalk.i64_in _ ⟨by omega, by omega⟩
    clear hf
    have hkm := Int.emod_nonneg K (show f ≠ 0 by omega)
    have hkl := Int.emod_lt_of_pos K (show 0 < f by omega)
    have hel : Hid (∀ j, j < [K % f, K, 0, f - 1, -1].length → -1 ≤ el [K % f, K, 0, f - 1, -1] j ∧ el [K % f, K, 0, f - 1, -1] j ≤ 100000) := fun j hj => by
      match j, hj with
      | 0, _ => show -1 ≤ K % f ∧ K % f ≤ 100000; omega
      | 1, _ => show -1 ≤ K ∧ K ≤ 100000; omega
      | 2, _ => show -1 ≤ (0 : Int) ∧ (0 : Int) ≤ 100000; omega
      | 3, _ => show -1 ≤ f - 1 ∧ f - 1 ≤ 100000; omega
      | 4, _ => show -1 ≤ (-1 : Int) ∧ (-1 : Int) ≤ 100000; omega
      | j + 5, h => exact absurd h (by simp)
    have Hrx : Hid (Rdr (w3.alloc (.cells #[.int .i64 (K % f), .int .i64 K, .int .i64 0, .int .i64 (f - 1), .int .i64 (-1)] 3)).drew w.heap.size 2) := hid (hr3.below (((Below.refl w3.heap.size w3).alloc (Nat.le_refl _) _).drew))
    have Hax : Hid (Arr (w3.alloc (.cells #[.int .i64 (K % f), .int .i64 K, .int .i64 0, .int .i64 (f - 1), .int .i64 (-1)] 3)).drew w3.heap.size 3 [K % f, K, 0, f - 1, -1]) := hid (Arr.made w3 3 [K % f, K, 0, f - 1, -1])
    have hne : w3.heap.size ≠ w.heap.size := by have := hr3.lt; omega
    have hbx : Below w.heap.size w (w3.alloc (.cells #[.int .i64 (K % f), .int .i64 K, .int .i64 0, .int .i64 (f - 1), .int .i64 (-1)] 3)).drew := (hb3.alloc hb3.size _).drew
    have Hpost : Hid (∀ (e : Ending) (w9 : World), Oned (w3.alloc (.cells #[.int .i64 (K % f), .int .i64 K, .int .i64 0, .int .i64 (f - 1), .int .i64 (-1)] 3)).drew w.heap.size 2 [K % f, K, 0, f - 1, -1] e w9 → ∃ r : Int, e = .returned (.int .i64 r) ∧ Hid (-1 ≤ r ∧ r ≤ 100000) ∧ Hid (Below w.heap.size w w9)) := by
      rintro e w9 ⟨j, hj, rfl, hr9, hg9⟩
      exact ⟨_, rfl, hid (hel.out j hj), hid (below_reader hbx hg9)⟩
    clear hkm hkl hel hbx
    refine wp_region_any (by kernel_rfl) ?_
    try (change wpAny _ _ _ _ _ _ _ (World.drew _))
    refine wpAny_take (i := 0) (v := ?_) rfl (by kernel_rfl) (by kernel_rfl) (by kernel_rfl) (fun _ _ _ h => h) (Or.inl ⟨by rfl, ?_⟩) ?_
    rotate_left
    · intro w
      go_simp
      try with_reducible rfl
    refine wpAny_take (i := 1) (v := ?_) rfl (by kernel_rfl) (by kernel_rfl) (by kernel_rfl) (fun _ _ _ h => h) (Or.inl ⟨by rfl, ?_⟩) ?_
    rotate_left
    · intro w
      go_simp
      try with_reducible rfl
    refine wpAny_take (i := 2) (v := ?_) rfl (by kernel_rfl) (by kernel_rfl) (by kernel_rfl) (fun _ _ _ h => h) (Or.inl ⟨by rfl, ?_⟩) ?_
    rotate_left
    · intro w
      go_simp
      try with_reducible rfl
    refine wpAny_take (i := 3) (v := ?_) rfl (by kernel_rfl) (by kernel_rfl) (by kernel_rfl) (fun _ _ _ h => h) (Or.inl ⟨by rfl, ?_⟩) ?_
    rotate_left
    · intro w
      go_simp
      try with_reducible rfl
    refine wpAny_take (i := 4) (v := ?_) rfl (by kernel_rfl) (by kernel_rfl) (by kernel_rfl) (fun _ _ _ h => h) (Or.inl ⟨by rfl, ?_⟩) ?_
    rotate_left
    · intro w
      go_simp
      try with_reducible rfl
    refine wpAny_take (i := 5) (v := ?_) rfl (by kernel_rfl) (by kernel_rfl) (by kernel_rfl) (fun _ _ _ h => h) (Or.inl ⟨by rfl, ?_⟩) ?_
    rotate_left
    · intro w
      go_simp
      try with_reducible rfl
    refine wpAny_take (i := 8) (v := ?_) rfl (by kernel_rfl) (by kernel_rfl) (by kernel_rfl) (fun _ _ _ h => h) (Or.inl ⟨by rfl, ?_⟩) ?_
    rotate_left
    · intro w
      go_simp
      try with_reducible rfl
    refine wpAny_take (i := 9) (v := ?_) rfl (by kernel_rfl) (by kernel_rfl) (by kernel_rfl) (fun _ _ _ h => h) (Or.inl ⟨by rfl, ?_⟩) ?_
    rotate_left
    · intro w
      go_simp
      try with_reducible rfl
    refine wpAny_take (i := 10) (v := ?_) rfl (by kernel_rfl) (by kernel_rfl) (by kernel_rfl) (fun _ _ _ h => h) (Or.inl ⟨by rfl, ?_⟩) ?_
    rotate_left
    · intro w
      go_simp
      try with_reducible rfl
    refine wpAny_take (i := 11) (v := ?_) rfl (by kernel_rfl) (by kernel_rfl) (by kernel_rfl) (fun _ _ _ h => h) (Or.inl ⟨by rfl, ?_⟩) ?_
    rotate_left
    · intro w
      go_simp
      try with_reducible rfl
    refine wpAny_ready (rs := [6]) (by kernel_rfl) (by simp) ?_
    refine AllReady.cons rfl (fun K9 h9 => ?_) AllReady.nil
    go_simp
    go_wp2_with (go_at_call 65; refine (fac_any (3) _ (by omega) (by omega)).mono ?_; rintro e w' ⟨rfl, rfl⟩; rw [← Hf.out])
    first | (refine h9 _ _ ?_; clear h9 K9) | skip
    refine wpAny_take (i := 7) (v := ?_) rfl (by kernel_rfl) (by kernel_rfl) (by kernel_rfl) (fun _ _ _ h => h) (Or.inl ⟨by rfl, ?_⟩) ?_
    rotate_left
    · intro w
      go_simp
      rw [Int.tmod_eq_emod_of_nonneg hK0]
      try with_reducible rfl
    refine wpAny_ready (rs := [12]) (by kernel_rfl) (by simp) ?_
    refine AllReady.cons rfl (fun K9 h9 => ?_) AllReady.nil
    go_simp
    go_wp2_with (go_at_call 65; refine (fac_any (3) _ (by omega) (by omega)).mono ?_; rintro e w' ⟨rfl, rfl⟩; rw [← Hf.out])
    first | (refine h9 _ _ ?_; clear h9 K9) | skip
    refine wpAny_take (i := 13) (v := ?_) rfl (by kernel_rfl) (by kernel_rfl) (by kernel_rfl) (fun _ _ _ h => h) (Or.inl ⟨by rfl, ?_⟩) ?_
    rotate_left
    · intro w
      go_simp
      try with_reducible rfl
    refine wpAny_ready (rs := [14]) (by kernel_rfl) (by simp) ?_
    refine AllReady.cons rfl (fun K9 h9 => ?_) AllReady.nil
    go_simp
    go_wp2_with fail
    first | (refine h9 _ _ ?_; clear h9 K9) | skip
    refine wpAny_ready (rs := [15]) (by kernel_rfl) (by simp) ?_
    refine AllReady.cons rfl (fun K9 h9 => ?_) AllReady.nil
    go_simp
    go_wp2_with (go_at_call 63; refine (one_any w.heap.size 2 w3.heap.size 5 3 [K % f, K, 0, f - 1, -1] (w3.alloc (.cells #[.int .i64 (K % f), .int .i64 K, .int .i64 0, .int .i64 (f - 1), .int .i64 (-1)] 3)).drew Hrx.out (by omega) Hax.out rfl (by omega) (by omega) hne).mono ?_; rintro e w9 hh; obtain ⟨r, he, hv9, hg9⟩ := Hpost.out _ _ hh; subst he; clear hh)
    first | (refine h9 _ _ ?_; clear h9 K9) | skip
    refine wpAny_take (i := 16) (v := ?_) rfl (by kernel_rfl) (by kernel_rfl) (by kernel_rfl) (fun _ _ _ h => h) (Or.inl ⟨by rfl, ?_⟩) ?_
    rotate_left
    · intro w
      go_simp
      try with_reducible rfl
    refine wpAny_take (i := 17) (v := ?_) rfl (by kernel_rfl) (by kernel_rfl) (by kernel_rfl) (fun _ _ _ h => h) (Or.inl ⟨by rfl, ?_⟩) ?_
    rotate_left
    · intro w
      go_simp
      try with_reducible rfl
    refine wpAny_done (by kernel_rfl) ?_ _
    all_goals go_wp2
    all_goals go_ret2
    all_goals exact ⟨_, r, rfl, by omega, by omega, hv9.out.1, hv9.out.2, hg9.out⟩
  · clear hva hvb
    obtain ⟨K, hK⟩ : ∃ K, K = k := ⟨_, rfl⟩
    rw [← hK]
    have hK0 : 0 ≤ K := by omega
    have hK1 : K ≤ 10000 := by omega
    clear hK
    go_wp2_with fail
    obtain ⟨f, hf⟩ : ∃ f, f = fac (4 : Int).toNat := ⟨_, rfl⟩
    have f1 := fac_pos (4 : Int).toNat
    have f2 := fac_le (n := (4 : Int).toNat) (by omega)
    rw [← hf] at f1 f2
    have Hf := hid hf
    have hf0 : f ≠ 0 := by omega
    have hf1 : (f == 0) = false := by rw [beq_eq_false_iff_ne]; omega
    have hwf : IntKind.i64.wrap (f - 1) = f - 1 := IntWalk.i64_in _ ⟨by omega, by omega⟩
    clear hf
    have hkm := Int.emod_nonneg K (show f ≠ 0 by omega)
    have hkl := Int.emod_lt_of_pos K (show 0 < f by omega)
    have hel : Hid (∀ j, j < [K % f, K, 0, f - 1, -1].length → -1 ≤ el [K % f, K, 0, f - 1, -1] j ∧ el [K % f, K, 0, f - 1, -1] j ≤ 100000) := fun j hj => by
      match j, hj with
      | 0, _ => show -1 ≤ K % f ∧ K % f ≤ 100000; omega
      | 1, _ => show -1 ≤ K ∧ K ≤ 100000; omega
      | 2, _ => show -1 ≤ (0 : Int) ∧ (0 : Int) ≤ 100000; omega
      | 3, _ => show -1 ≤ f - 1 ∧ f - 1 ≤ 100000; omega
      | 4, _ => show -1 ≤ (-1 : Int) ∧ (-1 : Int) ≤ 100000; omega
      | j + 5, h => exact absurd h (by simp)
    have Hrx : Hid (Rdr (w3.alloc (.cells #[.int .i64 (K % f), .int .i64 K, .int .i64 0, .int .i64 (f - 1), .int .i64 (-1)] 3)).drew w.heap.size 2) := hid (hr3.below (((Below.refl w3.heap.size w3).alloc (Nat.le_refl _) _).drew))
    have Hax : Hid (Arr (w3.alloc (.cells #[.int .i64 (K % f), .int .i64 K, .int .i64 0, .int .i64 (f - 1), .int .i64 (-1)] 3)).drew w3.heap.size 3 [K % f, K, 0, f - 1, -1]) := hid (Arr.made w3 3 [K % f, K, 0, f - 1, -1])
    have hne : w3.heap.size ≠ w.heap.size := by have := hr3.lt; omega
    have hbx : Below w.heap.size w (w3.alloc (.cells #[.int .i64 (K % f), .int .i64 K, .int .i64 0, .int .i64 (f - 1), .int .i64 (-1)] 3)).drew := (hb3.alloc hb3.size _).drew
    have Hpost : Hid (∀ (e : Ending) (w9 : World), Oned (w3.alloc (.cells #[.int .i64 (K % f), .int .i64 K, .int .i64 0, .int .i64 (f - 1), .int .i64 (-1)] 3)).drew w.heap.size 2 [K % f, K, 0, f - 1, -1] e w9 → ∃ r : Int, e = .returned (.int .i64 r) ∧ Hid (-1 ≤ r ∧ r ≤ 100000) ∧ Hid (Below w.heap.size w w9)) := by
      rintro e w9 ⟨j, hj, rfl, hr9, hg9⟩
      exact ⟨_, rfl, hid (hel.out j hj), hid (below_reader hbx hg9)⟩
    clear hkm hkl hel hbx
    refine wp_region_any (by kernel_rfl) ?_
    try (change wpAny _ _ _ _ _ _ _ (World.drew _))
    refine wpAny_take (i := 0) (v := ?_) rfl (by kernel_rfl) (by kernel_rfl) (by kernel_rfl) (fun _ _ _ h => h) (Or.inl ⟨by rfl, ?_⟩) ?_
    rotate_left
    · intro w
      go_simp
      try with_reducible rfl
    refine wpAny_take (i := 1) (v := ?_) rfl (by kernel_rfl) (by kernel_rfl) (by kernel_rfl) (fun _ _ _ h => h) (Or.inl ⟨by rfl, ?_⟩) ?_
    rotate_left
    · intro w
      go_simp
      try with_reducible rfl
    refine wpAny_take (i := 2) (v := ?_) rfl (by kernel_rfl) (by kernel_rfl) (by kernel_rfl) (fun _ _ _ h => h) (Or.inl ⟨by rfl, ?_⟩) ?_
    rotate_left
    · intro w
      go_simp
      try with_reducible rfl
    refine wpAny_take (i := 3) (v := ?_) rfl (by kernel_rfl) (by kernel_rfl) (by kernel_rfl) (fun _ _ _ h => h) (Or.inl ⟨by rfl, ?_⟩) ?_
    rotate_left
    · intro w
      go_simp
      try with_reducible rfl
    refine wpAny_take (i := 4) (v := ?_) rfl (by kernel_rfl) (by kernel_rfl) (by kernel_rfl) (fun _ _ _ h => h) (Or.inl ⟨by rfl, ?_⟩) ?_
    rotate_left
    · intro w
      go_simp
      try with_reducible rfl
    refine wpAny_take (i := 5) (v := ?_) rfl (by kernel_rfl) (by kernel_rfl) (by kernel_rfl) (fun _ _ _ h => h) (Or.inl ⟨by rfl, ?_⟩) ?_
    rotate_left
    · intro w
      go_simp
      try with_reducible rfl
    refine wpAny_take (i := 8) (v := ?_) rfl (by kernel_rfl) (by kernel_rfl) (by kernel_rfl) (fun _ _ _ h => h) (Or.inl ⟨by rfl, ?_⟩) ?_
    rotate_left
    · intro w
      go_simp
      try with_reducible rfl
    refine wpAny_take (i := 9) (v := ?_) rfl (by kernel_rfl) (by kernel_rfl) (by kernel_rfl) (fun _ _ _ h => h) (Or.inl ⟨by rfl, ?_⟩) ?_
    rotate_left
    · intro w
      go_simp
      try with_reducible rfl
    refine wpAny_take (i := 10) (v := ?_) rfl (by kernel_rfl) (by kernel_rfl) (by kernel_rfl) (fun _ _ _ h => h) (Or.inl ⟨by rfl, ?_⟩) ?_
    rotate_left
    · intro w
      go_simp
      try with_reducible rfl
    refine wpAny_take (i := 11) (v := ?_) rfl (by kernel_rfl) (by kernel_rfl) (by kernel_rfl) (fun _ _ _ h => h) (Or.inl ⟨by rfl, ?_⟩) ?_
    rotate_left
    · intro w
      go_simp
      try with_reducible rfl
    refine wpAny_ready (rs := [6]) (by kernel_rfl) (by simp) ?_
    refine AllReady.cons rfl (fun K9 h9 => ?_) AllReady.nil
    go_simp
    go_wp2_with (go_at_call 65; refine (fac_any (4) _ (by omega) (by omega)).mono ?_; rintro e w' ⟨rfl, rfl⟩; rw [← Hf.out])
    first | (refine h9 _ _ ?_; clear h9 K9) | skip
    refine wpAny_take (i := 7) (v := ?_) rfl (by kernel_rfl) (by kernel_rfl) (by kernel_rfl) (fun _ _ _ h => h) (Or.inl ⟨by rfl, ?_⟩) ?_
    rotate_left
    · intro w
      go_simp
      rw [Int.tmod_eq_emod_of_nonneg hK0]
      try with_reducible rfl
    refine wpAny_ready (rs := [12]) (by kernel_rfl) (by simp) ?_
    refine AllReady.cons rfl (fun K9 h9 => ?_) AllReady.nil
    go_simp
    go_wp2_with (go_at_call 65; refine (fac_any (4) _ (by omega) (by omega)).mono ?_; rintro e w' ⟨rfl, rfl⟩; rw [← Hf.out])
    first | (refine h9 _ _ ?_; clear h9 K9) | skip
    refine wpAny_take (i := 13) (v := ?_) rfl (by kernel_rfl) (by kernel_rfl) (by kernel_rfl) (fun _ _ _ h => h) (Or.inl ⟨by rfl, ?_⟩) ?_
    rotate_left
    · intro w
      go_simp
      try with_reducible rfl
    refine wpAny_ready (rs := [14]) (by kernel_rfl) (by simp) ?_
    refine AllReady.cons rfl (fun K9 h9 => ?_) AllReady.nil
    go_simp
    go_wp2_with fail
    first | (refine h9 _ _ ?_; clear h9 K9) | skip
    refine wpAny_ready (rs := [15]) (by kernel_rfl) (by simp) ?_
    refine AllReady.cons rfl (fun K9 h9 => ?_) AllReady.nil
    go_simp
    go_wp2_with (go_at_call 63; refine (one_any w.heap.size 2 w3.heap.size 5 3 [K % f, K, 0, f - 1, -1] (w3.alloc (.cells #[.int .i64 (K % f), .int .i64 K, .int .i64 0, .int .i64 (f - 1), .int .i64 (-1)] 3)).drew Hrx.out (by omega) Hax.out rfl (by omega) (by omega) hne).mono ?_; rintro e w9 hh; obtain ⟨r, he, hv9, hg9⟩ := Hpost.out _ _ hh; subst he; clear hh)
    first | (refine h9 _ _ ?_; clear h9 K9) | skip
    refine wpAny_take (i := 16) (v := ?_) rfl (by kernel_rfl) (by kernel_rfl) (by kernel_rfl) (fun _ _ _ h => h) (Or.inl ⟨by rfl, ?_⟩) ?_
    rotate_left
    · intro w
      go_simp
      try with_reducible rfl
    refine wpAny_take (i := 17) (v := ?_) rfl (by kernel_rfl) (by kernel_rfl) (by kernel_rfl) (fun _ _ _ h => h) (Or.inl ⟨by rfl, ?_⟩) ?_
    rotate_left
    · intro w
      go_simp
      try with_reducible rfl
    refine wpAny_done (by kernel_rfl) ?_ _
    all_goals go_wp2
    all_goals go_ret2
    all_goals exact ⟨_, r, rfl, by omega, by omega, hv9.out.1, hv9.out.2, hg9.out⟩
  · clear hva hvb
    obtain ⟨K, hK⟩ : ∃ K, K = k := ⟨_, rfl⟩
    rw [← hK]
    have hK0 : 0 ≤ K := by omega
    have hK1 : K ≤ 10000 := by omega
    clear hK
    go_wp2_with fail
    obtain ⟨f, hf⟩ : ∃ f, f = fac (5 : Int).toNat := ⟨_, rfl⟩
    have f1 := fac_pos (5 : Int).toNat
    have f2 := fac_le (n := (5 : Int).toNat) (by omega)
    rw [← hf] at f1 f2
    have Hf := hid hf
    have hf0 : f ≠ 0 := by omega
    have hf1 : (f == 0) = false := by rw [beq_eq_false_iff_ne]; omega
    have hwf : IntKind.i64.wrap (f - 1) = f - 1 := IntWalk.i64_in _ ⟨by omega, by omega⟩
    clear hf
    have hkm := Int.emod_nonneg K (show f ≠ 0 by omega)
    have hkl := Int.emod_lt_of_pos K (show 0 < f by omega)
    have hel : Hid (∀ j, j < [K % f, K, 0, f - 1, -1].length → -1 ≤ el [K % f, K, 0, f - 1, -1] j ∧ el [K % f, K, 0, f - 1, -1] j ≤ 100000) := fun j hj => by
      match j, hj with
      | 0, _ => show -1 ≤ K % f ∧ K % f ≤ 100000; omega
      | 1, _ => show -1 ≤ K ∧ K ≤ 100000; omega
      | 2, _ => show -1 ≤ (0 : Int) ∧ (0 : Int) ≤ 100000; omega
      | 3, _ => show -1 ≤ f - 1 ∧ f - 1 ≤ 100000; omega
      | 4, _ => show -1 ≤ (-1 : Int) ∧ (-1 : Int) ≤ 100000; omega
      | j + 5, h => exact absurd h (by simp)
    have Hrx : Hid (Rdr (w3.alloc (.cells #[.int .i64 (K % f), .int .i64 K, .int .i64 0, .int .i64 (f - 1), .int .i64 (-1)] 3)).drew w.heap.size 2) := hid (hr3.below (((Below.refl w3.heap.size w3).alloc (Nat.le_refl _) _).drew))
    have Hax : Hid (Arr (w3.alloc (.cells #[.int .i64 (K % f), .int .i64 K, .int .i64 0, .int .i64 (f - 1), .int .i64 (-1)] 3)).drew w3.heap.size 3 [K % f, K, 0, f - 1, -1]) := hid (Arr.made w3 3 [K % f, K, 0, f - 1, -1])
    have hne : w3.heap.size ≠ w.heap.size := by have := hr3.lt; omega
    have hbx : Below w.heap.size w (w3.alloc (.cells #[.int .i64 (K % f), .int .i64 K, .int .i64 0, .int .i64 (f - 1), .int .i64 (-1)] 3)).drew := (hb3.alloc hb3.size _).drew
    have Hpost : Hid (∀ (e : Ending) (w9 : World), Oned (w3.alloc (.cells #[.int .i64 (K % f), .int .i64 K, .int .i64 0, .int .i64 (f - 1), .int .i64 (-1)] 3)).drew w.heap.size 2 [K % f, K, 0, f - 1, -1] e w9 → ∃ r : Int, e = .returned (.int .i64 r) ∧ Hid (-1 ≤ r ∧ r ≤ 100000) ∧ Hid (Below w.heap.size w w9)) := by
      rintro e w9 ⟨j, hj, rfl, hr9, hg9⟩
      exact ⟨_, rfl, hid (hel.out j hj), hid (below_reader hbx hg9)⟩
    clear hkm hkl hel hbx
    refine wp_region_any (by kernel_rfl) ?_
    try (change wpAny _ _ _ _ _ _ _ (World.drew _))
    refine wpAny_take (i := 0) (v := ?_) rfl (by kernel_rfl) (by kernel_rfl) (by kernel_rfl) (fun _ _ _ h => h) (Or.inl ⟨by rfl, ?_⟩) ?_
    rotate_left
    · intro w
      go_simp
      try with_reducible rfl
    refine wpAny_take (i := 1) (v := ?_) rfl (by kernel_rfl) (by kernel_rfl) (by kernel_rfl) (fun _ _ _ h => h) (Or.inl ⟨by rfl, ?_⟩) ?_
    rotate_left
    · intro w
      go_simp
      try with_reducible rfl
    refine wpAny_take (i := 2) (v := ?_) rfl (by kernel_rfl) (by kernel_rfl) (by kernel_rfl) (fun _ _ _ h => h) (Or.inl ⟨by rfl, ?_⟩) ?_
    rotate_left
    · intro w
      go_simp
      try with_reducible rfl
    refine wpAny_take (i := 3) (v := ?_) rfl (by kernel_rfl) (by kernel_rfl) (by kernel_rfl) (fun _ _ _ h => h) (Or.inl ⟨by rfl, ?_⟩) ?_
    rotate_left
    · intro w
      go_simp
      try with_reducible rfl
    refine wpAny_take (i := 4) (v := ?_) rfl (by kernel_rfl) (by kernel_rfl) (by kernel_rfl) (fun _ _ _ h => h) (Or.inl ⟨by rfl, ?_⟩) ?_
    rotate_left
    · intro w
      go_simp
      try with_reducible rfl
    refine wpAny_take (i := 5) (v := ?_) rfl (by kernel_rfl) (by kernel_rfl) (by kernel_rfl) (fun _ _ _ h => h) (Or.inl ⟨by rfl, ?_⟩) ?_
    rotate_left
    · intro w
      go_simp
      try with_reducible rfl
    refine wpAny_take (i := 8) (v := ?_) rfl (by kernel_rfl) (by kernel_rfl) (by kernel_rfl) (fun _ _ _ h => h) (Or.inl ⟨by rfl, ?_⟩) ?_
    rotate_left
    · intro w
      go_simp
      try with_reducible rfl
    refine wpAny_take (i := 9) (v := ?_) rfl (by kernel_rfl) (by kernel_rfl) (by kernel_rfl) (fun _ _ _ h => h) (Or.inl ⟨by rfl, ?_⟩) ?_
    rotate_left
    · intro w
      go_simp
      try with_reducible rfl
    refine wpAny_take (i := 10) (v := ?_) rfl (by kernel_rfl) (by kernel_rfl) (by kernel_rfl) (fun _ _ _ h => h) (Or.inl ⟨by rfl, ?_⟩) ?_
    rotate_left
    · intro w
      go_simp
      try with_reducible rfl
    refine wpAny_take (i := 11) (v := ?_) rfl (by kernel_rfl) (by kernel_rfl) (by kernel_rfl) (fun _ _ _ h => h) (Or.inl ⟨by rfl, ?_⟩) ?_
    rotate_left
    · intro w
      go_simp
      try with_reducible rfl
    refine wpAny_ready (rs := [6]) (by kernel_rfl) (by simp) ?_
    refine AllReady.cons rfl (fun K9 h9 => ?_) AllReady.nil
    go_simp
    go_wp2_with (go_at_call 65; refine (fac_any (5) _ (by omega) (by omega)).mono ?_; rintro e w' ⟨rfl, rfl⟩; rw [← Hf.out])
    first | (refine h9 _ _ ?_; clear h9 K9) | skip
    refine wpAny_take (i := 7) (v := ?_) rfl (by kernel_rfl) (by kernel_rfl) (by kernel_rfl) (fun _ _ _ h => h) (Or.inl ⟨by rfl, ?_⟩) ?_
    rotate_left
    · intro w
      go_simp
      rw [Int.tmod_eq_emod_of_nonneg hK0]
      try with_reducible rfl
    refine wpAny_ready (rs := [12]) (by kernel_rfl) (by simp) ?_
    refine AllReady.cons rfl (fun K9 h9 => ?_) AllReady.nil
    go_simp
    go_wp2_with (go_at_call 65; refine (fac_any (5) _ (by omega) (by omega)).mono ?_; rintro e w' ⟨rfl, rfl⟩; rw [← Hf.out])
    first | (refine h9 _ _ ?_; clear h9 K9) | skip
    refine wpAny_take (i := 13) (v := ?_) rfl (by kernel_rfl) (by kernel_rfl) (by kernel_rfl) (fun _ _ _ h => h) (Or.inl ⟨by rfl, ?_⟩) ?_
    rotate_left
    · intro w
      go_simp
      try with_reducible rfl
    refine wpAny_ready (rs := [14]) (by kernel_rfl) (by simp) ?_
    refine AllReady.cons rfl (fun K9 h9 => ?_) AllReady.nil
    go_simp
    go_wp2_with fail
    first | (refine h9 _ _ ?_; clear h9 K9) | skip
    refine wpAny_ready (rs := [15]) (by kernel_rfl) (by simp) ?_
    refine AllReady.cons rfl (fun K9 h9 => ?_) AllReady.nil
    go_simp
    go_wp2_with (go_at_call 63; refine (one_any w.heap.size 2 w3.heap.size 5 3 [K % f, K, 0, f - 1, -1] (w3.alloc (.cells #[.int .i64 (K % f), .int .i64 K, .int .i64 0, .int .i64 (f - 1), .int .i64 (-1)] 3)).drew Hrx.out (by omega) Hax.out rfl (by omega) (by omega) hne).mono ?_; rintro e w9 hh; obtain ⟨r, he, hv9, hg9⟩ := Hpost.out _ _ hh; subst he; clear hh)
    first | (refine h9 _ _ ?_; clear h9 K9) | skip
    refine wpAny_take (i := 16) (v := ?_) rfl (by kernel_rfl) (by kernel_rfl) (by kernel_rfl) (fun _ _ _ h => h) (Or.inl ⟨by rfl, ?_⟩) ?_
    rotate_left
    · intro w
      go_simp
      try with_reducible rfl
    refine wpAny_take (i := 17) (v := ?_) rfl (by kernel_rfl) (by kernel_rfl) (by kernel_rfl) (fun _ _ _ h => h) (Or.inl ⟨by rfl, ?_⟩) ?_
    rotate_left
    · intro w
      go_simp
      try with_reducible rfl
    refine wpAny_done (by kernel_rfl) ?_ _
    all_goals go_wp2
    all_goals go_ret2
    all_goals exact ⟨_, r, rfl, by omega, by omega, hv9.out.1, hv9.out.2, hg9.out⟩

end Go.Proofs.Ytlhphgldmefefaa
