/- The walk of the law of FoataMap. Condition of the laws' own: at most 2^20 bytes. -/
import Derived.Test.YtlhphgldmefefabLawFn2
import Derived.Test.YtlhphgldmefefabDrawM
import Derived.Test.YtlhphgldmefefabFo2
import Derived.Test.YtlhphgldmefefabFoL
import Derived.Test.YtlhphgldmefefabFinFo
namespace Go.Proofs.Ytlhphgldmefefab
open Go.RowKit

theorem Sl.cellAt {w : World} {b off n cap j : Nat} {xs : List Int} (h : Sl w (some ⟨b, off, none⟩) n cap xs) (hj : j < n) : w.cell? ⟨b, off + j, none⟩ = some (.int .i64 (el xs j)) := by
  obtain ⟨b', off', e, _, hc⟩ := h.row (by omega)
  simp only [Option.some.injEq, Addr.mk.injEq, and_true] at e
  obtain ⟨rfl, rfl⟩ := e
  exact hc j hj

set_option maxHeartbeats 2000000 in
theorem fnFoataMap (bo : Option Addr) (n cap : Nat) (cs : List Int) (w : World) (h : Slb w bo n cap cs) :
    Calls Try.prog 3 #[.slice bo n cap] w (Says w (.bool true)) := by
  have hbig := h.big
  by_cases hn : n ≤ 1048576
  · go_enter Try.func3, Try.ntmps3
    go_wp2_with fail
    refine (drawFoataMap_any _ _ _ _ _ h).mono ?_
    rintro e w1 ⟨u1, ys, rfl, o1, hl, t1⟩
    obtain ⟨adp, cpp, rfl, sp_1⟩ := o1.sl
    have Hl := hid hl
    have np := hid o1.nilcap
    clear hl o1
    by_cases hv : Valid ys
    · have Hv := hid hv
      clear hv
      go_wp2_with fail
      refine (made_to (foatI_any _ _ _ ys _ sp_1) (onV_yes Hv.out)).mono ?_
      rintro e w2 ⟨u2, rfl, o2, b2⟩
      have t2 := t1.trans (b2.mono t1.size)
      have sp_2 := sp_1.later b2
      obtain ⟨ada, cpa, rfl, sa_2⟩ := o2.sl
      clear o2
      go_wp2_with fail
      refine (made_to (foataS_any _ _ _ ys _ sp_2) (onV_yes Hv.out)).mono ?_
      rintro e w3 ⟨u3, rfl, o3, b3⟩
      have t3 := t2.trans (b3.mono t2.size)
      have sp_3 := sp_2.later b3
      have sa_3 := sa_2.later b3
      obtain ⟨ade, cpe, rfl, se_3⟩ := o3.sl
      clear o3
      go_wp2_with fail
      refine (says_tob (equalInts_any _ _ _ (foat ys) _ _ _ (foat ys) _ sa_3 se_3) (decide_eq_true rfl)).mono ?_
      rintro e w4 ⟨rfl, b4⟩
      have t4 := t3.trans (b4.mono t3.size)
      have sp_4 := sp_3.later b4
      have sa_4 := sa_3.later b4
      have se_4 := se_3.later b4
      go_wp2_with fail
      refine (says_tob (validI_any _ _ _ ys _ sp_4) (decide_eq_true Hv.out)).mono ?_
      rintro e w5 ⟨rfl, b5⟩
      have t5 := t4.trans (b5.mono t4.size)
      have sp_5 := sp_4.later b5
      have sa_5 := sa_4.later b5
      have se_5 := se_4.later b5
      have Hf := hid (foat_valid Hv.out)
      have Hfi := hid (inv_valid Hf.out)
      have Hvi := hid (inv_valid Hv.out)
      rcases Nat.eq_zero_or_pos ys.length with hz | hz
      · have hzi : ((ys.length : Int) == 0) = true := by simpa using hz
        clear hz
        have saD := sa_5.drew
        have spD := sp_5.drew
        have tD : Below w.heap.size w w5.drew := t5.drew
        go_wp2_with fail
        refine wp_region_any (by kernel_rfl) ?_
        try (change wpAny _ _ _ _ _ _ _ (World.drew _))
        refine wpAny_take (i := 0) (v := ?_) rfl (by kernel_rfl) (by kernel_rfl) (by kernel_rfl) (fun _ _ _ h => h) (Or.inl ⟨by kernel_rfl, ?_⟩) ?_
        rotate_left
        · intro w
          go_simp
          try with_reducible rfl
        refine wpAny_take (i := 2) (v := ?_) rfl (by kernel_rfl) (by kernel_rfl) (by kernel_rfl) (fun _ _ _ h => h) (Or.inl ⟨by kernel_rfl, ?_⟩) ?_
        rotate_left
        · intro w
          go_simp
          try with_reducible rfl
        refine wpAny_ready (rs := [1]) (by kernel_rfl) (by simp) ?_
        refine AllReady.cons rfl (fun K9 h9 => ?_) AllReady.nil
        go_simp
        go_wp2_with (go_at_call 20; refine (says_to (invsI_any _ _ _ (foat ys) _ saD) ((onVi_yes Hf.out).trans (foat_major Hv.out))).mono ?_; rintro e v1 ⟨rfl, bv1⟩; have tv1 := tD.trans (bv1.mono tD.size); have sav1 := saD.later bv1; have spv1 := spD.later bv1)
        first | (refine h9 _ _ ?_; clear h9 K9) | skip
        refine wpAny_ready (rs := [3]) (by kernel_rfl) (by simp) ?_
        refine AllReady.cons rfl (fun K9 h9 => ?_) AllReady.nil
        go_simp
        go_wp2_with (go_at_call 21; refine (says_to (majorI_any _ _ _ ys _ spv1) (onVi_yes Hv.out)).mono ?_; rintro e v2 ⟨rfl, bv2⟩; have tv2 := tv1.trans (bv2.mono tv1.size); have sav2 := sav1.later bv2; have spv2 := spv1.later bv2)
        first | (refine h9 _ _ ?_; clear h9 K9) | skip
        refine wpAny_take (i := 4) (v := ?_) rfl (by kernel_rfl) (by kernel_rfl) (by kernel_rfl) (fun _ _ _ h => h) (Or.inl ⟨by kernel_rfl, ?_⟩) ?_
        rotate_left
        · intro w
          go_simp
          try with_reducible rfl
        refine wpAny_take (i := 5) (v := ?_) rfl (by kernel_rfl) (by kernel_rfl) (by kernel_rfl) (fun _ _ _ h => h) (Or.inl ⟨by kernel_rfl, ?_⟩) ?_
        rotate_left
        · intro w
          go_simp
          try with_reducible rfl
        refine wpAny_take (i := 6) (v := ?_) rfl (by kernel_rfl) (by kernel_rfl) (by kernel_rfl) (fun _ _ _ h => h) (Or.inl ⟨by kernel_rfl, ?_⟩) ?_
        rotate_left
        · intro w
          go_simp
          try with_reducible rfl
        refine wpAny_take (i := 9) (v := ?_) rfl (by kernel_rfl) (by kernel_rfl) (by kernel_rfl) (fun _ _ _ h => h) (Or.inl ⟨by kernel_rfl, ?_⟩) ?_
        rotate_left
        · intro w
          go_simp
          try with_reducible rfl
        refine wpAny_ready (rs := [7]) (by kernel_rfl) (by simp) ?_
        refine AllReady.cons rfl (fun K9 h9 => ?_) AllReady.nil
        go_simp
        go_wp2_with (go_at_call 23; refine (made_to (inverseI_any _ _ _ (foat ys) _ sav2) (onV_yes Hf.out)).mono ?_; rintro e v3 ⟨uv3, rfl, ov3, bv3⟩; have tv3 := tv2.trans (bv3.mono tv2.size); have sav3 := sav2.later bv3; have spv3 := spv2.later bv3; obtain ⟨adi, cpi, rfl, siv3⟩ := ov3.sl)
        first | (refine h9 _ _ ?_; clear h9 K9) | skip
        refine wpAny_ready (rs := [8]) (by kernel_rfl) (by simp) ?_
        refine AllReady.cons rfl (fun K9 h9 => ?_) AllReady.nil
        go_simp
        go_wp2_with (go_at_call 22; refine (made_to (descI_any _ _ _ (inv (foat ys)) _ siv3) ((onV_yes Hfi.out).trans (foat_desc Hv.out))).mono ?_; rintro e v4 ⟨uv4, rfl, ov4, bv4⟩; have tv4 := tv3.trans (bv4.mono tv3.size); have sav4 := sav3.later bv4; have spv4 := spv3.later bv4; have siv4 := siv3.later bv4; obtain ⟨adj, cpj, rfl, sjv4⟩ := ov4.sl)
        first | (refine h9 _ _ ?_; clear h9 K9) | skip
        refine wpAny_ready (rs := [10]) (by kernel_rfl) (by simp) ?_
        refine AllReady.cons rfl (fun K9 h9 => ?_) AllReady.nil
        go_simp
        go_wp2_with (go_at_call 23; refine (made_to (inverseI_any _ _ _ ys _ spv4) (onV_yes Hv.out)).mono ?_; rintro e v5 ⟨uv5, rfl, ov5, bv5⟩; have tv5 := tv4.trans (bv5.mono tv4.size); have sav5 := sav4.later bv5; have spv5 := spv4.later bv5; have siv5 := siv4.later bv5; have sjv5 := sjv4.later bv5; obtain ⟨adk, cpk, rfl, skv5⟩ := ov5.sl)
        first | (refine h9 _ _ ?_; clear h9 K9) | skip
        refine wpAny_ready (rs := [11]) (by kernel_rfl) (by simp) ?_
        refine AllReady.cons rfl (fun K9 h9 => ?_) AllReady.nil
        go_simp
        go_wp2_with (go_at_call 22; refine (made_to (descI_any _ _ _ (inv ys) _ skv5) (onV_yes Hvi.out)).mono ?_; rintro e v6 ⟨uv6, rfl, ov6, bv6⟩; have tv6 := tv5.trans (bv6.mono tv5.size); have sav6 := sav5.later bv6; have spv6 := spv5.later bv6; have siv6 := siv5.later bv6; have sjv6 := sjv5.later bv6; have skv6 := skv5.later bv6; obtain ⟨adm, cpm, rfl, smv6⟩ := ov6.sl)
        first | (refine h9 _ _ ?_; clear h9 K9) | skip
        refine wpAny_ready (rs := [12]) (by kernel_rfl) (by simp) ?_
        refine AllReady.cons rfl (fun K9 h9 => ?_) AllReady.nil
        go_simp
        go_wp2_with (go_at_call 17; refine (says_tob (equalInts_any _ _ _ (desc (inv ys)) _ _ _ (desc (inv ys)) _ sjv6 smv6) (decide_eq_true rfl)).mono ?_; rintro e v7 ⟨rfl, bv7⟩; have tv7 := tv6.trans (bv7.mono tv6.size); have sav7 := sav6.later bv7; have spv7 := spv6.later bv7; have siv7 := siv6.later bv7; have sjv7 := sjv6.later bv7; have skv7 := skv6.later bv7; have smv7 := smv6.later bv7)
        first | (refine h9 _ _ ?_; clear h9 K9) | skip
        refine wpAny_take (i := 13) (v := ?_) rfl (by kernel_rfl) (by kernel_rfl) (by kernel_rfl) (fun _ _ _ h => h) (Or.inl ⟨by kernel_rfl, ?_⟩) ?_
        rotate_left
        · intro w
          go_simp
          try with_reducible rfl
        refine wpAny_take (i := 14) (v := ?_) rfl (by kernel_rfl) (by kernel_rfl) (by kernel_rfl) (fun _ _ _ h => h) (Or.inl ⟨by kernel_rfl, ?_⟩) ?_
        rotate_left
        · intro w
          go_simp
          try with_reducible rfl
        refine wpAny_take (i := 15) (v := ?_) rfl (by kernel_rfl) (by kernel_rfl) (by kernel_rfl) (fun _ _ _ h => h) (Or.inl ⟨by kernel_rfl, ?_⟩) ?_
        rotate_left
        · intro w
          go_simp
          try with_reducible rfl
        refine wpAny_take (i := 17) (v := ?_) rfl (by kernel_rfl) (by kernel_rfl) (by kernel_rfl) (fun _ _ _ h => h) (Or.inl ⟨by kernel_rfl, ?_⟩) ?_
        rotate_left
        · intro w
          go_simp
          try with_reducible rfl
        refine wpAny_ready (rs := [16]) (by kernel_rfl) (by simp) ?_
        refine AllReady.cons rfl (fun K9 h9 => ?_) AllReady.nil
        go_simp
        go_wp2_with (go_at_call 24; refine (made_to (fbacI_any _ _ _ (foat ys) _ sav7) ((onV_yes Hf.out).trans (fbac_foat ys))).mono ?_; rintro e v8 ⟨uv8, rfl, ov8, bv8⟩; have tv8 := tv7.trans (bv8.mono tv7.size); have sav8 := sav7.later bv8; have spv8 := spv7.later bv8; have siv8 := siv7.later bv8; have sjv8 := sjv7.later bv8; have skv8 := skv7.later bv8; have smv8 := smv7.later bv8; obtain ⟨adb, cpb, rfl, sbv8⟩ := ov8.sl)
        first | (refine h9 _ _ ?_; clear h9 K9) | skip
        refine wpAny_ready (rs := [18]) (by kernel_rfl) (by simp) ?_
        refine AllReady.cons rfl (fun K9 h9 => ?_) AllReady.nil
        go_simp
        go_wp2_with (go_at_call 17; refine (says_tob (equalInts_any _ _ _ ys _ _ _ ys _ sbv8 spv8) (decide_eq_true rfl)).mono ?_; rintro e v9 ⟨rfl, bv9⟩; have tv9 := tv8.trans (bv9.mono tv8.size); have sav9 := sav8.later bv9; have spv9 := spv8.later bv9; have siv9 := siv8.later bv9; have sjv9 := sjv8.later bv9; have skv9 := skv8.later bv9; have smv9 := smv8.later bv9; have sbv9 := sbv8.later bv9)
        first | (refine h9 _ _ ?_; clear h9 K9) | skip
        refine wpAny_take (i := 19) (v := ?_) rfl (by kernel_rfl) (by kernel_rfl) (by kernel_rfl) (fun _ _ _ h => h) (Or.inl ⟨by kernel_rfl, ?_⟩) ?_
        rotate_left
        · intro w
          go_simp
          try with_reducible rfl
        refine wpAny_take (i := 20) (v := ?_) rfl (by kernel_rfl) (by kernel_rfl) (by kernel_rfl) (fun _ _ _ h => h) (Or.inl ⟨by kernel_rfl, ?_⟩) ?_
        rotate_left
        · intro w
          go_simp
          try with_reducible rfl
        refine wpAny_take (i := 21) (v := ?_) rfl (by kernel_rfl) (by kernel_rfl) (by kernel_rfl) (fun _ _ _ h => h) (Or.inl ⟨by kernel_rfl, ?_⟩) ?_
        rotate_left
        · intro w
          go_simp
          try with_reducible rfl
        refine wpAny_take (i := 22) (v := ?_) rfl (by kernel_rfl) (by kernel_rfl) (by kernel_rfl) (fun _ _ _ h => h) (Or.inl ⟨by kernel_rfl, ?_⟩) ?_
        rotate_left
        · intro w
          go_simp
          try with_reducible rfl
        refine wpAny_take (i := 23) (v := ?_) rfl (by kernel_rfl) (by kernel_rfl) (by kernel_rfl) (fun _ _ _ h => h) (Or.inl ⟨by kernel_rfl, ?_⟩) ?_
        rotate_left
        · intro w
          go_simp
          try with_reducible rfl
        refine wpAny_take (i := 24) (v := undef) rfl (by kernel_rfl) (by kernel_rfl) (by kernel_rfl) (fun _ _ _ h => h) (Or.inr ⟨by kernel_rfl, rfl⟩) ?_
        refine wpAny_take (i := 25) (v := undef) rfl (by kernel_rfl) (by kernel_rfl) (by kernel_rfl) (fun _ _ _ h => h) (Or.inr ⟨by kernel_rfl, rfl⟩) ?_
        refine wpAny_take (i := 26) (v := undef) rfl (by kernel_rfl) (by kernel_rfl) (by kernel_rfl) (fun _ _ _ h => h) (Or.inr ⟨by kernel_rfl, rfl⟩) ?_
        refine wpAny_take (i := 27) (v := undef) rfl (by kernel_rfl) (by kernel_rfl) (by kernel_rfl) (fun _ _ _ h => h) (Or.inr ⟨by kernel_rfl, rfl⟩) ?_
        refine wpAny_take (i := 29) (v := undef) rfl (by kernel_rfl) (by kernel_rfl) (by kernel_rfl) (fun _ _ _ h => h) (Or.inr ⟨by kernel_rfl, rfl⟩) ?_
        refine wpAny_take (i := 30) (v := undef) rfl (by kernel_rfl) (by kernel_rfl) (by kernel_rfl) (fun _ _ _ h => h) (Or.inr ⟨by kernel_rfl, rfl⟩) ?_
        refine wpAny_take (i := 31) (v := undef) rfl (by kernel_rfl) (by kernel_rfl) (by kernel_rfl) (fun _ _ _ h => h) (Or.inr ⟨by kernel_rfl, rfl⟩) ?_
        refine wpAny_take (i := 32) (v := undef) rfl (by kernel_rfl) (by kernel_rfl) (by kernel_rfl) (fun _ _ _ h => h) (Or.inr ⟨by kernel_rfl, rfl⟩) ?_
        refine wpAny_ready (rs := [28, 33]) (by kernel_rfl) (by simp) ?_
        refine AllReady.cons rfl (fun K9 h9 => ?_) (AllReady.cons rfl (fun K9 h9 => ?_) AllReady.nil)
        · go_simp
          first | (refine h9 _ _ ?_; clear h9 K9) | skip
          refine wpAny_ready (rs := [33]) (by kernel_rfl) (by simp) ?_
          refine AllReady.cons rfl (fun K9 h9 => ?_) AllReady.nil
          go_simp
          first | (refine h9 _ _ ?_; clear h9 K9) | skip
          refine wpAny_take (i := 34) (v := undef) rfl (by kernel_rfl) (by kernel_rfl) (by kernel_rfl) (fun _ _ _ h => h) (Or.inr ⟨by kernel_rfl, rfl⟩) ?_
          refine wpAny_take (i := 35) (v := ?_) rfl (by kernel_rfl) (by kernel_rfl) (by kernel_rfl) (fun _ _ _ h => h) (Or.inl ⟨by kernel_rfl, ?_⟩) ?_
          rotate_left
          · intro w
            go_simp
            try with_reducible rfl
          refine wpAny_take (i := 36) (v := ?_) rfl (by kernel_rfl) (by kernel_rfl) (by kernel_rfl) (fun _ _ _ h => h) (Or.inl ⟨by kernel_rfl, ?_⟩) ?_
          rotate_left
          · intro w
            go_simp
            try with_reducible rfl
          refine wpAny_take (i := 37) (v := ?_) rfl (by kernel_rfl) (by kernel_rfl) (by kernel_rfl) (fun _ _ _ h => h) (Or.inl ⟨by kernel_rfl, ?_⟩) ?_
          rotate_left
          · intro w
            go_simp
            try with_reducible rfl
          refine wpAny_done (by kernel_rfl) ?_ _
          all_goals go_wp2
          all_goals go_ret
          all_goals exact ⟨rfl, tv9⟩
        · go_simp
          first | (refine h9 _ _ ?_; clear h9 K9) | skip
          refine wpAny_ready (rs := [28]) (by kernel_rfl) (by simp) ?_
          refine AllReady.cons rfl (fun K9 h9 => ?_) AllReady.nil
          go_simp
          first | (refine h9 _ _ ?_; clear h9 K9) | skip
          refine wpAny_take (i := 34) (v := undef) rfl (by kernel_rfl) (by kernel_rfl) (by kernel_rfl) (fun _ _ _ h => h) (Or.inr ⟨by kernel_rfl, rfl⟩) ?_
          refine wpAny_take (i := 35) (v := ?_) rfl (by kernel_rfl) (by kernel_rfl) (by kernel_rfl) (fun _ _ _ h => h) (Or.inl ⟨by kernel_rfl, ?_⟩) ?_
          rotate_left
          · intro w
            go_simp
            try with_reducible rfl
          refine wpAny_take (i := 36) (v := ?_) rfl (by kernel_rfl) (by kernel_rfl) (by kernel_rfl) (fun _ _ _ h => h) (Or.inl ⟨by kernel_rfl, ?_⟩) ?_
          rotate_left
          · intro w
            go_simp
            try with_reducible rfl
          refine wpAny_take (i := 37) (v := ?_) rfl (by kernel_rfl) (by kernel_rfl) (by kernel_rfl) (fun _ _ _ h => h) (Or.inl ⟨by kernel_rfl, ?_⟩) ?_
          rotate_left
          · intro w
            go_simp
            try with_reducible rfl
          refine wpAny_done (by kernel_rfl) ?_ _
          all_goals go_wp2
          all_goals go_ret
          all_goals exact ⟨rfl, tv9⟩
      · obtain ⟨M, hM⟩ : ∃ M, ys.length = M + 1 := ⟨ys.length - 1, by omega⟩
        have hl7 := Hv.out.len
        obtain ⟨b1, f1, rfl, hb1, -⟩ := sa_5.row (by rw [foat_len]; exact hz)
        obtain ⟨b2, f2, rfl, hb2, -⟩ := sp_5.row hz
        have hlast := foat_last ys hz
        rw [hM, show M + 1 - 1 = M by omega] at hlast
        have hfl := foat_len ys
        have hfM : (foat ys).length = M + 1 := by omega
        have hMi : (ys.length : Int) - 1 = M := by omega
        have hMw : IntKind.i64.wrap ((ys.length : Int) - 1) = M := by rw [hMi]; exact IntWalk.i64_in _ ⟨by omega, by omega⟩
        have hM1 : (M : Int) < (ys.length : Int) := by omega
        have hM2 : (M : Int) < ((foat ys).length : Int) := by omega
        have hnz : ((ys.length : Int) == 0) = false := by
          have : ¬ (ys.length : Int) = 0 := by omega
          simpa using this
        have hM0 : (0 : Int) ≤ (M : Int) := by omega
        have hMw2 : IntKind.i64.wrap (M : Int) = M := IntWalk.i64_in _ ⟨by omega, by omega⟩
        have hMt : ((M : Int)).toNat = M := by omega
        have hMn1 : M < ys.length := by omega
        have hMn2 : M < (foat ys).length := by omega
        have HfM := hid hfM
        have HM := hid hM
        clear hfM hM hz hfl
        have saD := sa_5.drew
        have spD := sp_5.drew
        have tD : Below w.heap.size w w5.drew := t5.drew
        go_wp2_with fail
        refine wp_region_any (by kernel_rfl) ?_
        try (change wpAny _ _ _ _ _ _ _ (World.drew _))
        refine wpAny_take (i := 0) (v := ?_) rfl (by kernel_rfl) (by kernel_rfl) (by kernel_rfl) (fun _ _ _ h => h) (Or.inl ⟨by kernel_rfl, ?_⟩) ?_
        rotate_left
        · intro w
          go_simp
          try with_reducible rfl
        refine wpAny_take (i := 2) (v := ?_) rfl (by kernel_rfl) (by kernel_rfl) (by kernel_rfl) (fun _ _ _ h => h) (Or.inl ⟨by kernel_rfl, ?_⟩) ?_
        rotate_left
        · intro w
          go_simp
          try with_reducible rfl
        refine wpAny_ready (rs := [1]) (by kernel_rfl) (by simp) ?_
        refine AllReady.cons rfl (fun K9 h9 => ?_) AllReady.nil
        go_simp
        go_wp2_with (go_at_call 20; refine (says_to (invsI_any _ _ _ (foat ys) _ saD) ((onVi_yes Hf.out).trans (foat_major Hv.out))).mono ?_; rintro e v1 ⟨rfl, bv1⟩; have tv1 := tD.trans (bv1.mono tD.size); have sav1 := saD.later bv1; have spv1 := spD.later bv1)
        first | (refine h9 _ _ ?_; clear h9 K9) | skip
        refine wpAny_ready (rs := [3]) (by kernel_rfl) (by simp) ?_
        refine AllReady.cons rfl (fun K9 h9 => ?_) AllReady.nil
        go_simp
        go_wp2_with (go_at_call 21; refine (says_to (majorI_any _ _ _ ys _ spv1) (onVi_yes Hv.out)).mono ?_; rintro e v2 ⟨rfl, bv2⟩; have tv2 := tv1.trans (bv2.mono tv1.size); have sav2 := sav1.later bv2; have spv2 := spv1.later bv2)
        first | (refine h9 _ _ ?_; clear h9 K9) | skip
        refine wpAny_take (i := 4) (v := ?_) rfl (by kernel_rfl) (by kernel_rfl) (by kernel_rfl) (fun _ _ _ h => h) (Or.inl ⟨by kernel_rfl, ?_⟩) ?_
        rotate_left
        · intro w
          go_simp
          try with_reducible rfl
        refine wpAny_take (i := 5) (v := ?_) rfl (by kernel_rfl) (by kernel_rfl) (by kernel_rfl) (fun _ _ _ h => h) (Or.inl ⟨by kernel_rfl, ?_⟩) ?_
        rotate_left
        · intro w
          go_simp
          try with_reducible rfl
        refine wpAny_take (i := 6) (v := ?_) rfl (by kernel_rfl) (by kernel_rfl) (by kernel_rfl) (fun _ _ _ h => h) (Or.inl ⟨by kernel_rfl, ?_⟩) ?_
        rotate_left
        · intro w
          go_simp
          try with_reducible rfl
        refine wpAny_take (i := 9) (v := ?_) rfl (by kernel_rfl) (by kernel_rfl) (by kernel_rfl) (fun _ _ _ h => h) (Or.inl ⟨by kernel_rfl, ?_⟩) ?_
        rotate_left
        · intro w
          go_simp
          try with_reducible rfl
        refine wpAny_ready (rs := [7]) (by kernel_rfl) (by simp) ?_
        refine AllReady.cons rfl (fun K9 h9 => ?_) AllReady.nil
        go_simp
        go_wp2_with (go_at_call 23; refine (made_to (inverseI_any _ _ _ (foat ys) _ sav2) (onV_yes Hf.out)).mono ?_; rintro e v3 ⟨uv3, rfl, ov3, bv3⟩; have tv3 := tv2.trans (bv3.mono tv2.size); have sav3 := sav2.later bv3; have spv3 := spv2.later bv3; obtain ⟨adi, cpi, rfl, siv3⟩ := ov3.sl)
        first | (refine h9 _ _ ?_; clear h9 K9) | skip
        refine wpAny_ready (rs := [8]) (by kernel_rfl) (by simp) ?_
        refine AllReady.cons rfl (fun K9 h9 => ?_) AllReady.nil
        go_simp
        go_wp2_with (go_at_call 22; refine (made_to (descI_any _ _ _ (inv (foat ys)) _ siv3) ((onV_yes Hfi.out).trans (foat_desc Hv.out))).mono ?_; rintro e v4 ⟨uv4, rfl, ov4, bv4⟩; have tv4 := tv3.trans (bv4.mono tv3.size); have sav4 := sav3.later bv4; have spv4 := spv3.later bv4; have siv4 := siv3.later bv4; obtain ⟨adj, cpj, rfl, sjv4⟩ := ov4.sl)
        first | (refine h9 _ _ ?_; clear h9 K9) | skip
        refine wpAny_ready (rs := [10]) (by kernel_rfl) (by simp) ?_
        refine AllReady.cons rfl (fun K9 h9 => ?_) AllReady.nil
        go_simp
        go_wp2_with (go_at_call 23; refine (made_to (inverseI_any _ _ _ ys _ spv4) (onV_yes Hv.out)).mono ?_; rintro e v5 ⟨uv5, rfl, ov5, bv5⟩; have tv5 := tv4.trans (bv5.mono tv4.size); have sav5 := sav4.later bv5; have spv5 := spv4.later bv5; have siv5 := siv4.later bv5; have sjv5 := sjv4.later bv5; obtain ⟨adk, cpk, rfl, skv5⟩ := ov5.sl)
        first | (refine h9 _ _ ?_; clear h9 K9) | skip
        refine wpAny_ready (rs := [11]) (by kernel_rfl) (by simp) ?_
        refine AllReady.cons rfl (fun K9 h9 => ?_) AllReady.nil
        go_simp
        go_wp2_with (go_at_call 22; refine (made_to (descI_any _ _ _ (inv ys) _ skv5) (onV_yes Hvi.out)).mono ?_; rintro e v6 ⟨uv6, rfl, ov6, bv6⟩; have tv6 := tv5.trans (bv6.mono tv5.size); have sav6 := sav5.later bv6; have spv6 := spv5.later bv6; have siv6 := siv5.later bv6; have sjv6 := sjv5.later bv6; have skv6 := skv5.later bv6; obtain ⟨adm, cpm, rfl, smv6⟩ := ov6.sl)
        first | (refine h9 _ _ ?_; clear h9 K9) | skip
        refine wpAny_ready (rs := [12]) (by kernel_rfl) (by simp) ?_
        refine AllReady.cons rfl (fun K9 h9 => ?_) AllReady.nil
        go_simp
        go_wp2_with (go_at_call 17; refine (says_tob (equalInts_any _ _ _ (desc (inv ys)) _ _ _ (desc (inv ys)) _ sjv6 smv6) (decide_eq_true rfl)).mono ?_; rintro e v7 ⟨rfl, bv7⟩; have tv7 := tv6.trans (bv7.mono tv6.size); have sav7 := sav6.later bv7; have spv7 := spv6.later bv7; have siv7 := siv6.later bv7; have sjv7 := sjv6.later bv7; have skv7 := skv6.later bv7; have smv7 := smv6.later bv7)
        first | (refine h9 _ _ ?_; clear h9 K9) | skip
        refine wpAny_take (i := 13) (v := ?_) rfl (by kernel_rfl) (by kernel_rfl) (by kernel_rfl) (fun _ _ _ h => h) (Or.inl ⟨by kernel_rfl, ?_⟩) ?_
        rotate_left
        · intro w
          go_simp
          try with_reducible rfl
        refine wpAny_take (i := 14) (v := ?_) rfl (by kernel_rfl) (by kernel_rfl) (by kernel_rfl) (fun _ _ _ h => h) (Or.inl ⟨by kernel_rfl, ?_⟩) ?_
        rotate_left
        · intro w
          go_simp
          try with_reducible rfl
        refine wpAny_take (i := 15) (v := ?_) rfl (by kernel_rfl) (by kernel_rfl) (by kernel_rfl) (fun _ _ _ h => h) (Or.inl ⟨by kernel_rfl, ?_⟩) ?_
        rotate_left
        · intro w
          go_simp
          try with_reducible rfl
        refine wpAny_take (i := 17) (v := ?_) rfl (by kernel_rfl) (by kernel_rfl) (by kernel_rfl) (fun _ _ _ h => h) (Or.inl ⟨by kernel_rfl, ?_⟩) ?_
        rotate_left
        · intro w
          go_simp
          try with_reducible rfl
        refine wpAny_ready (rs := [16]) (by kernel_rfl) (by simp) ?_
        refine AllReady.cons rfl (fun K9 h9 => ?_) AllReady.nil
        go_simp
        go_wp2_with (go_at_call 24; refine (made_to (fbacI_any _ _ _ (foat ys) _ sav7) ((onV_yes Hf.out).trans (fbac_foat ys))).mono ?_; rintro e v8 ⟨uv8, rfl, ov8, bv8⟩; have tv8 := tv7.trans (bv8.mono tv7.size); have sav8 := sav7.later bv8; have spv8 := spv7.later bv8; have siv8 := siv7.later bv8; have sjv8 := sjv7.later bv8; have skv8 := skv7.later bv8; have smv8 := smv7.later bv8; obtain ⟨adb, cpb, rfl, sbv8⟩ := ov8.sl)
        first | (refine h9 _ _ ?_; clear h9 K9) | skip
        refine wpAny_ready (rs := [18]) (by kernel_rfl) (by simp) ?_
        refine AllReady.cons rfl (fun K9 h9 => ?_) AllReady.nil
        go_simp
        go_wp2_with (go_at_call 17; refine (says_tob (equalInts_any _ _ _ ys _ _ _ ys _ sbv8 spv8) (decide_eq_true rfl)).mono ?_; rintro e v9 ⟨rfl, bv9⟩; have tv9 := tv8.trans (bv9.mono tv8.size); have sav9 := sav8.later bv9; have spv9 := spv8.later bv9; have siv9 := siv8.later bv9; have sjv9 := sjv8.later bv9; have skv9 := skv8.later bv9; have smv9 := smv8.later bv9; have sbv9 := sbv8.later bv9; have c1 := sav9.cellAt (j := M) (by rw [HfM.out]; omega); have c2 := spv9.cellAt (j := M) (by rw [HM.out]; omega); rw [hlast] at c1)
        first | (refine h9 _ _ ?_; clear h9 K9) | skip
        refine wpAny_take (i := 19) (v := ?_) rfl (by kernel_rfl) (by kernel_rfl) (by kernel_rfl) (fun _ _ _ h => h) (Or.inl ⟨by kernel_rfl, ?_⟩) ?_
        rotate_left
        · intro w
          go_simp
          try with_reducible rfl
        refine wpAny_take (i := 20) (v := ?_) rfl (by kernel_rfl) (by kernel_rfl) (by kernel_rfl) (fun _ _ _ h => h) (Or.inl ⟨by kernel_rfl, ?_⟩) ?_
        rotate_left
        · intro w
          go_simp
          try with_reducible rfl
        refine wpAny_take (i := 21) (v := ?_) rfl (by kernel_rfl) (by kernel_rfl) (by kernel_rfl) (fun _ _ _ h => h) (Or.inl ⟨by kernel_rfl, ?_⟩) ?_
        rotate_left
        · intro w
          go_simp
          try with_reducible rfl
        refine wpAny_take (i := 22) (v := ?_) rfl (by kernel_rfl) (by kernel_rfl) (by kernel_rfl) (fun _ _ _ h => h) (Or.inl ⟨by kernel_rfl, ?_⟩) ?_
        rotate_left
        · intro w
          go_simp
          try with_reducible rfl
        refine wpAny_take (i := 23) (v := ?_) rfl (by kernel_rfl) (by kernel_rfl) (by kernel_rfl) (fun _ _ _ h => h) (Or.inl ⟨by kernel_rfl, ?_⟩) ?_
        rotate_left
        · intro w
          go_simp
          try with_reducible rfl
        refine wpAny_take (i := 24) (v := ?_) rfl (by kernel_rfl) (by kernel_rfl) (by kernel_rfl) (fun _ _ _ h => h) (Or.inl ⟨by kernel_rfl, ?_⟩) ?_
        rotate_left
        · intro w
          go_simp
          try with_reducible rfl
        refine wpAny_take (i := 25) (v := ?_) rfl (by kernel_rfl) (by kernel_rfl) (by kernel_rfl) (fun _ _ _ h => h) (Or.inl ⟨by kernel_rfl, ?_⟩) ?_
        rotate_left
        · intro w
          go_simp
          try with_reducible rfl
        refine wpAny_take (i := 26) (v := ?_) rfl (by kernel_rfl) (by kernel_rfl) (by kernel_rfl) (fun _ _ _ h => h) (Or.inl ⟨by kernel_rfl, ?_⟩) ?_
        rotate_left
        · intro w
          go_simp
          try with_reducible rfl
        refine wpAny_take (i := 27) (v := ?_) rfl (by kernel_rfl) (by kernel_rfl) (by kernel_rfl) (fun _ _ _ h => h) (Or.inl ⟨by kernel_rfl, ?_⟩) ?_
        rotate_left
        · intro w
          go_simp
          try with_reducible rfl
        refine wpAny_take (i := 29) (v := ?_) rfl (by kernel_rfl) (by kernel_rfl) (by kernel_rfl) (fun _ _ _ h => h) (Or.inl ⟨by kernel_rfl, ?_⟩) ?_
        rotate_left
        · intro w
          go_simp
          try with_reducible rfl
        refine wpAny_take (i := 30) (v := ?_) rfl (by kernel_rfl) (by kernel_rfl) (by kernel_rfl) (fun _ _ _ h => h) (Or.inl ⟨by kernel_rfl, ?_⟩) ?_
        rotate_left
        · intro w
          go_simp
          try with_reducible rfl
        refine wpAny_take (i := 31) (v := ?_) rfl (by kernel_rfl) (by kernel_rfl) (by kernel_rfl) (fun _ _ _ h => h) (Or.inl ⟨by kernel_rfl, ?_⟩) ?_
        rotate_left
        · intro w
          go_simp
          try with_reducible rfl
        refine wpAny_take (i := 32) (v := ?_) rfl (by kernel_rfl) (by kernel_rfl) (by kernel_rfl) (fun _ _ _ h => h) (Or.inl ⟨by kernel_rfl, ?_⟩) ?_
        rotate_left
        · intro w
          go_simp
          try with_reducible rfl
        refine wpAny_ready (rs := [28, 33]) (by kernel_rfl) (by simp) ?_
        refine AllReady.cons rfl (fun K9 h9 => ?_) (AllReady.cons rfl (fun K9 h9 => ?_) AllReady.nil)
        · go_simp
          first | (refine h9 _ _ ?_; clear h9 K9) | skip
          refine wpAny_ready (rs := [33]) (by kernel_rfl) (by simp) ?_
          refine AllReady.cons rfl (fun K9 h9 => ?_) AllReady.nil
          go_simp
          first | (refine h9 _ _ ?_; clear h9 K9) | skip
          refine wpAny_take (i := 34) (v := ?_) rfl (by kernel_rfl) (by kernel_rfl) (by kernel_rfl) (fun _ _ _ h => h) (Or.inl ⟨by kernel_rfl, ?_⟩) ?_
          rotate_left
          · intro w
            go_simp
            try with_reducible rfl
          refine wpAny_take (i := 35) (v := ?_) rfl (by kernel_rfl) (by kernel_rfl) (by kernel_rfl) (fun _ _ _ h => h) (Or.inl ⟨by kernel_rfl, ?_⟩) ?_
          rotate_left
          · intro w
            go_simp
            try with_reducible rfl
          refine wpAny_take (i := 36) (v := ?_) rfl (by kernel_rfl) (by kernel_rfl) (by kernel_rfl) (fun _ _ _ h => h) (Or.inl ⟨by kernel_rfl, ?_⟩) ?_
          rotate_left
          · intro w
            go_simp
            try with_reducible rfl
          refine wpAny_take (i := 37) (v := ?_) rfl (by kernel_rfl) (by kernel_rfl) (by kernel_rfl) (fun _ _ _ h => h) (Or.inl ⟨by kernel_rfl, ?_⟩) ?_
          rotate_left
          · intro w
            go_simp
            try with_reducible rfl
          refine wpAny_done (by kernel_rfl) ?_ _
          all_goals go_wp2
          all_goals go_ret
          all_goals exact ⟨rfl, tv9⟩
        · go_simp
          first | (refine h9 _ _ ?_; clear h9 K9) | skip
          refine wpAny_ready (rs := [28]) (by kernel_rfl) (by simp) ?_
          refine AllReady.cons rfl (fun K9 h9 => ?_) AllReady.nil
          go_simp
          first | (refine h9 _ _ ?_; clear h9 K9) | skip
          refine wpAny_take (i := 34) (v := ?_) rfl (by kernel_rfl) (by kernel_rfl) (by kernel_rfl) (fun _ _ _ h => h) (Or.inl ⟨by kernel_rfl, ?_⟩) ?_
          rotate_left
          · intro w
            go_simp
            try with_reducible rfl
          refine wpAny_take (i := 35) (v := ?_) rfl (by kernel_rfl) (by kernel_rfl) (by kernel_rfl) (fun _ _ _ h => h) (Or.inl ⟨by kernel_rfl, ?_⟩) ?_
          rotate_left
          · intro w
            go_simp
            try with_reducible rfl
          refine wpAny_take (i := 36) (v := ?_) rfl (by kernel_rfl) (by kernel_rfl) (by kernel_rfl) (fun _ _ _ h => h) (Or.inl ⟨by kernel_rfl, ?_⟩) ?_
          rotate_left
          · intro w
            go_simp
            try with_reducible rfl
          refine wpAny_take (i := 37) (v := ?_) rfl (by kernel_rfl) (by kernel_rfl) (by kernel_rfl) (fun _ _ _ h => h) (Or.inl ⟨by kernel_rfl, ?_⟩) ?_
          rotate_left
          · intro w
            go_simp
            try with_reducible rfl
          refine wpAny_done (by kernel_rfl) ?_ _
          all_goals go_wp2
          all_goals go_ret
          all_goals exact ⟨rfl, tv9⟩
    · have Hv := hid hv
      clear hv
      go_wp2_with fail
      refine (made_to (foatI_any _ _ _ ys _ sp_1) (onV_no Hv.out)).mono ?_
      rintro e w2 ⟨u2, rfl, o2, b2⟩
      have t2 := t1.trans (b2.mono t1.size)
      have sp_2 := sp_1.later b2
      obtain ⟨add, cpd, rfl, sd_2⟩ := o2.sl
      clear o2
      go_wp2_with fail
      refine (made_to (foataS_any _ _ _ ys _ sp_2) (onV_no Hv.out)).mono ?_
      rintro e w3 ⟨u3, rfl, o3, b3⟩
      have t3 := t2.trans (b3.mono t2.size)
      have sp_3 := sp_2.later b3
      have sd_3 := sd_2.later b3
      obtain ⟨ade, cpe, rfl, se_3⟩ := o3.sl
      clear o3
      go_wp2_with fail
      refine (says_tob (equalInts_any _ _ _ [] _ _ _ [] _ sd_3 se_3) (decide_eq_true rfl)).mono ?_
      rintro e w4 ⟨rfl, b4⟩
      have t4 := t3.trans (b4.mono t3.size)
      have sp_4 := sp_3.later b4
      have sd_4 := sd_3.later b4
      have se_4 := se_3.later b4
      go_wp2_with fail
      refine (says_tob (validI_any _ _ _ ys _ sp_4) (decide_eq_false Hv.out)).mono ?_
      rintro e w5 ⟨rfl, b5⟩
      have t5 := t4.trans (b5.mono t4.size)
      have sp_5 := sp_4.later b5
      have sd_5 := sd_4.later b5
      have se_5 := se_4.later b5
      go_wp2_with fail
      refine (made_to (foataS_any _ _ _ ys _ sp_5) (onV_no Hv.out)).mono ?_
      rintro e w6 ⟨u6, rfl, o6, b6⟩
      have t6 := t5.trans (b6.mono t5.size)
      have sp_6 := sp_5.later b6
      have sd_6 := sd_5.later b6
      have se_6 := se_5.later b6
      obtain ⟨ade2, cpe2, rfl, se2_6⟩ := o6.sl
      clear o6
      go_wp2_with fail
      refine (says_tob (equalInts_any _ _ _ [] _ _ _ [] _ sd_6 se2_6) (decide_eq_true rfl)).mono ?_
      rintro e w7 ⟨rfl, b7⟩
      have t7 := t6.trans (b7.mono t6.size)
      have sp_7 := sp_6.later b7
      have sd_7 := sd_6.later b7
      have se_7 := se_6.later b7
      have se2_7 := se2_6.later b7
      go_wp2
      go_ret
      exact ⟨rfl, t7⟩
  · go_enter Try.func3, Try.ntmps3
    go_wp2
    go_ret
    exact ⟨rfl, Below.refl _ _⟩

end Go.Proofs.Ytlhphgldmefefab
