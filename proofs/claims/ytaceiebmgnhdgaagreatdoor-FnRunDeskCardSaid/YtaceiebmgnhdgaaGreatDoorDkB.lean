/- The desk of the model: the answer to a line, and all answers. Condition: each line has at most 2^20 bytes. -/
import Derived.Test.YtaceiebmgnhdgaaGreatDoorDkA
import Derived.Test.YtaceiebmgnhdgaaGreatDoorDkP
import Derived.Test.YtaceiebmgnhdgaaGreatDoorFinL
import Derived.Test.YtaceiebmgnhdgaaGreatDoorPgt
import Derived.Test.YtaceiebmgnhdgaaGreatDoorFo
import Derived.Test.YtaceiebmgnhdgaaGreatDoorLin
import Derived.Test.YtaceiebmgnhdgaaGreatDoorSgnD
namespace Go.Proofs.YtaceiebmgnhdgaaGreatDoor
open Go.RowKit

theorem sp_mem : ∀ (l : List UInt8) (x : List UInt8), x ∈ sp l → x.length ≤ l.length
  | [], x, h => by
    simp only [sp, List.mem_singleton] at h
    subst h; exact Nat.le_refl _
  | c :: l, x, h => by
    rw [sp] at h
    split at h
    · rcases List.mem_cons.1 h with rfl | h
      · exact Nat.zero_le _
      · have := sp_mem l x h; simp only [List.length_cons]; omega
    · split at h
      · rw [List.mem_singleton] at h; subst h; simp
      · rename_i y r e
        rcases List.mem_cons.1 h with rfl | h
        · have := sp_mem l y (by rw [e]; exact List.mem_cons_self); simp only [List.length_cons]; omega
        · have := sp_mem l x (by rw [e]; exact List.mem_cons_of_mem _ h); simp only [List.length_cons]; omega
theorem sp_size {s t : ByteArray} (h : t ∈ (sp s.data.toList).map BA) : t.size ≤ s.size := by
  obtain ⟨x, hx, rfl⟩ := List.mem_map.1 h
  have := sp_mem _ x hx
  rw [BA_size]
  have e : s.data.toList.length = s.size := by rw [Array.length_toList]; rfl
  omega

set_option maxRecDepth 20000 in
set_option maxHeartbeats 8000000 in
theorem ansS_two (s a t : ByteArray) (w : World) (hs : s.size ≤ 1048576) (hL : Hid ((sp s.data.toList).map BA = [a, t])) :
    Calls Tryz.prog 25 #[.string s] w (Says w (.string (ansKM (ixOf a) (wIx a) (prs t)))) := by
  have ht : t.size ≤ 1048576 := Nat.le_trans (sp_size (by rw [hL.out]; simp)) hs
  have Hkm := hid (fun h => wix_km (s := a) h)
  have Hwl := hid (wix_le a)
  have E0 := hid (eql_table a)
  have E1 := hid (eql_foata a)
  have E2 := hid (eql_line a)
  have E3 := hid (eql_length a)
  have E4 := hid (eql_flag a)
  obtain ⟨vs, hvs⟩ : ∃ vs, vs = prs t := ⟨_, rfl⟩
  have cP := fun w => parse0_any t w ht
  have cS := fun w => pgs0_any t w ht
  have hvl : vs.length = t.size := by rw [hvs, prs_len]
  rw [← hvs] at cP cS ⊢
  have Hvl := hid hvl
  clear hvs hvl
  have cK := fun (w : World) h => countS0_any a (some ⟨w.heap.size, 0, none⟩) 0 0 [] (w.alloc (.cells #[] 3)) h (hid valid_nil)
  have cC := fun (ao : Option Addr) (n cap : Nat) (w : World) h => countS0_any a ao n cap vs w h
  obtain ⟨k, hk⟩ : ∃ k, k = ixOf a := ⟨_, rfl⟩
  obtain ⟨m, hm⟩ : ∃ m, m = wIx a := ⟨_, rfl⟩
  rw [← hk] at Hkm cC cK ⊢
  rw [← hm] at Hkm Hwl E0 E1 E2 E3 E4 ⊢
  obtain ⟨z0, hz0⟩ : ∃ z0, z0 = valN [] k := ⟨_, rfl⟩
  obtain ⟨kb, hkb⟩ : ∃ kb, kb = decide (k < 9) := ⟨_, rfl⟩
  rw [← hz0, ← hkb] at cK
  have Hkb := hid hkb
  obtain ⟨V, hV⟩ : ∃ V, V = ansKM k m vs := ⟨_, rfl⟩
  rw [← hV]
  have HV := hid hV
  clear hk hm hz0 hkb hV
  go_enter Tryz.func25, Tryz.ntmps25
  go_wp2_with fail
  refine (spl_any s w hs).mono ?_
  rintro e w1 ⟨u, rfl, ho, hb1⟩
  rw [hL.out] at ho
  rcases ho.place with ⟨_, hno⟩ | ⟨g, cap, rfl, ho1⟩
  · cases hno
  have c0 : w1.cell? ⟨g, 0, none⟩ = some (.string a) := ho1.cell (j := 0) (by simp)
  have c1 : w1.cell? ⟨g, 1, none⟩ = some (.string t) := ho1.cell (j := 1) (by simp)
  have hg := ho1.lt.2
  have hcap := ho1.sl.le
  have hcap2 := ho1.sl.max
  unfold maxLen at hcap2
  have hlen2 : ([a, t] : List ByteArray).length = 2 := rfl
  rw [hlen2] at hcap ⊢
  clear ho ho1 hlen2
  go_wp2_with fail
  refine (cP _).mono ?_
  rintro e w2 ⟨u2, rfl, ho2, hb2⟩
  obtain ⟨a2, k2, rfl, s2⟩ := ho2.sl
  obtain ⟨n2, hn2⟩ : ∃ n2, n2 = vs.length := ⟨_, rfl⟩
  rw [← hn2] at s2 ⊢
  have Hn2 := hid hn2
  have c0 := (hb2.cell (p := ⟨g, 0, none⟩) hg).trans c0
  have c1 := (hb2.cell (p := ⟨g, 1, none⟩) hg).trans c1
  have hg2 := Nat.lt_of_lt_of_le hg hb2.size
  have hb12 := hb1.trans (hb2.mono hb1.size)
  obtain ⟨vb, hvb⟩ : ∃ vb, vb = decide (Valid vs) := ⟨_, rfl⟩
  rw [← hvb]
  have Hvb := hid hvb
  clear ho2 hn2 hvb
  go_wp2_with fail
  refine (cS _).mono ?_
  rintro e w3 ⟨u3, zs, rfl, ho3, hz3, hb3⟩
  obtain ⟨a3, k3, rfl, s3⟩ := ho3.sl
  obtain ⟨n3, hn3⟩ : ∃ n3, n3 = zs.length := ⟨_, rfl⟩
  rw [← hn3] at s3 ⊢
  have Hn3 := hid hn3
  have Hz3 := hid hz3
  have s2 := s2.later hb3
  have c0 := (hb3.cell (p := ⟨g, 0, none⟩) hg2).trans c0
  have c1 := (hb3.cell (p := ⟨g, 1, none⟩) hg2).trans c1
  have hg3 := Nat.lt_of_lt_of_le hg2 hb3.size
  have hb13 := hb12.trans (hb3.mono hb12.size)
  obtain ⟨sb, hsb⟩ : ∃ sb, sb = okX vs := ⟨_, rfl⟩
  rw [← hsb]
  have Hsb := hid hsb
  have hbl := (Below.refl w3.heap.size w3).alloc (Nat.le_refl _) (.cells #[] 3)
  have c0l := (hbl.cell (p := ⟨g, 0, none⟩) hg3).trans c0
  clear ho3 hn3 hz3 hsb
  go_wp2_with fail
  refine (cK w3 (own_lit w3).read).mono ?_
  rintro e w4 ⟨rfl, hb4⟩
  have hb34 := hbl.trans (hb4.mono hbl.size)
  have s2 := s2.later hb34
  have s3 := s3.later hb34
  have c0 := (hb34.cell (p := ⟨g, 0, none⟩) hg3).trans c0
  have c1 := (hb34.cell (p := ⟨g, 1, none⟩) hg3).trans c1
  have hg4 := Nat.lt_of_lt_of_le hg3 hb34.size
  have hb14 := hb13.trans (hb34.mono hb13.size)
  clear c0l hbl hb1 hb2 hb3 hb4 hb12 hb13 hb34 hg hg2 hg3
  have hcs : (k < 9 ∧ m = 5) ∨ (¬ k < 9 ∧ m = 0) ∨ (¬ k < 9 ∧ m = 1) ∨ (¬ k < 9 ∧ m = 2) ∨ (¬ k < 9 ∧ m = 3) ∨ (¬ k < 9 ∧ m = 4) ∨ (¬ k < 9 ∧ m = 5) := by
    have h1 := Hkm.out
    have h2 := Hwl.out
    omega
  rcases hcs with ⟨hk, rfl⟩ | ⟨hk, rfl⟩ | ⟨hk, rfl⟩ | ⟨hk, rfl⟩ | ⟨hk, rfl⟩ | ⟨hk, rfl⟩ | ⟨hk, rfl⟩
  · have Hk := hid hk
    obtain rfl : kb = true := Hkb.out.trans (decide_eq_true Hk.out)
    have e0 : (a.toList == [116, 97, 98, 108, 101]) = false := E0.out.trans (decide_eq_false (by decide))
    have e1 : (a.toList == [102, 111, 97, 116, 97]) = false := E1.out.trans (decide_eq_false (by decide))
    have e2 : (a.toList == [108, 105, 110, 101]) = false := E2.out.trans (decide_eq_false (by decide))
    have e3 : (a.toList == [108, 101, 110, 103, 116, 104]) = false := E3.out.trans (decide_eq_false (by decide))
    have e4 : (a.toList == [102, 108, 97, 103]) = false := E4.out.trans (decide_eq_false (by decide))
    clear E0 E1 E2 E3 E4
    clear hk Hkm Hwl
    by_cases hv : Valid vs
    · have Hv := hid hv
      obtain rfl : vb = true := Hvb.out.trans (decide_eq_true Hv.out)
      have h7 : n2 ≤ 7 := by rw [Hn2.out]; exact Hv.out.len
      clear hv
      obtain ⟨x, hx⟩ := Int.eq_ofNat_of_zero_le (valN_bd Hv.out Hk.out).1
      have hx100 : x < 100 := by have := (valN_bd Hv.out Hk.out).2; omega
      have HV2 : Hid (V = BA (Lib.itoa (x : Int))) := hid (by rw [HV.out, ansKM, if_pos Hk.out, if_pos Hv.out, hx])
      have cC := cC a2 n2 k2 w4 s2 Hv
      rw [hx] at cC
      rw [decide_eq_true Hk.out] at cC
      clear hx
      go_wp2_with fail
      refine cC.mono ?_
      rintro e w5 ⟨rfl, hb5⟩
      have hb15 := hb14.trans (hb5.mono hb14.size)
      go_wp2_with fail
      refine (num2_any x hx100 _).mono ?_
      rintro e w6 ⟨rfl, rfl⟩
      go_wp2
      go_ret
      exact ⟨ret_eq (congrArg Value.string HV2.out.symm), hb15⟩
    · have Hv := hid hv
      obtain rfl : vb = false := Hvb.out.trans (decide_eq_false Hv.out)
      have HV2 : Hid (V = bWrong) := hid (by rw [HV.out, ansKM, if_pos Hk.out, if_neg Hv.out])
      clear hv
      cases sb <;> (go_wp2; go_ret; exact ⟨ret_eq (congrArg Value.string HV2.out.symm), hb14⟩)
  · have Hk := hid hk
    obtain rfl : kb = false := Hkb.out.trans (decide_eq_false Hk.out)
    have e0 : (a.toList == [116, 97, 98, 108, 101]) = true := E0.out.trans (decide_eq_true rfl)
    have e1 : (a.toList == [102, 111, 97, 116, 97]) = false := E1.out.trans (decide_eq_false (by decide))
    have e2 : (a.toList == [108, 105, 110, 101]) = false := E2.out.trans (decide_eq_false (by decide))
    have e3 : (a.toList == [108, 101, 110, 103, 116, 104]) = false := E3.out.trans (decide_eq_false (by decide))
    have e4 : (a.toList == [102, 108, 97, 103]) = false := E4.out.trans (decide_eq_false (by decide))
    clear E0 E1 E2 E3 E4
    clear hk Hkm Hwl
    by_cases hv : Valid vs
    · have Hv := hid hv
      obtain rfl : vb = true := Hvb.out.trans (decide_eq_true Hv.out)
      have h7 : n2 ≤ 7 := by rw [Hn2.out]; exact Hv.out.len
      clear hv
      have hT := hid (table_100 Hv.out)
      have hTl : Hid ((table vs).length = n2) := hid (by rw [table_len, Hn2.out])
      have HV2 : Hid (V = BA (lsL (table vs))) := hid (by rw [HV.out, ansKM, if_neg Hk.out, if_pos rfl, if_pos Hv.out])
      go_wp2_with fail
      refine (lesser_any _ _ _ vs _ s2 (by omega)).mono ?_
      rintro e w5 ⟨u5, rfl, ho5, hb5⟩
      have hb15 := hb14.trans (hb5.mono hb14.size)
      obtain ⟨a5, k5, rfl, s5⟩ := ho5.sl
      rw [hTl.out] at s5 ⊢
      clear ho5
      go_wp2_with fail
      refine (lsT_any _ _ _ _ _ s5 (by omega) hT).mono ?_
      rintro e w6 ⟨rfl, hb6⟩
      have hb16 := hb15.trans (hb6.mono hb15.size)
      go_wp2
      go_ret
      exact ⟨ret_eq (congrArg Value.string HV2.out.symm), hb16⟩
    · have Hv := hid hv
      obtain rfl : vb = false := Hvb.out.trans (decide_eq_false Hv.out)
      have HV2 : Hid (V = bWrong) := hid (by rw [HV.out, ansKM, if_neg Hk.out, if_pos rfl, if_neg Hv.out])
      clear hv
      cases sb <;> (go_wp2; go_ret; exact ⟨ret_eq (congrArg Value.string HV2.out.symm), hb14⟩)
  · have Hk := hid hk
    obtain rfl : kb = false := Hkb.out.trans (decide_eq_false Hk.out)
    have e0 : (a.toList == [116, 97, 98, 108, 101]) = false := E0.out.trans (decide_eq_false (by decide))
    have e1 : (a.toList == [102, 111, 97, 116, 97]) = true := E1.out.trans (decide_eq_true rfl)
    have e2 : (a.toList == [108, 105, 110, 101]) = false := E2.out.trans (decide_eq_false (by decide))
    have e3 : (a.toList == [108, 101, 110, 103, 116, 104]) = false := E3.out.trans (decide_eq_false (by decide))
    have e4 : (a.toList == [102, 108, 97, 103]) = false := E4.out.trans (decide_eq_false (by decide))
    clear E0 E1 E2 E3 E4
    clear hk Hkm Hwl
    by_cases hv : Valid vs
    · have Hv := hid hv
      obtain rfl : vb = true := Hvb.out.trans (decide_eq_true Hv.out)
      have h7 : n2 ≤ 7 := by rw [Hn2.out]; exact Hv.out.len
      clear hv
      have hFl : Hid ((foat vs).length = n2) := hid (by rw [Hn2.out]; exact (foat_perm vs).length_eq)
      have hF9 := hid (valid_9 (foat_valid Hv.out) hFl.out)
      have HV2 : Hid (V = strOfNums (dgs (foat vs))) := hid (by rw [HV.out, ansKM, if_neg Hk.out, if_neg (by decide), if_pos rfl, if_pos Hv.out])
      go_wp2_with fail
      refine (foata0_any _ _ _ vs _ s2 (by omega)).mono ?_
      rintro e w5 ⟨u5, rfl, ho5, hb5⟩
      have hb15 := hb14.trans (hb5.mono hb14.size)
      obtain ⟨a5, k5, rfl, s5⟩ := ho5.sl
      rw [hFl.out] at s5 ⊢
      clear ho5
      go_wp2_with fail
      refine (digits_any _ _ _ _ _ s5 (by omega) hF9).mono ?_
      rintro e w6 ⟨rfl, hb6⟩
      have hb16 := hb15.trans (hb6.mono hb15.size)
      go_wp2
      go_ret
      exact ⟨ret_eq (congrArg Value.string HV2.out.symm), hb16⟩
    · have Hv := hid hv
      obtain rfl : vb = false := Hvb.out.trans (decide_eq_false Hv.out)
      have HV2 : Hid (V = bWrong) := hid (by rw [HV.out, ansKM, if_neg Hk.out, if_neg (by decide), if_pos rfl, if_neg Hv.out])
      clear hv
      cases sb <;> (go_wp2; go_ret; exact ⟨ret_eq (congrArg Value.string HV2.out.symm), hb14⟩)
  · have Hk := hid hk
    obtain rfl : kb = false := Hkb.out.trans (decide_eq_false Hk.out)
    have e0 : (a.toList == [116, 97, 98, 108, 101]) = false := E0.out.trans (decide_eq_false (by decide))
    have e1 : (a.toList == [102, 111, 97, 116, 97]) = false := E1.out.trans (decide_eq_false (by decide))
    have e2 : (a.toList == [108, 105, 110, 101]) = true := E2.out.trans (decide_eq_true rfl)
    have e3 : (a.toList == [108, 101, 110, 103, 116, 104]) = false := E3.out.trans (decide_eq_false (by decide))
    have e4 : (a.toList == [102, 108, 97, 103]) = false := E4.out.trans (decide_eq_false (by decide))
    clear E0 E1 E2 E3 E4
    clear hk Hkm Hwl
    by_cases hv : Valid vs
    · have Hv := hid hv
      obtain rfl : vb = true := Hvb.out.trans (decide_eq_true Hv.out)
      have h7 : n2 ≤ 7 := by rw [Hn2.out]; exact Hv.out.len
      clear hv
      have hFl : Hid ((toL vs).length = n2) := hid (by rw [Hn2.out]; exact (lb_facts Hv.out).2.1)
      have hF9 := hid (valid_9 ((lb_facts Hv.out).1) hFl.out)
      have HV2 : Hid (V = strOfNums (dgs (toL vs))) := hid (by rw [HV.out, ansKM, if_neg Hk.out, if_neg (by decide), if_neg (by decide), if_pos rfl, if_pos Hv.out])
      go_wp2_with fail
      refine (toL0_any _ _ _ vs _ s2 Hv.out).mono ?_
      rintro e w5 ⟨u5, rfl, ho5, hb5⟩
      have hb15 := hb14.trans (hb5.mono hb14.size)
      obtain ⟨a5, k5, rfl, s5⟩ := ho5.sl
      rw [hFl.out] at s5 ⊢
      clear ho5
      go_wp2_with fail
      refine (digits_any _ _ _ _ _ s5 (by omega) hF9).mono ?_
      rintro e w6 ⟨rfl, hb6⟩
      have hb16 := hb15.trans (hb6.mono hb15.size)
      go_wp2
      go_ret
      exact ⟨ret_eq (congrArg Value.string HV2.out.symm), hb16⟩
    · have Hv := hid hv
      obtain rfl : vb = false := Hvb.out.trans (decide_eq_false Hv.out)
      have HV2 : Hid (V = bWrong) := hid (by rw [HV.out, ansKM, if_neg Hk.out, if_neg (by decide), if_neg (by decide), if_pos rfl, if_neg Hv.out])
      clear hv
      cases sb <;> (go_wp2; go_ret; exact ⟨ret_eq (congrArg Value.string HV2.out.symm), hb14⟩)
  · have Hk := hid hk
    obtain rfl : kb = false := Hkb.out.trans (decide_eq_false Hk.out)
    have e0 : (a.toList == [116, 97, 98, 108, 101]) = false := E0.out.trans (decide_eq_false (by decide))
    have e1 : (a.toList == [102, 111, 97, 116, 97]) = false := E1.out.trans (decide_eq_false (by decide))
    have e2 : (a.toList == [108, 105, 110, 101]) = false := E2.out.trans (decide_eq_false (by decide))
    have e3 : (a.toList == [108, 101, 110, 103, 116, 104]) = true := E3.out.trans (decide_eq_true rfl)
    have e4 : (a.toList == [102, 108, 97, 103]) = false := E4.out.trans (decide_eq_false (by decide))
    clear E0 E1 E2 E3 E4
    clear hk Hkm Hwl
    by_cases hv : okX vs = true
    · have Hs := hid hv
      obtain rfl : sb = true := Hsb.out.trans Hs.out
      clear hv
      have hbd := (sv_nums (okX_sv Hs.out)).1
      obtain ⟨x, hx⟩ := Int.eq_ofNat_of_zero_le hbd.1
      have hx100 : x < 100 := by omega
      have HV2 : Hid (V = BA (Lib.itoa (x : Int))) := hid (by rw [HV.out, ansKM, if_neg Hk.out, if_neg (by decide), if_neg (by decide), if_neg (by decide), if_pos rfl, if_pos Hs.out, hx])
      rw [Hz3.out Hs.out] at s3
      have cF := fun w h => says_to (lenS0_any a3 n3 k3 (outX vs) w h (hid (okX_sv Hs.out))) hx
      clear hx hbd
      cases vb <;> (
        go_wp2_with fail
        refine (cF _ s3).mono ?_
        rintro e w5 ⟨rfl, hb5⟩
        have hb15 := hb14.trans (hb5.mono hb14.size)
        go_wp2_with fail
        refine (num2_any x hx100 _).mono ?_
        rintro e w6 ⟨rfl, rfl⟩
        go_wp2
        go_ret
        exact ⟨ret_eq (congrArg Value.string HV2.out.symm), hb15⟩)
    · have Hs := hid hv
      obtain rfl : sb = false := Hsb.out.trans (by cases h : okX vs with | false => rfl | true => exact absurd h Hs.out)
      have HV2 : Hid (V = bWrong) := hid (by rw [HV.out, ansKM, if_neg Hk.out, if_neg (by decide), if_neg (by decide), if_neg (by decide), if_pos rfl, if_neg Hs.out])
      clear hv
      cases vb <;> (go_wp2; go_ret; exact ⟨ret_eq (congrArg Value.string HV2.out.symm), hb14⟩)
  · have Hk := hid hk
    obtain rfl : kb = false := Hkb.out.trans (decide_eq_false Hk.out)
    have e0 : (a.toList == [116, 97, 98, 108, 101]) = false := E0.out.trans (decide_eq_false (by decide))
    have e1 : (a.toList == [102, 111, 97, 116, 97]) = false := E1.out.trans (decide_eq_false (by decide))
    have e2 : (a.toList == [108, 105, 110, 101]) = false := E2.out.trans (decide_eq_false (by decide))
    have e3 : (a.toList == [108, 101, 110, 103, 116, 104]) = false := E3.out.trans (decide_eq_false (by decide))
    have e4 : (a.toList == [102, 108, 97, 103]) = true := E4.out.trans (decide_eq_true rfl)
    clear E0 E1 E2 E3 E4
    clear hk Hkm Hwl
    by_cases hv : okX vs = true
    · have Hs := hid hv
      obtain rfl : sb = true := Hsb.out.trans Hs.out
      clear hv
      have hbd := (sv_nums (okX_sv Hs.out)).2
      obtain ⟨x, hx⟩ := Int.eq_ofNat_of_zero_le hbd.1
      have hx100 : x < 100 := by omega
      have HV2 : Hid (V = BA (Lib.itoa (x : Int))) := hid (by rw [HV.out, ansKM, if_neg Hk.out, if_neg (by decide), if_neg (by decide), if_neg (by decide), if_neg (by decide), if_pos rfl, if_pos Hs.out, hx])
      rw [Hz3.out Hs.out] at s3
      have cF := fun w h => says_to (flagS0_any a3 n3 k3 (outX vs) w h (hid (okX_sv Hs.out))) hx
      clear hx hbd
      cases vb <;> (
        go_wp2_with fail
        refine (cF _ s3).mono ?_
        rintro e w5 ⟨rfl, hb5⟩
        have hb15 := hb14.trans (hb5.mono hb14.size)
        go_wp2_with fail
        refine (num2_any x hx100 _).mono ?_
        rintro e w6 ⟨rfl, rfl⟩
        go_wp2
        go_ret
        exact ⟨ret_eq (congrArg Value.string HV2.out.symm), hb15⟩)
    · have Hs := hid hv
      obtain rfl : sb = false := Hsb.out.trans (by cases h : okX vs with | false => rfl | true => exact absurd h Hs.out)
      have HV2 : Hid (V = bWrong) := hid (by rw [HV.out, ansKM, if_neg Hk.out, if_neg (by decide), if_neg (by decide), if_neg (by decide), if_neg (by decide), if_pos rfl, if_neg Hs.out])
      clear hv
      cases vb <;> (go_wp2; go_ret; exact ⟨ret_eq (congrArg Value.string HV2.out.symm), hb14⟩)
  · have Hk := hid hk
    obtain rfl : kb = false := Hkb.out.trans (decide_eq_false Hk.out)
    have e0 : (a.toList == [116, 97, 98, 108, 101]) = false := E0.out.trans (decide_eq_false (by decide))
    have e1 : (a.toList == [102, 111, 97, 116, 97]) = false := E1.out.trans (decide_eq_false (by decide))
    have e2 : (a.toList == [108, 105, 110, 101]) = false := E2.out.trans (decide_eq_false (by decide))
    have e3 : (a.toList == [108, 101, 110, 103, 116, 104]) = false := E3.out.trans (decide_eq_false (by decide))
    have e4 : (a.toList == [102, 108, 97, 103]) = false := E4.out.trans (decide_eq_false (by decide))
    clear E0 E1 E2 E3 E4
    clear hk Hkm Hwl
    have HV2 : Hid (V = bWhat) := hid (by rw [HV.out, ansKM, if_neg Hk.out, if_neg (by decide), if_neg (by decide), if_neg (by decide), if_neg (by decide), if_neg (by decide)])
    cases vb <;> cases sb <;> (go_wp2; go_ret; exact ⟨ret_eq (congrArg Value.string HV2.out.symm), hb14⟩)

set_option maxHeartbeats 1000000 in
theorem ansS_any (s : ByteArray) (w : World) (hs : s.size ≤ 1048576) :
    Calls Tryz.prog 25 #[.string s] w (Says w (.string (ansL s))) := by
  obtain ⟨L, hL⟩ : ∃ L, (sp s.data.toList).map BA = L := ⟨_, rfl⟩
  have HL := hid hL
  have e : ansL s = ansP L := by rw [ansL, HL.out]
  have hl : L.length ≤ 1048577 := by
    rw [← HL.out, List.length_map]
    have := (sp_len s.data.toList).2
    have e : s.data.toList.length = s.size := by rw [Array.length_toList]; rfl
    omega
  rw [e]
  clear hL e
  have no : L.length ≠ 2 → Calls Tryz.prog 25 #[.string s] w (Says w (.string bWhat)) := by
    intro h2
    have h2i : ¬ (L.length : Int) = 2 := by omega
    go_enter Tryz.func25, Tryz.ntmps25
    go_wp2_with fail
    refine (spl_any s w hs).mono ?_
    rintro e w1 ⟨u, rfl, ho, hb1⟩
    rw [HL.out] at ho
    obtain ⟨a1, k1, rfl, s1⟩ := ho.sl
    clear ho
    obtain ⟨n, hn⟩ : ∃ n, n = L.length := ⟨_, rfl⟩
    rw [← hn] at s1 h2 h2i hl ⊢
    clear hn
    go_wp2
    go_ret
    exact ⟨rfl, hb1⟩
  match L, HL, no with
  | [], _, no => exact no (by simp)
  | [_], _, no => exact no (by simp)
  | [a, t], HL, _ => exact ansS_two s a t w hs HL
  | _ :: _ :: _ :: _, _, no => exact no (by simp)

end Go.Proofs.YtaceiebmgnhdgaaGreatDoor
