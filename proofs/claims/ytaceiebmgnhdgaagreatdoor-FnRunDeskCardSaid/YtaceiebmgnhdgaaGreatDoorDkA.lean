/- The desk of the model, in parts: numbers of two digits, lists of numbers as texts, a text cut at spaces. Condition: the list's cells can be read; the text has at most 2^20 bytes. -/
import Derived.Test.YtaceiebmgnhdgaaGreatDoorSgtZ
import Derived.Test.YtaceiebmgnhdgaaGreatDoorStr
import Derived.Test.YtaceiebmgnhdgaaGreatDoorMirY
import Derived.Test.YtaceiebmgnhdgaaGreatDoorBnd
namespace Go.Proofs.YtaceiebmgnhdgaaGreatDoor
open Go.RowKit

set_option maxHeartbeats 1000000 in
theorem num2_any (x : Nat) (h : x < 100) (w : World) :
    Calls Tryz.prog 28 #[.int .i64 (x : Int)] w fun e w' => e = .returned (.string (BA (Lib.itoa (x : Int)))) ∧ w' = w := by
  by_cases h1 : x < 10
  · rw [itoa_dgT h1]; exact numP_any x h1 w
  · have e0 := itoa_two (x := x) (by omega) h
    rw [itoa_dgT (x := x / 10) (by omega), itoa_dgT (x := x % 10) (by omega)] at e0
    have h0 : ¬ (x : Int) < 0 := by omega
    have h9 : ¬ (x : Int) < 10 := by omega
    have hx9 : (x : Int) ≤ 99 := by omega
    have hq : (x : Int) / 10 = ((x / 10 : Nat) : Int) := by omega
    have hr : (x : Int) % 10 = ((x % 10 : Nat) : Int) := by omega
    have hz1 := BA_size (dgT ((x / 10 : Nat) : Int))
    have hz2 := BA_size (dgT ((x % 10 : Nat) : Int))
    rw [dgT_len, if_neg (by omega)] at hz1 hz2
    have E : Hid (BA (Lib.itoa (x : Int)) = BA (dgT ((x / 10 : Nat) : Int)) ++ BA (dgT ((x % 10 : Nat) : Int))) := hid (by rw [e0, BA_app])
    clear e0
    have c1 := fun w => numP_any (x / 10) (by omega) w
    have c2 := fun w => numP_any (x % 10) (by omega) w
    generalize BA (dgT ((x / 10 : Nat) : Int)) = s1 at *
    generalize BA (dgT ((x % 10 : Nat) : Int)) = s2 at *
    rw [E.out]
    clear E
    have Hq := hid hq
    have Hr := hid hr
    clear hq hr
    go_enter Tryz.func28, Tryz.ntmps28
    go_wp2_with fail
    rw [Hq.out]
    refine (c1 _).mono ?_
    rintro e w' ⟨rfl, rfl⟩
    go_wp2_with fail
    rw [Hr.out]
    refine (c2 _).mono ?_
    rintro e w' ⟨rfl, rfl⟩
    go_wp2
    go_ret
    exact ⟨rfl, rfl⟩

set_option maxHeartbeats 2000000 in
theorem lsT_any (ao : Option Addr) (n cap : Nat) (xs : List Int) (w : World) (h : Sl w ao n cap xs) (h7 : n ≤ 100) (hb : Hid (∀ j, j < xs.length → 0 ≤ el xs j ∧ el xs j < 100)) :
    Calls Tryz.prog 36 #[.slice ao n cap] w (Says w (.string (BA (lsL xs)))) := by
  have hlen := hid h.len
  have hbig := h.big
  go_enter Tryz.func36, Tryz.ntmps36
  go_wp2
  go_loopw [3, 4] (fun v i wr => ∃ (k : Nat) (s : ByteArray), k ≤ n ∧ v = .string s ∧ i = .int .i64 k ∧ Below w.heap.size w wr ∧ Hid (s = BA (lsP xs k)) ∧ s.size ≤ 3 * k)
    (fun _ i _ => n - (intOf i).toNat)
  case atStart => exact ⟨0, _, Nat.zero_le _, rfl, rfl, Below.refl _ _, hid rfl, Nat.zero_le _⟩
  case round =>
    obtain ⟨k, s, hk, rfl, rfl, hbr, hS, hs10⟩ := hrel
    have hsz : (s.size : Int) ≤ 300 := by omega
    by_cases hlt : k < n
    · obtain ⟨b, off, rfl, hblt, hc⟩ := h.row (by omega)
      have hcell := (hbr.cell (p := ⟨b, off + k, none⟩) hblt).trans (hc k hlt)
      have hkx : k < xs.length := by rw [hlen.out]; exact hlt
      obtain ⟨v, hv⟩ := Int.eq_ofNat_of_zero_le (hb.out k hkx).1
      have hv100 : v < 100 := by have := (hb.out k hkx).2; omega
      have hvl := itoa_len hv100
      have Hv := hid hv
      have hlp : Hid (lsP xs (k + 1) = lsP xs k ++ (if 0 < k then [44] else []) ++ Lib.itoa (v : Int)) := hid (by rw [lsP, Hv.out])
      have hz := BA_size (Lib.itoa (v : Int))
      have hz2 : (BA (Lib.itoa (v : Int))).size ≤ 2 := by omega
      have c1 := fun w => num2_any v hv100 w
      obtain ⟨t, ht⟩ : ∃ t, t = BA (Lib.itoa (v : Int)) := ⟨_, rfl⟩
      rw [← ht] at c1 hz2
      rw [hv] at hcell
      have Ht := hid ht
      clear hc hv hz hvl ht
      by_cases h0 : k = 0
      · have hk0 : ¬ (0 : Int) < (k : Int) := by omega
        have H0 := hid h0
        clear h0
        go_wp2_with fail
        refine (c1 _).mono ?_
        rintro e w2 ⟨rfl, rfl⟩
        go_wp2
        go_roundw
        case rel =>
          refine ⟨k + 1, _, by omega, rfl, by go_num, hbr, hid ?_, ?_⟩
          · rw [hlp.out, if_neg (by have := H0.out; omega), hS.out, Ht.out, BA_app, List.append_nil]
          · rw [ByteArray.size_append]; omega
        case measure => simp [intOf]; omega
      · have hk0 : (0 : Int) < (k : Int) := by omega
        go_wp2_with fail
        refine (c1 _).mono ?_
        rintro e w2 ⟨rfl, rfl⟩
        go_wp2
        go_roundw
        case rel =>
          refine ⟨k + 1, _, by omega, rfl, by go_num, hbr, hid ?_, ?_⟩
          · rw [hlp.out, if_pos (by omega), hS.out, Ht.out, show (⟨#[44]⟩ : ByteArray) = BA [44] from rfl, BA_app, BA_app]
          · rw [ByteArray.size_append, ByteArray.size_append]
            have : (⟨#[44]⟩ : ByteArray).size = 1 := rfl
            omega
        case measure => simp [intOf]; omega
    · obtain rfl : k = n := by omega
      go_wp2
      go_ret
      exact says_str (by rw [hS.out, lsP_eq xs _ (by rw [hlen.out]; exact Nat.le_refl _), ← hlen.out, List.take_length]) hbr

set_option maxHeartbeats 2000000 in
theorem spl_any (s : ByteArray) (w : World) (hs : s.size ≤ 1048576) :
    Calls Tryz.prog 32 #[.string s, .int .u8 32] w (MadeS w ((sp s.data.toList).map BA)) := by
  have hsl : s.data.toList.length = s.size := by rw [Array.length_toList]; rfl
  have Hsl := hid hsl
  clear hsl
  go_enter Tryz.func32, Tryz.ntmps32
  go_wp2
  go_loopw [5, 6, 7] (fun u f i wr => ∃ (k j m : Nat) (ao : Option Addr) (cap : Nat) (out : List (List UInt8)), j ≤ k ∧ k ≤ s.size ∧ m ≤ j ∧ Hid (m = out.length) ∧ u = .slice ao m cap ∧ f = .int .i64 j ∧ i = .int .i64 k ∧ Below w.heap.size w wr ∧ OwnT wr w.heap.size (.slice ao m cap) (out.map BA) ∧ Hid (sp s.data.toList = out ++ sp (s.data.toList.drop j)) ∧ Hid (∀ c ∈ (s.data.toList.take k).drop j, c ≠ 32))
    (fun _ _ i _ => s.size - (intOf i).toNat)
  case atStart => exact ⟨0, 0, 0, _, _, [], Nat.le_refl _, Nat.zero_le _, Nat.le_refl _, hid rfl, rfl, rfl, rfl, (Below.refl _ _).alloc (Nat.le_refl _) _, ownT_lit w, hid (by simp), hid (by simp)⟩
  case round =>
    obtain ⟨k, j, m, ao, cap, out, hjk, hk, hmj, hm, rfl, rfl, rfl, hbr, ho, Hsp, Hno⟩ := hrel
    have hsz := hbr.size
    have hl : (out.map BA).length ≤ 2000000 := by rw [List.length_map, ← hm.out]; omega
    by_cases hlt : k < s.size
    · have hki : (k : Int) < s.size := by omega
      have hkl : k < s.data.toList.length := by rw [Hsl.out]; exact hlt
      have hge : s.data.toList[k] = s[k] := by rw [Array.getElem_toList]; rfl
      have h255 : (s[k].toNat : Int) ≤ 255 := by have := s[k].toNat_lt; omega
      by_cases hc : s[k] = 32
      · have hc2 : (s[k].toNat : Int) = 32 := by rw [hc]; rfl
        have Hc := hid hc
        have Hp : Hid (s.extract j k = BA ((s.data.toList.take k).drop j)) := hid (by rw [← BA_of (s.extract j k), extract_toList])
        have Hn : Hid (sp s.data.toList = (out ++ [(s.data.toList.take k).drop j]) ++ sp (s.data.toList.drop (k + 1))) := hid (by
          rw [Hsp.out, List.append_assoc]
          congr 1
          rw [List.singleton_append, ← sp_cut _ _ Hno.out]
          congr 1
          conv => lhs; rw [show s.data.toList = s.data.toList.take k ++ s.data.toList.drop k from (List.take_append_drop _ _).symm]
          rw [List.drop_append_of_le_length (by rw [List.length_take]; omega), List.drop_eq_getElem_cons hkl, hge, Hc.out])
        have hjs : (j : Int) ≤ k := by omega
        have hks : (k : Int) ≤ s.size := by omega
        clear hc hge
        go_wp2_with (at_builtin; refine app_str2 _ (s.extract j k) rfl _ _ rfl w.heap.size _ _ rfl ho rfl hl hsz ?_)
        intro u' w' ho' hg' hk'
        have hb' := below_appT hbr ho hg'
        rw [Hp.out, ← List.map_singleton (f := BA), ← List.map_append] at ho'
        obtain ⟨ao', cap', rfl, hs'⟩ := ho'.sl
        have hlen' : ((out ++ [(s.data.toList.take k).drop j]).map BA).length = m + 1 := by rw [List.length_map, List.length_append, ← hm.out]; rfl
        rw [hlen'] at ho' ⊢
        clear hs'
        have Hl' := hid hlen'
        clear hlen'
        go_wp2
        go_roundw
        case rel =>
          refine ⟨k + 1, k + 1, m + 1, _, _, out ++ [(s.data.toList.take k).drop j], Nat.le_refl _, by omega, by omega, hid (by rw [List.length_append, ← hm.out]; rfl), by go_num, by go_num, by go_num, hb', ho', Hn.out, hid ?_⟩
          rw [List.drop_of_length_le (by rw [List.length_take]; omega)]
          intro c hc; cases hc
        case measure => simp [intOf]; omega
      · have hc2 : ¬ (s[k].toNat : Int) = 32 := fun e => hc (UInt8.toNat_inj.1 (show s[k].toNat = 32 by omega))
        have Hno' : Hid (∀ c ∈ (s.data.toList.take (k + 1)).drop j, c ≠ 32) := hid (by
          rw [List.take_add_one, List.getElem?_eq_getElem hkl, List.drop_append_of_le_length (by rw [List.length_take]; omega)]
          intro c hc'
          rcases List.mem_append.1 hc' with h1 | h1
          · exact Hno.out c h1
          · simp only [Option.toList_some, List.mem_singleton] at h1
            rw [h1, hge]
            exact hc)
        clear hge hc
        go_wp2
        go_roundw
        case rel => exact ⟨k + 1, j, m, _, _, out, by omega, by omega, hmj, hm, rfl, rfl, by go_num, hbr, ho, Hsp, Hno'⟩
        case measure => simp [intOf]; omega
    · have hks : k = s.size := by omega
      have Hp : Hid (s.extract j s.size = BA (s.data.toList.drop j)) := hid (by rw [← BA_of (s.extract j s.size), extract_toList, ← Hsl.out, List.take_length])
      have Hn : Hid (sp s.data.toList = out ++ [s.data.toList.drop j]) := hid (by
        have h1 := Hno.out
        rw [hks, ← Hsl.out, List.take_length] at h1
        rw [Hsp.out, sp_all _ h1])
      subst hks
      have hjs : (j : Int) ≤ s.size := by omega
      go_wp2_with (at_builtin; refine app_str2 _ (s.extract j s.size) rfl _ _ rfl w.heap.size _ _ rfl ho rfl hl hsz ?_)
      intro u' w' ho' hg' hk'
      have hb' := below_appT hbr ho hg'
      rw [Hp.out, ← List.map_singleton (f := BA), ← List.map_append, ← Hn.out] at ho'
      go_wp2
      go_ret
      exact ⟨_, rfl, ho', hb'⟩

end Go.Proofs.YtaceiebmgnhdgaaGreatDoor
