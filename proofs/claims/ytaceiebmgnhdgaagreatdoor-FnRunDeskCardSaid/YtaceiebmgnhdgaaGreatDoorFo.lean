/- Foata's map, in the model. Condition: the list's cells can be read. -/
import Derived.Test.YtaceiebmgnhdgaaGreatDoorBnd
import Derived.Test.YtaceiebmgnhdgaaGreatDoorApp2
import Derived.Test.YtaceiebmgnhdgaaGreatDoorReg
namespace Go.Proofs.YtaceiebmgnhdgaaGreatDoor
open Go.RowKit

set_option maxHeartbeats 4000000 in
theorem turnB_any (ao : Option Addr) (n cap : Nat) (xs : List Int) (x : Int) (w : World) (h : Sl w ao n cap xs) (h7 : n ≤ 1000) :
    Calls Tryz.prog 62 #[.slice ao n cap, .int .i64 x] w (Made w (turnB xs x)) := by
  have hbig := h.big
  have hlen := hid h.len
  obtain ⟨lo, hlo⟩ : ∃ lo, lo = lowOf xs x := ⟨_, rfl⟩
  have Hlo := hid hlo
  have key : Calls Tryz.prog 62 #[.slice ao n cap, .int .i64 x] w (Made w ((tbP lo x xs n).1 ++ (tbP lo x xs n).2)) := by
    by_cases hn0 : n = 0
    · subst hn0
      have hx : xs = [] := List.eq_nil_of_length_eq_zero hlen.out
      have Hx := hid hx
      clear hlo hx
      go_enter Tryz.func62, Tryz.ntmps62
      go_wp2
      go_loopw [5, 6, 8] (fun v u i wr => ∃ (a1 a2 : Option Addr) (c1 c2 : Nat), v = .slice a1 0 c1 ∧ u = .slice a2 0 c2 ∧ i = .int .i64 0 ∧ Below w.heap.size w wr ∧ Own wr w.heap.size (.slice a1 0 c1) [] ∧ Own wr w.heap.size (.slice a2 0 c2) [])
        (fun _ _ _ _ => 0)
      case atStart =>
        refine ⟨_, _, _, _, rfl, rfl, rfl, ?_, ?_, ?_⟩
        · exact ((Below.refl _ _).alloc (Nat.le_refl _) _).alloc (by simp) _
        · exact (own_lit w).alloc _
        · have := own_lit_at (w := w.alloc (.cells #[] 3)) (B := w.heap.size) (by simp)
          simpa using this
      case round =>
        obtain ⟨a1, a2, c1, c2, rfl, rfl, rfl, hbr, o1, o2⟩ := hrel
        have hsz := hbr.size
        go_wp2_with (at_builtin; refine app_list _ rfl _ _ rfl w.heap.size _ _ rfl o1 _ _ _ _ rfl o2.read o2.nilcap (by simp) hsz ?_)
        intro u' w' ho' hg'
        have hb' := below_app hbr o1 hg'
        go_wp2
        go_ret
        refine ⟨_, rfl, ?_, hb'⟩
        rw [Hx.out]
        exact ho'
    · have hn1 : 0 < (n : Int) := by omega
      have hn2 : 0 ≤ (n : Int) - 1 := by omega
      have htn : ((n : Int) - 1).toNat = n - 1 := by omega
      obtain ⟨b, off, rfl, hblt, hc⟩ := h.row (by omega)
      have e0 : lo = decide (el xs (n - 1) < x) := by rw [hlo, lowOf, hlen.out]; simp; omega
      have hcell := hc (n - 1) (by omega)
      clear hlo
      go_enter Tryz.func62, Tryz.ntmps62
      go_wp2
      rw [← e0]
      have hcc := hid hc
      clear e0 hcell hc
      go_loopw [5, 6, 8] (fun v u i wr => ∃ (k m1 m2 : Nat) (a1 a2 : Option Addr) (c1 c2 : Nat), k ≤ n ∧ v = .slice a1 m1 c1 ∧ u = .slice a2 m2 c2 ∧ i = .int .i64 k ∧ Below w.heap.size w wr ∧ Own wr w.heap.size (.slice a1 m1 c1) (tbP lo x xs k).1 ∧ Own wr w.heap.size (.slice a2 m2 c2) (tbP lo x xs k).2 ∧ Apart (.slice a1 m1 c1) (.slice a2 m2 c2))
        (fun _ _ i _ => n - (intOf i).toNat)
      case atStart =>
        refine ⟨0, _, _, _, _, _, _, Nat.zero_le _, rfl, rfl, rfl, ?_, ?_, ?_, ?_⟩
        · exact ((Below.refl _ _).alloc (Nat.le_refl _) _).alloc (by simp) _
        · exact (own_lit w).alloc _
        · have := own_lit_at (w := w.alloc (.cells #[] 3)) (B := w.heap.size) (by simp)
          simpa [tbP] using this
        · exact Or.inr (by simp [Value.ownBlock])
      case round =>
        obtain ⟨k, m1, m2, a1, a2, c1, c2, hk, rfl, rfl, rfl, hbr, o1, o2, hap⟩ := hrel
        have hsz := hbr.size
        have hll := tbP_len lo x xs k
        by_cases hlt : k < n
        · have hc := hcc.out
          have hcell := (hbr.cell (p := ⟨b, off + k, none⟩) hblt).trans (hc k hlt)
          have hi1 : (k : Int) < n := by omega
          clear hc
          cases hs : sid lo x (el xs k)
          · have Hs := hid (tbP_no hs)
            have ht : (decide (el xs k < x) == lo) = false := hs
            have hl : (tbP lo x xs k).2.length ≤ 2000000 := by omega
            clear hs
            go_wp2_with (at_builtin; refine app_int2 _ _ rfl _ _ rfl w.heap.size _ _ rfl o2 rfl hl hsz ?_)
            intro u' w' ho' hg' hk'
            have hb' := below_app hbr o2 hg'
            have o1' := o1.kept hg' hap
            have ap' := (Apart.app (Apart.symm hap) o1 hk').symm
            have e2 : (tbP lo x xs k).2 ++ [el xs k] = (tbP lo x xs (k + 1)).2 := by rw [Hs.out]
            have e1 : (tbP lo x xs k).1 = (tbP lo x xs (k + 1)).1 := by rw [Hs.out]
            rw [e2] at ho'
            rw [e1] at o1'
            obtain ⟨Q, hQ⟩ : ∃ Q, Q = (tbP lo x xs (k + 1)).2.length := ⟨_, rfl⟩
            obtain ⟨a2', c2', rfl, hs'⟩ := ho'.sl
            rw [← hQ] at ho' ap' ⊢
            clear hs' e1 e2 hQ
            go_wp2
            go_roundw
            case rel => exact ⟨k + 1, _, _, _, _, _, _, by omega, rfl, rfl, by go_num, hb', o1', ho', ap'⟩
            case measure => simp [intOf]; omega
          · have Hs := hid (tbP_yes hs)
            have ht : (decide (el xs k < x) == lo) = true := hs
            have hl : (tbP lo x xs k).1.length ≤ 2000000 := by omega
            clear hs
            go_wp2_with (at_builtin; refine app_int2 _ _ rfl _ _ rfl w.heap.size _ _ rfl o1 rfl hl hsz ?_)
            intro u' w' ho' hg' hk'
            have hb' := below_app hbr o1 hg'
            have o2' := o2.kept hg' (Apart.symm hap)
            have hsz' := hb'.size
            obtain ⟨Q, hQ⟩ : ∃ Q, Q = ((tbP lo x xs k).1 ++ [el xs k]).length := ⟨_, rfl⟩
            obtain ⟨a1', c1', rfl, hs'⟩ := ho'.sl
            rw [← hQ] at ho' ⊢
            have hl2 : ((tbP lo x xs k).1 ++ [el xs k]).length + m2 ≤ 2000000 := by have := o2'.read.len; rw [List.length_append, List.length_singleton]; omega
            clear hs' hQ
            go_wp2_with (at_builtin; refine app_list _ rfl _ _ rfl w.heap.size _ _ rfl ho' _ _ _ _ rfl o2'.read o2'.nilcap hl2 hsz' ?_)
            intro u'' w'' ho'' hg''
            have hb'' := below_app hb' ho' hg''
            have e1 : (tbP lo x xs k).1 ++ el xs k :: (tbP lo x xs k).2 = (tbP lo x xs (k + 1)).1 := by rw [Hs.out]; simp
            have E2 : Hid ((tbP lo x xs (k + 1)).2 = []) := hid (by rw [Hs.out])
            rw [e1] at ho''
            obtain ⟨Q2, hQ2⟩ : ∃ Q, Q = (tbP lo x xs (k + 1)).1.length := ⟨_, rfl⟩
            obtain ⟨a1'', c1'', rfl, hs''⟩ := ho''.sl
            rw [← hQ2] at ho'' ⊢
            have oL := own_lit w''
            have ap := ho''.apart oL (Nat.le_refl _)
            clear hs'' e1 hQ2 o1 o2 hap
            go_wp2
            go_roundw
            case rel => exact ⟨k + 1, _, _, _, _, _, _, by omega, rfl, rfl, by go_num, hb''.alloc hb''.size _, ho''.alloc _, by rw [E2.out]; exact oL.mono hb''.size, ap⟩
            case measure => simp [intOf]; omega
        · obtain rfl : k = n := by omega
          have hl2 : (tbP lo x xs k).1.length + m2 ≤ 2000000 := by have := o2.read.len; omega
          go_wp2_with (at_builtin; refine app_list _ rfl _ _ rfl w.heap.size _ _ rfl o1 _ _ _ _ rfl o2.read o2.nilcap hl2 hsz ?_)
          intro u' w' ho' hg'
          have hb' := below_app hbr o1 hg'
          go_wp2
          go_ret
          exact ⟨_, rfl, ho', hb'⟩
  rw [turnB, ← Hlo.out, hlen.out]
  exact key

set_option maxHeartbeats 4000000 in
theorem foata0_any (ao : Option Addr) (n cap : Nat) (xs : List Int) (w : World) (h : Sl w ao n cap xs) (h7 : n ≤ 1000) :
    Calls Tryz.prog 38 #[.slice ao n cap] w (Made w (foat xs)) := by
  have hbig := h.big
  have hlen := hid h.len
  go_enter Tryz.func38, Tryz.ntmps38
  go_wp2
  go_loopw [3, 4] (fun v i wr => ∃ (k : Nat) (a1 : Option Addr) (c1 : Nat), k ≤ n ∧ v = .slice a1 k c1 ∧ i = .int .i64 k ∧ Below w.heap.size w wr ∧ Own wr w.heap.size (.slice a1 k c1) (foP xs k))
    (fun _ i _ => n - (intOf i).toNat)
  case atStart => exact ⟨0, _, _, Nat.zero_le _, rfl, rfl, (Below.refl _ _).alloc (Nat.le_refl _) _, own_lit w⟩
  case round =>
    obtain ⟨k, a1, c1, hk, rfl, rfl, hbr, o1⟩ := hrel
    by_cases hlt : k < n
    · obtain ⟨b, off, rfl, hblt, hc⟩ := h.row (by omega)
      have hcell := (hbr.cell (p := ⟨b, off + k, none⟩) hblt).trans (hc k hlt)
      have hi1 : (k : Int) < n := by omega
      have hl := foP_len xs k
      clear hc
      have sD : Sl wr.drew a1 k c1 (foP xs k) := o1.read.drew
      have sA : Sl (wr.alloc (.cells #[.int .i64 (el xs k)] 3)).drew a1 k c1 (foP xs k) := (o1.read.alloc _).drew
      have tD : Below w.heap.size w wr.drew := hbr.drew
      have tA : Below w.heap.size w (wr.alloc (.cells #[.int .i64 (el xs k)] 3)).drew := (hbr.alloc hbr.size _).drew
      have nA := (Sl.new wr (el xs k)).drew
      have cD : wr.drew.cell? ⟨b, off + k, none⟩ = some (.int .i64 (el xs k)) := hcell
      have cA : (wr.alloc (.cells #[.int .i64 (el xs k)] 3)).cell? ⟨b, off + k, none⟩ = some (.int .i64 (el xs k)) :=
        (((Below.refl wr.heap.size wr).alloc (Nat.le_refl _) _).cell (p := ⟨b, off + k, none⟩) (Nat.lt_of_lt_of_le hblt hbr.size)).trans hcell
      have hlB := turnB_len (foP xs k) (el xs k)
      have Hl := hid hl
      go_wp2_with fail
      go_region_law (first
        | (go_simp
           refine (turnB_any a1 k c1 (foP xs k) (el xs k) wr.drew sD (by omega)).mono ?_
           rintro e wc ⟨uc, rfl, oc, bc⟩
           have tbc := tD.trans (bc.mono tD.size)
           have occ := oc.mono tD.size
           have hcc := (bc.cell (p := ⟨b, off + k, none⟩) (Nat.lt_of_lt_of_le hblt tD.size)).trans cD
           have hnew := Sl.new wc (el xs k))
        | (go_simp
           refine (turnB_any a1 k c1 (foP xs k) (el xs k) (wr.alloc (.cells #[.int .i64 (el xs k)] 3)).drew sA (by omega)).mono ?_
           rintro e wc ⟨uc, rfl, oc, bc⟩
           have tbc := tA.trans (bc.mono tA.size)
           have occ := oc.mono tA.size
           have hnew := nA.later bc)
        | (refine step_app rfl (.tmp 17) (.tmp 22) rfl w uc (turnB (foP xs k) (el xs k)) rfl (by first | exact occ | exact occ.alloc _) _ 1 1 [el xs k] rfl hnew (by simp) (by rw [hlB, Hl.out]; omega) (by first | exact tbc | exact tbc.alloc tbc.size _) ?_
           intro u1 wd ho1 hg1 hb1x))
      all_goals (
        have eK : (turnB (foP xs k) (el xs k) ++ [el xs k]).length = k + 1 := foP_len xs (k + 1)
        have eF : turnB (foP xs k) (el xs k) ++ [el xs k] = foP xs (k + 1) := rfl
        obtain ⟨a2, c2, rfl, -⟩ := ho1.sl
        rw [eK, eF] at ho1
        rw [eK]
        clear eK eF
        go_wp2
        go_roundw
        case rel => exact ⟨k + 1, _, _, by omega, rfl, by go_num, hb1x, ho1⟩
        case measure => simp [intOf]; omega)
    · obtain rfl : k = n := by omega
      go_wp2
      go_ret
      refine ⟨_, rfl, ?_, hbr⟩
      rw [foat, hlen.out]
      exact o1

end Go.Proofs.YtaceiebmgnhdgaaGreatDoor
