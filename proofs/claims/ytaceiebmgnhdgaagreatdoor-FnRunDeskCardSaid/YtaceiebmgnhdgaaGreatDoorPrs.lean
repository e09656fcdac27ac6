/- Crossings, nestings and other pairs of places, in the program and in its model. Condition: the list's cells can be read. -/
import Derived.Test.YtaceiebmgnhdgaaGreatDoorBnd
namespace Go.Proofs.YtaceiebmgnhdgaaGreatDoor
open Go.RowKit

theorem crossC (i u k v : Int) (w : World) : Calls Tryz.prog 116 #[.int .i64 i, .int .i64 u, .int .i64 k, .int .i64 v] w fun e w' => e = .returned (.bool (crossF i u k v)) ∧ w' = w := by
  go_enter Tryz.func116, Tryz.ntmps116
  go_wp2
  all_goals go_ret
  all_goals refine ⟨ret_eq (congrArg Value.bool ?_), rfl⟩
  all_goals rw [Bool.eq_iff_iff]
  all_goals simp [crossF] <;> omega

set_option maxHeartbeats 1000000 in
theorem crossW_any (ao : Option Addr) (n cap : Nat) (xs : List Int) (w : World) (h : Sl w ao n cap xs) :
    Calls Tryz.prog 114 #[.slice ao n cap, .func (.func 116) #[] #[]] w (Says w (.int .i64 (onVi xs (pairs crossF xs) (-1)))) := by
  have hbig := h.big
  have hlen := hid h.len
  by_cases hv : Valid xs
  · have h7 : n ≤ 7 := by have := hv.len; rw [hlen.out] at this; exact this
    have Hv := hid hv
    go_enter Tryz.func114, Tryz.ntmps114
    go_wp2_with fail
    refine (validI_any _ _ _ xs _ h).mono ?_
    rintro e w1 ⟨rfl, hb1⟩
    have hsz := hb1.size
    go_wp2
    clear hv
    obtain ⟨w0, hw0⟩ : ∃ w0 : World, w0 = w1 := ⟨_, rfl⟩
    subst hw0
    go_loopw [5, 15] (fun v i wr => ∃ (k : Nat), k ≤ n ∧ v = .int .i64 (prP crossF xs k) ∧ i = .int .i64 k ∧ Below w.heap.size w wr)
      (fun _ i _ => n - (intOf i).toNat)
    case atStart => exact ⟨0, Nat.zero_le _, rfl, rfl, hb1⟩
    case round =>
      obtain ⟨k, hk, rfl, rfl, hbr⟩ := hrel
      have hbd := prP_bd crossF xs k
      have hq1 := hbd.1
      have hq2 : prP crossF xs k ≤ 49 := Int.le_trans hbd.2 (by have : (k : Int) * k ≤ 7 * 7 := Int.mul_le_mul (by omega) (by omega) (by omega) (by omega); omega)
      clear hbd
      by_cases hlt : k < n
      · obtain ⟨b, off, rfl, hblt, hc⟩ := h.row (by omega)
        have hcell := (hbr.cell (p := ⟨b, off + k, none⟩) hblt).trans (hc k hlt)
        have hi1 : (k : Int) < n := by omega
        have hle := h.le
        have hcc := hid hc
        clear hc
        go_wp2
        obtain ⟨wo, hwo⟩ : ∃ wo : World, wo = wr := ⟨_, rfl⟩
        subst hwo
        go_loopw [5, 24] (fun v j wr => ∃ (t : Nat), t ≤ k ∧ v = .int .i64 (prP crossF xs k + inP crossF xs k t) ∧ j = .int .i64 t ∧ Below w.heap.size w wr)
          (fun _ j _ => k - (intOf j).toNat)
        case atStart => exact ⟨0, Nat.zero_le _, by simp [inP, cntP], rfl, hbr⟩
        case round =>
          obtain ⟨t, ht, rfl, rfl, hbr⟩ := hrel
          have hbd := inP_bd crossF xs k t
          have hq3 := hbd.1
          have hq4 := hbd.2
          clear hbd
          by_cases htl : t < k
          · have hcell1 := (hbr.cell (p := ⟨b, off + t, none⟩) hblt).trans (hcc.out t (by omega))
            have hi2 : (t : Int) < k := by omega
            by_cases hf : crossF t (el xs t) k (el xs k) = true
            · have e1 := hid (inP_yes hf)
              go_wp2_with fail
              refine (crossC _ _ _ _ _).mono ?_
              rintro e w' ⟨rfl, hww⟩
              subst hww
              rw [hf]
              clear hf
              go_wp2
              go_roundw
              case rel => exact ⟨t + 1, by omega, by rw [e1.out]; congr 1; omega, by go_num, hbr⟩
              case measure => simp [intOf]; omega
            · have hf2 : crossF t (el xs t) k (el xs k) = false := by simpa using hf
              have e1 := hid (inP_no hf2)
              go_wp2_with fail
              refine (crossC _ _ _ _ _).mono ?_
              rintro e w' ⟨rfl, hww⟩
              subst hww
              rw [hf2]
              clear hf hf2
              go_wp2
              go_roundw
              case rel => exact ⟨t + 1, by omega, by rw [e1.out], by go_num, hbr⟩
              case measure => simp [intOf]; omega
          · obtain rfl : t = k := by omega
            go_wp2
            go_roundw
            case rel => exact ⟨t + 1, by omega, by rw [prP], by go_num, hbr⟩
            case measure => simp [intOf]; omega
      · obtain rfl : k = n := by omega
        go_wp2
        go_ret
        rw [onVi_yes Hv.out]
        exact says_int (by rw [pairs, hlen.out]) hbr
  · have Hv := hid hv
    go_enter Tryz.func114, Tryz.ntmps114
    go_wp2_with fail
    refine (validI_any _ _ _ xs _ h).mono ?_
    rintro e w1 ⟨rfl, hb1⟩
    go_wp2
    go_ret
    rw [onVi_no Hv.out]
    exact ⟨rfl, hb1⟩

set_option maxHeartbeats 1000000 in
theorem crossI_any (ao : Option Addr) (n cap : Nat) (xs : List Int) (w : World) (h : Sl w ao n cap xs) :
    Calls Tryz.prog 88 #[.slice ao n cap] w (Says w (.int .i64 (onVi xs (pairs crossF xs) (-1)))) := by
  have hbig := h.big
  have hlen := hid h.len
  go_enter Tryz.func88, Tryz.ntmps88
  go_wp2_with fail
  refine (crossW_any _ _ _ xs _ h).mono ?_
  rintro e w2 ⟨rfl, hb2⟩
  go_wp2
  go_ret
  exact ⟨rfl, hb2⟩

theorem nestC (i u k v : Int) (w : World) : Calls Tryz.prog 117 #[.int .i64 i, .int .i64 u, .int .i64 k, .int .i64 v] w fun e w' => e = .returned (.bool (nestF i u k v)) ∧ w' = w := by
  go_enter Tryz.func117, Tryz.ntmps117
  go_wp2
  all_goals go_ret
  all_goals refine ⟨ret_eq (congrArg Value.bool ?_), rfl⟩
  all_goals rw [Bool.eq_iff_iff]
  all_goals simp [nestF] <;> omega

set_option maxHeartbeats 1000000 in
theorem nestW_any (ao : Option Addr) (n cap : Nat) (xs : List Int) (w : World) (h : Sl w ao n cap xs) :
    Calls Tryz.prog 114 #[.slice ao n cap, .func (.func 117) #[] #[]] w (Says w (.int .i64 (onVi xs (pairs nestF xs) (-1)))) := by
  have hbig := h.big
  have hlen := hid h.len
  by_cases hv : Valid xs
  · have h7 : n ≤ 7 := by have := hv.len; rw [hlen.out] at this; exact this
    have Hv := hid hv
    go_enter Tryz.func114, Tryz.ntmps114
    go_wp2_with fail
    refine (validI_any _ _ _ xs _ h).mono ?_
    rintro e w1 ⟨rfl, hb1⟩
    have hsz := hb1.size
    go_wp2
    clear hv
    obtain ⟨w0, hw0⟩ : ∃ w0 : World, w0 = w1 := ⟨_, rfl⟩
    subst hw0
    go_loopw [5, 15] (fun v i wr => ∃ (k : Nat), k ≤ n ∧ v = .int .i64 (prP nestF xs k) ∧ i = .int .i64 k ∧ Below w.heap.size w wr)
      (fun _ i _ => n - (intOf i).toNat)
    case atStart => exact ⟨0, Nat.zero_le _, rfl, rfl, hb1⟩
    case round =>
      obtain ⟨k, hk, rfl, rfl, hbr⟩ := hrel
      have hbd := prP_bd nestF xs k
      have hq1 := hbd.1
      have hq2 : prP nestF xs k ≤ 49 := Int.le_trans hbd.2 (by have : (k : Int) * k ≤ 7 * 7 := Int.mul_le_mul (by omega) (by omega) (by omega) (by omega); omega)
      clear hbd
      by_cases hlt : k < n
      · obtain ⟨b, off, rfl, hblt, hc⟩ := h.row (by omega)
        have hcell := (hbr.cell (p := ⟨b, off + k, none⟩) hblt).trans (hc k hlt)
        have hi1 : (k : Int) < n := by omega
        have hle := h.le
        have hcc := hid hc
        clear hc
        go_wp2
        obtain ⟨wo, hwo⟩ : ∃ wo : World, wo = wr := ⟨_, rfl⟩
        subst hwo
        go_loopw [5, 24] (fun v j wr => ∃ (t : Nat), t ≤ k ∧ v = .int .i64 (prP nestF xs k + inP nestF xs k t) ∧ j = .int .i64 t ∧ Below w.heap.size w wr)
          (fun _ j _ => k - (intOf j).toNat)
        case atStart => exact ⟨0, Nat.zero_le _, by simp [inP, cntP], rfl, hbr⟩
        case round =>
          obtain ⟨t, ht, rfl, rfl, hbr⟩ := hrel
          have hbd := inP_bd nestF xs k t
          have hq3 := hbd.1
          have hq4 := hbd.2
          clear hbd
          by_cases htl : t < k
          · have hcell1 := (hbr.cell (p := ⟨b, off + t, none⟩) hblt).trans (hcc.out t (by omega))
            have hi2 : (t : Int) < k := by omega
            by_cases hf : nestF t (el xs t) k (el xs k) = true
            · have e1 := hid (inP_yes hf)
              go_wp2_with fail
              refine (nestC _ _ _ _ _).mono ?_
              rintro e w' ⟨rfl, hww⟩
              subst hww
              rw [hf]
              clear hf
              go_wp2
              go_roundw
              case rel => exact ⟨t + 1, by omega, by rw [e1.out]; congr 1; omega, by go_num, hbr⟩
              case measure => simp [intOf]; omega
            · have hf2 : nestF t (el xs t) k (el xs k) = false := by simpa using hf
              have e1 := hid (inP_no hf2)
              go_wp2_with fail
              refine (nestC _ _ _ _ _).mono ?_
              rintro e w' ⟨rfl, hww⟩
              subst hww
              rw [hf2]
              clear hf hf2
              go_wp2
              go_roundw
              case rel => exact ⟨t + 1, by omega, by rw [e1.out], by go_num, hbr⟩
              case measure => simp [intOf]; omega
          · obtain rfl : t = k := by omega
            go_wp2
            go_roundw
            case rel => exact ⟨t + 1, by omega, by rw [prP], by go_num, hbr⟩
            case measure => simp [intOf]; omega
      · obtain rfl : k = n := by omega
        go_wp2
        go_ret
        rw [onVi_yes Hv.out]
        exact says_int (by rw [pairs, hlen.out]) hbr
  · have Hv := hid hv
    go_enter Tryz.func114, Tryz.ntmps114
    go_wp2_with fail
    refine (validI_any _ _ _ xs _ h).mono ?_
    rintro e w1 ⟨rfl, hb1⟩
    go_wp2
    go_ret
    rw [onVi_no Hv.out]
    exact ⟨rfl, hb1⟩

set_option maxHeartbeats 1000000 in
theorem nestI_any (ao : Option Addr) (n cap : Nat) (xs : List Int) (w : World) (h : Sl w ao n cap xs) :
    Calls Tryz.prog 89 #[.slice ao n cap] w (Says w (.int .i64 (onVi xs (pairs nestF xs) (-1)))) := by
  have hbig := h.big
  have hlen := hid h.len
  go_enter Tryz.func89, Tryz.ntmps89
  go_wp2_with fail
  refine (nestW_any _ _ _ xs _ h).mono ?_
  rintro e w2 ⟨rfl, hb2⟩
  go_wp2
  go_ret
  exact ⟨rfl, hb2⟩

theorem denC (i u k v : Int) (w : World) : Calls Tryz.prog 115 #[.int .i64 i, .int .i64 u, .int .i64 k, .int .i64 v] w fun e w' => e = .returned (.bool (denF i u k v)) ∧ w' = w := by
  go_enter Tryz.func115, Tryz.ntmps115
  go_wp2
  all_goals go_ret
  all_goals refine ⟨ret_eq (congrArg Value.bool ?_), rfl⟩
  all_goals rw [Bool.eq_iff_iff]
  all_goals simp [denF] <;> omega

set_option maxHeartbeats 1000000 in
theorem denW_any (ao : Option Addr) (n cap : Nat) (xs : List Int) (w : World) (h : Sl w ao n cap xs) :
    Calls Tryz.prog 114 #[.slice ao n cap, .func (.func 115) #[] #[]] w (Says w (.int .i64 (onVi xs (pairs denF xs) (-1)))) := by
  have hbig := h.big
  have hlen := hid h.len
  by_cases hv : Valid xs
  · have h7 : n ≤ 7 := by have := hv.len; rw [hlen.out] at this; exact this
    have Hv := hid hv
    go_enter Tryz.func114, Tryz.ntmps114
    go_wp2_with fail
    refine (validI_any _ _ _ xs _ h).mono ?_
    rintro e w1 ⟨rfl, hb1⟩
    have hsz := hb1.size
    go_wp2
    clear hv
    obtain ⟨w0, hw0⟩ : ∃ w0 : World, w0 = w1 := ⟨_, rfl⟩
    subst hw0
    go_loopw [5, 15] (fun v i wr => ∃ (k : Nat), k ≤ n ∧ v = .int .i64 (prP denF xs k) ∧ i = .int .i64 k ∧ Below w.heap.size w wr)
      (fun _ i _ => n - (intOf i).toNat)
    case atStart => exact ⟨0, Nat.zero_le _, rfl, rfl, hb1⟩
    case round =>
      obtain ⟨k, hk, rfl, rfl, hbr⟩ := hrel
      have hbd := prP_bd denF xs k
      have hq1 := hbd.1
      have hq2 : prP denF xs k ≤ 49 := Int.le_trans hbd.2 (by have : (k : Int) * k ≤ 7 * 7 := Int.mul_le_mul (by omega) (by omega) (by omega) (by omega); omega)
      clear hbd
      by_cases hlt : k < n
      · obtain ⟨b, off, rfl, hblt, hc⟩ := h.row (by omega)
        have hcell := (hbr.cell (p := ⟨b, off + k, none⟩) hblt).trans (hc k hlt)
        have hi1 : (k : Int) < n := by omega
        have hle := h.le
        have hcc := hid hc
        clear hc
        go_wp2
        obtain ⟨wo, hwo⟩ : ∃ wo : World, wo = wr := ⟨_, rfl⟩
        subst hwo
        go_loopw [5, 24] (fun v j wr => ∃ (t : Nat), t ≤ k ∧ v = .int .i64 (prP denF xs k + inP denF xs k t) ∧ j = .int .i64 t ∧ Below w.heap.size w wr)
          (fun _ j _ => k - (intOf j).toNat)
        case atStart => exact ⟨0, Nat.zero_le _, by simp [inP, cntP], rfl, hbr⟩
        case round =>
          obtain ⟨t, ht, rfl, rfl, hbr⟩ := hrel
          have hbd := inP_bd denF xs k t
          have hq3 := hbd.1
          have hq4 := hbd.2
          clear hbd
          by_cases htl : t < k
          · have hcell1 := (hbr.cell (p := ⟨b, off + t, none⟩) hblt).trans (hcc.out t (by omega))
            have hi2 : (t : Int) < k := by omega
            by_cases hf : denF t (el xs t) k (el xs k) = true
            · have e1 := hid (inP_yes hf)
              go_wp2_with fail
              refine (denC _ _ _ _ _).mono ?_
              rintro e w' ⟨rfl, hww⟩
              subst hww
              rw [hf]
              clear hf
              go_wp2
              go_roundw
              case rel => exact ⟨t + 1, by omega, by rw [e1.out]; congr 1; omega, by go_num, hbr⟩
              case measure => simp [intOf]; omega
            · have hf2 : denF t (el xs t) k (el xs k) = false := by simpa using hf
              have e1 := hid (inP_no hf2)
              go_wp2_with fail
              refine (denC _ _ _ _ _).mono ?_
              rintro e w' ⟨rfl, hww⟩
              subst hww
              rw [hf2]
              clear hf hf2
              go_wp2
              go_roundw
              case rel => exact ⟨t + 1, by omega, by rw [e1.out], by go_num, hbr⟩
              case measure => simp [intOf]; omega
          · obtain rfl : t = k := by omega
            go_wp2
            go_roundw
            case rel => exact ⟨t + 1, by omega, by rw [prP], by go_num, hbr⟩
            case measure => simp [intOf]; omega
      · obtain rfl : k = n := by omega
        go_wp2
        go_ret
        rw [onVi_yes Hv.out]
        exact says_int (by rw [pairs, hlen.out]) hbr
  · have Hv := hid hv
    go_enter Tryz.func114, Tryz.ntmps114
    go_wp2_with fail
    refine (validI_any _ _ _ xs _ h).mono ?_
    rintro e w1 ⟨rfl, hb1⟩
    go_wp2
    go_ret
    rw [onVi_no Hv.out]
    exact ⟨rfl, hb1⟩

set_option maxHeartbeats 4000000 in
theorem crossS0 (b off n cap : Nat) (xs : List Int) (i k : Nat) (hi : i < n) (hk : k < n) (w : World) (hcell : w.cell? ⟨b, off + i, none⟩ = some (.int .i64 (el xs i))) (hcell1 : w.cell? ⟨b, off + k, none⟩ = some (.int .i64 (el xs k))) :
    Calls Tryz.prog 83 #[.slice (some ⟨b, off, none⟩) n cap, .int .i64 i, .int .i64 k] w fun e w' => e = .returned (.bool (giF crossF xs i k)) ∧ ∃ m, w' = w.drewN m := by
  have hi1 : (i : Int) < n := by omega
  have hk1 : (k : Int) < n := by omega
  obtain ⟨u, hu⟩ : ∃ u, u = el xs i := ⟨_, rfl⟩
  obtain ⟨v, hv⟩ : ∃ v, v = el xs k := ⟨_, rfl⟩
  have Hu := hid hu
  have Hv := hid hv
  rw [← hu] at hcell
  rw [← hv] at hcell1
  clear hu hv
  have hg : Hid (giF crossF xs i k = (decide ((i : Int) < k) && crossF i u k v)) := by rw [giF, Hu.out, Hv.out]; show _ = _; congr 1; simp
  go_enter Tryz.func83, Tryz.ntmps83
  cases c0 : decide ((i : Int) < k) <;> cases c1 : decide ((k : Int) ≤ u) <;> cases c2 : decide (u < v) <;> cases c3 : decide (v < (i : Int))
  all_goals (have c0n := c0; simp only [Int.ofNat_lt] at c0n)
  all_goals (go_wp2_with fail; go_quiet (fail); go_wp2; go_ret; exact ⟨ret_eq (congrArg Value.bool (by rw [hg.out]; simp_all [crossF])), _, rfl⟩)

set_option maxHeartbeats 4000000 in
theorem nestS0 (b off n cap : Nat) (xs : List Int) (i k : Nat) (hi : i < n) (hk : k < n) (w : World) (hcell : w.cell? ⟨b, off + i, none⟩ = some (.int .i64 (el xs i))) (hcell1 : w.cell? ⟨b, off + k, none⟩ = some (.int .i64 (el xs k))) :
    Calls Tryz.prog 82 #[.slice (some ⟨b, off, none⟩) n cap, .int .i64 i, .int .i64 k] w fun e w' => e = .returned (.bool (giF nestF xs i k)) ∧ ∃ m, w' = w.drewN m := by
  have hi1 : (i : Int) < n := by omega
  have hk1 : (k : Int) < n := by omega
  obtain ⟨u, hu⟩ : ∃ u, u = el xs i := ⟨_, rfl⟩
  obtain ⟨v, hv⟩ : ∃ v, v = el xs k := ⟨_, rfl⟩
  have Hu := hid hu
  have Hv := hid hv
  rw [← hu] at hcell
  rw [← hv] at hcell1
  clear hu hv
  have hg : Hid (giF nestF xs i k = (decide ((i : Int) < k) && nestF i u k v)) := by rw [giF, Hu.out, Hv.out]; show _ = _; congr 1; simp
  go_enter Tryz.func82, Tryz.ntmps82
  cases c0 : decide ((i : Int) < k) <;> cases c1 : decide ((k : Int) ≤ v) <;> cases c2 : decide (v < u) <;> cases c3 : decide (u < (i : Int))
  all_goals (have c0n := c0; simp only [Int.ofNat_lt] at c0n)
  all_goals (go_wp2_with fail; go_quiet (fail); go_wp2; go_ret; exact ⟨ret_eq (congrArg Value.bool (by rw [hg.out]; simp_all [nestF])), _, rfl⟩)

set_option maxHeartbeats 1000000 in
theorem crossG (ao : Option Addr) (n cap : Nat) (xs : List Int) (w : World) (h : Sl w ao n cap xs) (hv : Valid xs) :
    Calls Tryz.prog 61 #[.slice ao n cap, .bool false] w (Says w (.int .i64 (pairs crossF xs))) := by
  have hbig := h.big
  have hlen := hid h.len
  have h7 : n ≤ 7 := by have := hv.len; rw [hlen.out] at this; exact this
  have Hv := hid hv
  clear hv
  go_enter Tryz.func61, Tryz.ntmps61
  go_wp2
  go_loopw [5, 6] (fun v i wr => ∃ (i' : Nat), i' ≤ n ∧ v = .int .i64 (gdP crossF xs n i') ∧ i = .int .i64 i' ∧ Below w.heap.size w wr)
    (fun _ i _ => n - (intOf i).toNat)
  case atStart => exact ⟨0, Nat.zero_le _, rfl, rfl, Below.refl _ _⟩
  case round =>
    obtain ⟨i', hk, rfl, rfl, hbr⟩ := hrel
    have hbd := gdP_bd crossF xs n i'
    have hq1 := hbd.1
    have hq2 : gdP crossF xs n i' ≤ 49 := Int.le_trans hbd.2 (by have : (i' : Int) * n ≤ 7 * 7 := Int.mul_le_mul (by omega) (by omega) (by omega) (by omega); omega)
    clear hbd
    by_cases hlt : i' < n
    · obtain ⟨b, off, rfl, hblt, hc⟩ := h.row (by omega)
      have hi1 : (i' : Int) < n := by omega
      have hcc := hid hc
      clear hc
      go_wp2
      obtain ⟨wo, hwo⟩ : ∃ wo : World, wo = wr := ⟨_, rfl⟩
      subst hwo
      go_loopw [5, 7] (fun v j wr => ∃ (t : Nat), t ≤ n ∧ v = .int .i64 (gdP crossF xs n i' + giP crossF xs i' t) ∧ j = .int .i64 t ∧ Below w.heap.size w wr)
        (fun _ j _ => n - (intOf j).toNat)
      case atStart => exact ⟨0, Nat.zero_le _, by simp [giP, cntP], rfl, hbr⟩
      case round =>
        obtain ⟨t, ht, rfl, rfl, hbr⟩ := hrel
        have hbd := giP_bd crossF xs i' t
        have hq3 := hbd.1
        have hq4 := hbd.2
        clear hbd
        by_cases htl : t < n
        · have hcell := (hbr.cell (p := ⟨b, off + i', none⟩) hblt).trans (hcc.out i' hlt)
          have hcell1 := (hbr.cell (p := ⟨b, off + t, none⟩) hblt).trans (hcc.out t htl)
          have hi2 : (t : Int) < n := by omega
          go_wp2_with fail
          refine (crossS0 b off n cap xs i' t hlt htl wr hcell hcell1).mono ?_
          rintro e w' ⟨rfl, dm, hw'⟩
          subst hw'
          by_cases hf : giF crossF xs i' t = true
          · have e1 := hid (giP_yes hf)
            rw [hf]
            clear hf
            go_wp2
            go_roundw
            case rel => exact ⟨t + 1, by omega, by rw [e1.out]; congr 1; omega, by go_num, drewN_below hbr _⟩
            case measure => simp [intOf]; omega
          · have hf2 : giF crossF xs i' t = false := by simpa using hf
            have e1 := hid (giP_no hf2)
            rw [hf2]
            clear hf hf2
            go_wp2
            go_roundw
            case rel => exact ⟨t + 1, by omega, by rw [e1.out], by go_num, drewN_below hbr _⟩
            case measure => simp [intOf]; omega
        · obtain rfl : t = n := by omega
          go_wp2
          go_roundw
          case rel => exact ⟨i' + 1, by omega, by rw [gdP], by go_num, hbr⟩
          case measure => simp [intOf]; omega
    · obtain rfl : i' = n := by omega
      go_wp2
      go_ret
      exact says_int (by rw [← grid_pairs, hlen.out]) hbr

set_option maxHeartbeats 1000000 in
theorem nestG (ao : Option Addr) (n cap : Nat) (xs : List Int) (w : World) (h : Sl w ao n cap xs) (hv : Valid xs) :
    Calls Tryz.prog 61 #[.slice ao n cap, .bool true] w (Says w (.int .i64 (pairs nestF xs))) := by
  have hbig := h.big
  have hlen := hid h.len
  have h7 : n ≤ 7 := by have := hv.len; rw [hlen.out] at this; exact this
  have Hv := hid hv
  clear hv
  go_enter Tryz.func61, Tryz.ntmps61
  go_wp2
  go_loopw [5, 6] (fun v i wr => ∃ (i' : Nat), i' ≤ n ∧ v = .int .i64 (gdP nestF xs n i') ∧ i = .int .i64 i' ∧ Below w.heap.size w wr)
    (fun _ i _ => n - (intOf i).toNat)
  case atStart => exact ⟨0, Nat.zero_le _, rfl, rfl, Below.refl _ _⟩
  case round =>
    obtain ⟨i', hk, rfl, rfl, hbr⟩ := hrel
    have hbd := gdP_bd nestF xs n i'
    have hq1 := hbd.1
    have hq2 : gdP nestF xs n i' ≤ 49 := Int.le_trans hbd.2 (by have : (i' : Int) * n ≤ 7 * 7 := Int.mul_le_mul (by omega) (by omega) (by omega) (by omega); omega)
    clear hbd
    by_cases hlt : i' < n
    · obtain ⟨b, off, rfl, hblt, hc⟩ := h.row (by omega)
      have hi1 : (i' : Int) < n := by omega
      have hcc := hid hc
      clear hc
      go_wp2
      obtain ⟨wo, hwo⟩ : ∃ wo : World, wo = wr := ⟨_, rfl⟩
      subst hwo
      go_loopw [5, 7] (fun v j wr => ∃ (t : Nat), t ≤ n ∧ v = .int .i64 (gdP nestF xs n i' + giP nestF xs i' t) ∧ j = .int .i64 t ∧ Below w.heap.size w wr)
        (fun _ j _ => n - (intOf j).toNat)
      case atStart => exact ⟨0, Nat.zero_le _, by simp [giP, cntP], rfl, hbr⟩
      case round =>
        obtain ⟨t, ht, rfl, rfl, hbr⟩ := hrel
        have hbd := giP_bd nestF xs i' t
        have hq3 := hbd.1
        have hq4 := hbd.2
        clear hbd
        by_cases htl : t < n
        · have hcell := (hbr.cell (p := ⟨b, off + i', none⟩) hblt).trans (hcc.out i' hlt)
          have hcell1 := (hbr.cell (p := ⟨b, off + t, none⟩) hblt).trans (hcc.out t htl)
          have hi2 : (t : Int) < n := by omega
          go_wp2_with fail
          refine (nestS0 b off n cap xs i' t hlt htl wr hcell hcell1).mono ?_
          rintro e w' ⟨rfl, dm, hw'⟩
          subst hw'
          by_cases hf : giF nestF xs i' t = true
          · have e1 := hid (giP_yes hf)
            rw [hf]
            clear hf
            go_wp2
            go_roundw
            case rel => exact ⟨t + 1, by omega, by rw [e1.out]; congr 1; omega, by go_num, drewN_below hbr _⟩
            case measure => simp [intOf]; omega
          · have hf2 : giF nestF xs i' t = false := by simpa using hf
            have e1 := hid (giP_no hf2)
            rw [hf2]
            clear hf hf2
            go_wp2
            go_roundw
            case rel => exact ⟨t + 1, by omega, by rw [e1.out], by go_num, drewN_below hbr _⟩
            case measure => simp [intOf]; omega
        · obtain rfl : t = n := by omega
          go_wp2
          go_roundw
          case rel => exact ⟨i' + 1, by omega, by rw [gdP], by go_num, hbr⟩
          case measure => simp [intOf]; omega
    · obtain rfl : i' = n := by omega
      go_wp2
      go_ret
      exact says_int (by rw [← grid_pairs, hlen.out]) hbr

end Go.Proofs.YtaceiebmgnhdgaaGreatDoor
