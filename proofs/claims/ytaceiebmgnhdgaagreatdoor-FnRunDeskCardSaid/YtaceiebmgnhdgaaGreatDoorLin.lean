/- Lines of circles, in the model and the program. Condition: the list's cells can be read. -/
import Derived.Test.YtaceiebmgnhdgaaGreatDoorCir
import Derived.Test.YtaceiebmgnhdgaaGreatDoorMirL
import Derived.Test.YtaceiebmgnhdgaaGreatDoorFoI
import Derived.Test.YtaceiebmgnhdgaaGreatDoorBnd
namespace Go.Proofs.YtaceiebmgnhdgaaGreatDoor
open Go.RowKit

/-- Are the first t values of a circle at most x? -/
def greP (xs : List Int) (x : Int) (t : Nat) : Bool := (List.range t).all fun j => decide (itr xs x j ≤ x)
theorem greP_succ (xs : List Int) (x : Int) (t : Nat) : greP xs x (t + 1) = (greP xs x t && decide (itr xs x t ≤ x)) := by
  rw [greP, List.range_succ, List.all_append]; simp [greP]
theorem gre_eq (xs : List Int) (x : Int) : gre xs x = greP xs x (per xs x) := by
  rw [gre, cyc, List.all_map]; rfl
theorem tlP_len {xs : List Int} (h : Valid xs) : ∀ k, k ≤ xs.length → (tlP xs k).length ≤ k * xs.length := by
  intro k
  induction k with
  | zero => intro _; simp [tlP]
  | succ k ih =>
    intro hk
    have h1 := ih (by omega)
    have h2 := (per_spec h (x := (k : Int)) (by omega)).2.1
    have h3 : (cyc xs k).length = per xs k := by simp [cyc]
    rw [tlP, Nat.succ_mul]
    split
    · rw [List.length_append]; omega
    · omega
theorem toL_len {xs : List Int} (h : Valid xs) : (toL xs).length ≤ 49 := by
  have h1 := tlP_len h xs.length (Nat.le_refl _)
  have h2 := h.len
  have : xs.length * xs.length ≤ 7 * 7 := Nat.mul_le_mul h2 h2
  rw [toL]; omega

set_option maxHeartbeats 2000000 in
theorem toL0_any (ao : Option Addr) (n cap : Nat) (xs : List Int) (w : World) (h : Sl w ao n cap xs) (hv : Valid xs) :
    Calls Tryz.prog 39 #[.slice ao n cap] w (Made w (toL xs)) := by
  have hbig := h.big
  have hlen := hid h.len
  have h7 : n ≤ 7 := by have := hv.len; rw [hlen.out] at this; exact this
  have Hv := hid hv
  clear hv
  go_enter Tryz.func39, Tryz.ntmps39
  go_wp2
  go_loopw [3, 4] (fun v i wr => ∃ (k m : Nat) (ao' : Option Addr) (cap' : Nat), k ≤ n ∧ v = .slice ao' m cap' ∧ i = .int .i64 k ∧ Below w.heap.size w wr ∧ Own wr w.heap.size (.slice ao' m cap') (tlP xs k))
    (fun _ i _ => n - (intOf i).toNat)
  case atStart => exact ⟨0, _, _, _, Nat.zero_le _, rfl, rfl, (Below.refl _ _).alloc (Nat.le_refl _) _, own_lit w⟩
  case round =>
    obtain ⟨k, m, ao', cap', hk, rfl, rfl, hbr, ho⟩ := hrel
    by_cases hlt : k < n
    · obtain ⟨b, off, rfl, hblt, hc⟩ := h.row (by omega)
      have hcc := hid hc
      have hki : Hid (0 ≤ (k : Int) ∧ (k : Int) < xs.length) := hid ⟨by omega, by rw [hlen.out]; omega⟩
      have HP := hid (per_spec Hv.out hki.out)
      have Hin := hid (itr_in Hv.out hki.out)
      rw [hlen.out] at Hin HP
      obtain ⟨P, hP⟩ : ∃ P, P = per xs k := ⟨_, rfl⟩
      rw [← hP] at HP
      have HPe := hid hP
      have hp1 := HP.out.1
      have hp2 := HP.out.2.1
      have hl0 : (tlP xs k).length ≤ 1000000 := by have := tlP_len Hv.out k (by rw [hlen.out]; omega); rw [hlen.out] at this; have : k * n ≤ 7 * 7 := Nat.mul_le_mul (by omega) h7; omega
      have hsz := hbr.size
      have hcell := ((hbr.alloc hsz (.cells #[.int .i64 (k : Int)] 3)).cell (p := ⟨b, off + k, none⟩) hblt).trans (hc k hlt)
      have hki2 : (k : Int) < n := by omega
      have e1 : el xs k = itr xs k 1 := rfl
      rw [e1] at hcell
      clear hc e1 hP
      go_wp2
      obtain ⟨wo, hwo⟩ : ∃ wo : World, wo = wr := ⟨_, rfl⟩
      subst hwo
      go_loopw [5, 6] (fun v y wr => ∃ (t : Nat) (ao' : Option Addr) (cap' : Nat), 1 ≤ t ∧ t ≤ P ∧ v = .slice ao' t cap' ∧ y = .int .i64 (itr xs k t) ∧ Below wo.heap.size wo wr ∧ Own wr wo.heap.size (.slice ao' t cap') ((List.range t).map (itr xs k)))
        (fun v _ _ => P - lenOf v)
      case atStart => exact ⟨1, _, _, Nat.le_refl _, hp1, rfl, rfl, (Below.refl _ _).alloc (Nat.le_refl _) _, own_one' _ _ _ (Nat.le_refl _)⟩
      case round =>
        obtain ⟨t, al, cl, ht1, htP, rfl, rfl, hbi, hi⟩ := hrel
        by_cases hlt2 : t < P
        · have hne : ¬ itr xs k t = k := HP.out.2.2.2 t ht1 hlt2
          have hnb : (itr xs k t != (k : Int)) = true := by simpa using hne
          obtain ⟨y, hy⟩ := Int.eq_ofNat_of_zero_le (Hin.out t).1
          have hyn : y < n := by have := (Hin.out t).2; omega
          have hyi : (y : Int) < n := by omega
          have hszi := hbi.size
          have hl : ((List.range t).map (itr xs k)).length ≤ 2000000 := by rw [map_range_len]; omega
          have hnext : el xs y = itr xs k (t + 1) := by rw [itr, hy, Int.toNat_natCast]
          have Hy := hid hy
          rw [hy] at hne hnb ⊢
          clear hy hne
          go_wp2_with (at_builtin; refine app_int _ _ rfl _ _ rfl wo.heap.size _ _ rfl hi rfl hl hszi ?_)
          intro u' w' ho' hg'
          have hb' := below_app hbi hi hg'
          rw [← Hy.out, ← map_range_succ (itr xs k)] at ho'
          have hl2 : ((List.range (t + 1)).map (itr xs k)).length = t + 1 := map_range_len _
          obtain ⟨al, cl, rfl, hs'⟩ := ho'.sl
          rw [hl2] at ho' ⊢
          have hbx := hbr.trans (hb'.mono hsz)
          have hcell := (hbx.cell (p := ⟨b, off + y, none⟩) hblt).trans (hcc.out y hyn)
          rw [hnext] at hcell
          clear hl2 hs' hnext
          go_wp2
          go_roundw
          case rel => exact ⟨t + 1, _, _, by omega, by omega, rfl, rfl, hb', ho'⟩
          case measure => simp [lenOf]; omega
        · obtain rfl : t = P := by omega
          have hret := HP.out.2.2.1
          rw [hret]
          have hnb : ((k : Int) != (k : Int)) = false := by simp
          clear hret
          go_wp2
          obtain ⟨wi, hwi⟩ : ∃ wi : World, wi = wr := ⟨_, rfl⟩
          subst hwi
          go_loopw [7, 8] (fun l i wr => ∃ (s : Nat), s ≤ t ∧ l = .bool (greP xs k s) ∧ i = .int .i64 s ∧ Below wr.heap.size wr wr ∧ Below wo.heap.size wo wr ∧ Own wr wo.heap.size (.slice al t cl) ((List.range t).map (itr xs k)))
            (fun _ i _ => t - (intOf i).toNat)
          case atStart => exact ⟨0, Nat.zero_le _, rfl, rfl, Below.refl _ _, hbi, hi⟩
          case round =>
            obtain ⟨s, hs, rfl, rfl, _, hbj, hj⟩ := hrel
            by_cases hlt3 : s < t
            · have hsi : (s : Int) < t := by omega
              obtain ⟨bj, oj, rfl, hbjlt, hcj⟩ := hj.read.row (by omega)
              have hcell := hcj s hlt3
              rw [el_map hlt3] at hcell
              clear hcj
              cases hq : greP xs k s
              · have e3 : Hid (greP xs k (s + 1) = false) := hid (by rw [greP_succ, hq]; rfl)
                go_wp2
                go_roundw
                case rel => exact ⟨s + 1, by omega, by rw [e3.out], by go_num, Below.refl _ _, hbj, hj⟩
                case measure => simp [intOf]; omega
              · have e3 : Hid (greP xs k (s + 1) = decide (itr xs k s ≤ (k : Int))) := hid (by rw [greP_succ, hq]; rfl)
                go_wp2
                go_roundw
                case rel => exact ⟨s + 1, by omega, by rw [e3.out], by go_num, Below.refl _ _, hbj, hj⟩
                case measure => simp [intOf]; omega
            · obtain rfl : s = t := by omega
              have el1 : greP xs k s = gre xs k := by rw [gre_eq, ← HPe.out]
              rw [el1]
              cases hq : gre xs k
              · have e3 := hid (tlP_no hq)
                clear el1
                go_wp2
                go_roundw
                case rel => exact ⟨k + 1, _, _, _, by omega, rfl, by go_num, hbr.trans (hbj.mono hsz), by rw [e3.out]; exact ho.below (Nat.le_refl _) hbj⟩
                case measure => simp [intOf]; omega
              · have e3 := hid (tlP_yes hq)
                clear el1
                have ho2 := ho.below (Nat.le_refl _) hbj
                have hbw := hbr.trans (hbj.mono hsz)
                have hjr := hj.read
                have hjn := hj.nilcap
                have ecy : (List.range s).map (itr xs k) = cyc xs k := by rw [cyc, ← HPe.out]
                rw [ecy] at hjr
                go_wp2_with (at_builtin; refine app_list _ rfl _ _ rfl w.heap.size _ _ rfl ho2 _ _ _ _ rfl hjr hjn (by omega) hbw.size ?_)
                intro u' w' ho' hg'
                have hbz := below_app hbw ho2 hg'
                rw [← e3.out] at ho'
                obtain ⟨Q, hQ⟩ : ∃ Q, Q = (tlP xs (k + 1)).length := ⟨_, rfl⟩
                obtain ⟨ao', cap', rfl, hs'⟩ := ho'.sl
                rw [← hQ] at ho' ⊢
                clear hs' hQ ecy hjr hjn
                go_wp2
                go_roundw
                case rel => exact ⟨k + 1, _, _, _, by omega, rfl, by go_num, hbz, ho'⟩
                case measure => simp [intOf]; omega
    · obtain rfl : k = n := by omega
      go_wp2
      go_ret
      exact ⟨_, rfl, by rw [toL, hlen.out]; exact ho, hbr⟩

/-- The greatest of the first k + 1 numbers. -/
def mxI (zs : List Int) : Nat → Int
  | 0 => el zs 0
  | k + 1 => if mxI zs k < el zs (k + 1) then el zs (k + 1) else mxI zs k
theorem mxI_spec (zs : List Int) : ∀ k, (∀ j, j ≤ k → el zs j ≤ mxI zs k) ∧ ∃ j, j ≤ k ∧ el zs j = mxI zs k := by
  intro k
  induction k with
  | zero => exact ⟨fun j hj => by obtain rfl : j = 0 := by omega
                                  exact Int.le_refl _, 0, Nat.le_refl _, rfl⟩
  | succ k ih =>
    obtain ⟨h1, j0, h2, h3⟩ := ih
    rw [mxI]
    split
    · rename_i hc
      refine ⟨fun j hj => ?_, k + 1, Nat.le_refl _, rfl⟩
      by_cases e : j = k + 1
      · rw [e]; exact Int.le_refl _
      · have := h1 j (by omega); omega
    · rename_i hc
      refine ⟨fun j hj => ?_, j0, by omega, h3⟩
      by_cases e : j = k + 1
      · rw [e]; omega
      · exact h1 j (by omega)
theorem mx_gre {xs : List Int} (h : Valid xs) {x : Nat} (hx : x < xs.length) : decide (mxI (cyc xs x) ((cyc xs x).length - 1) = (x : Int)) = gre xs x := by
  obtain ⟨p1, _⟩ := per_spec h (x := (x : Int)) (by omega)
  have hl : (cyc xs x).length = per xs x := by simp [cyc]
  obtain ⟨h1, j0, h2, h3⟩ := mxI_spec (cyc xs x) ((cyc xs x).length - 1)
  have e0 : el (cyc xs x) 0 = x := by rw [cyc, el_map (by omega)]; rfl
  rw [Bool.eq_iff_iff, decide_eq_true_iff, gre, List.all_eq_true]
  constructor
  · intro e y hy
    obtain ⟨j, hj, rfl⟩ := List.mem_iff_getElem.1 hy
    have := h1 j (by omega)
    rw [el_lt hj, e] at this
    simpa using this
  · intro hall
    have hle := hall _ (el_mem (xs := cyc xs x) (j := j0) (by omega))
    rw [h3] at hle
    have := h1 0 (by omega)
    rw [e0] at this
    simp at hle
    omega

set_option maxHeartbeats 1000000 in
theorem maxI_any (ao : Option Addr) (n cap : Nat) (xs : List Int) (w : World) (h : Sl w ao n cap xs) (h0 : 0 < n) (h7 : n ≤ 1000) :
    Calls Tryz.prog 127 #[.slice ao n cap] w (fun e w' => e = .returned (.int .i64 (mxI xs (n - 1))) ∧ w = w') := by
  have hlen := hid h.len
  obtain ⟨b, off, rfl, hblt, hc⟩ := h.row h0
  have hcc := hid hc
  have hc0 := hc 0 h0
  rw [Nat.add_zero] at hc0
  have hn1 : ¬ (n : Int) < 1 := by omega
  have hn2 : (0 : Int) < n := by omega
  have hn3 : (1 : Int) ≤ n := by omega
  clear hc
  go_enter Tryz.func127, Tryz.ntmps127
  go_wp2
  go_loopw [3, 4] (fun v i wr => ∃ (k : Nat), k + 1 ≤ n ∧ v = .int .i64 (mxI xs k) ∧ i = .int .i64 ((k + 1 : Nat) : Int) ∧ w = wr)
    (fun _ i _ => n - (intOf i).toNat)
  case atStart => exact ⟨0, by omega, rfl, rfl, rfl⟩
  case round =>
    obtain ⟨k, hk, rfl, rfl, rfl⟩ := hrel
    by_cases hlt : k + 1 < n
    · have hi1 : (k : Int) + 1 < n := by omega
      have hi2 : 0 ≤ (k : Int) + 1 := by omega
      have hi3 : ((k : Int) + 1).toNat = k + 1 := by omega
      have hcell := hcc.out (k + 1) hlt
      by_cases he : mxI xs k < el xs (k + 1)
      · have E1 : Hid (mxI xs (k + 1) = el xs (k + 1)) := hid (by rw [mxI, if_pos he])
        go_wp2
        go_roundw
        case rel => exact ⟨k + 1, by omega, by rw [E1.out]; try rw [Int.max_eq_right (Int.le_of_lt he)], by go_num, trivial⟩
        case measure => simp [intOf]; omega
      · have E1 : Hid (mxI xs (k + 1) = mxI xs k) := hid (by rw [mxI, if_neg he])
        have he' : el xs (k + 1) ≤ mxI xs k := by omega
        go_wp2
        go_roundw
        case rel => exact ⟨k + 1, by omega, by rw [E1.out]; try rw [Int.max_eq_left (by omega)], by go_num, trivial⟩
        case measure => simp [intOf]; omega
    · obtain rfl : n = k + 1 := by omega
      go_wp2
      go_ret
      exact ⟨rfl, rfl⟩

set_option maxHeartbeats 2000000 in
theorem lineThere_any (ao : Option Addr) (n cap : Nat) (xs : List Int) (w : World) (h : Sl w ao n cap xs) (hv : Valid xs) :
    Calls Tryz.prog 103 #[.agg #[], .slice ao n cap] w (Made w (toL xs)) := by
  have hbig := h.big
  have hlen := hid h.len
  have h7 : n ≤ 7 := by have := hv.len; rw [hlen.out] at this; exact this
  have Hv := hid hv
  clear hv
  have hb0 : Below w.heap.size w (w.alloc (.cells #[] 125)) := (Below.refl _ _).alloc (Nat.le_refl _) _
  go_enter Tryz.func103, Tryz.ntmps103
  go_wp2_with (at_make; refine make_cap _ rfl _ _ rfl _ n rfl rfl rfl (by omega) ?_)
  intro w2 ho2 hb2
  have hb3 : Below w.heap.size w w2 := hb0.trans (hb2.mono (Nat.le_succ _))
  have ho3 := ho2.mono (Nat.le_succ w.heap.size)
  clear ho2 hb2
  go_wp2
  go_loopw [5, 13] (fun v i wr => ∃ (k m : Nat) (ao' : Option Addr) (cap' : Nat), k ≤ n ∧ v = .slice ao' m cap' ∧ i = .int .i64 k ∧ Below w.heap.size w wr ∧ Own wr w.heap.size (.slice ao' m cap') (tlP xs k))
    (fun _ i _ => n - (intOf i).toNat)
  case atStart => exact ⟨0, _, _, _, Nat.zero_le _, rfl, rfl, hb3, ho3⟩
  case round =>
    obtain ⟨k, m, ao', cap', hk, rfl, rfl, hbr, ho⟩ := hrel
    by_cases hlt : k < n
    · have hi1 : (k : Int) < n := by omega
      have hsz := hbr.size
      have hl0 : (tlP xs k).length ≤ 1000000 := by have := tlP_len Hv.out k (by rw [hlen.out]; omega); rw [hlen.out] at this; have : k * n ≤ 7 * 7 := Nat.mul_le_mul (by omega) h7; omega
      have hp := per_spec Hv.out (x := (k : Int)) (by rw [hlen.out]; omega)
      have hcl : (cyc xs k).length = per xs k := by simp [cyc]
      have hc0 : 0 < (cyc xs k).length := by omega
      have hc7 : (cyc xs k).length ≤ 7 := by have := hp.2.1; rw [hlen.out] at this; omega
      have Hmx := hid (mx_gre Hv.out (x := k) (by rw [hlen.out]; exact hlt))
      obtain ⟨C, hC⟩ : ∃ C, C = (cyc xs k).length := ⟨_, rfl⟩
      rw [← hC] at hc0 hc7 Hmx
      have HC := hid hC
      clear hp hcl hC
      go_wp2_with fail
      refine (circleFrom_any _ _ _ xs k _ (h.later hbr) Hv.out hlt).mono ?_
      rintro e w4 ⟨u4, rfl, o4, b4⟩
      obtain ⟨a4, c4, rfl, s4⟩ := o4.sl
      have hn4 := o4.nilcap
      rw [← HC.out] at s4 o4 ⊢
      have t4 := hbr.trans (b4.mono hsz)
      have o5 := ho.below (Nat.le_refl _) b4
      go_wp2_with fail
      refine (maxI_any _ _ _ _ _ s4 hc0 (by omega)).mono ?_
      rintro e w5 ⟨rfl, hww⟩
      subst hww
      obtain ⟨M, hM⟩ : ∃ M, M = mxI (cyc xs k) (C - 1) := ⟨_, rfl⟩
      rw [← hM] at Hmx ⊢
      clear hM b4 o4
      cases hq : gre xs k
      · have e3 := hid (tlP_no hq)
        have ht : (M == (k : Int)) = false := by have := Hmx.out; rw [hq] at this; simpa using this
        clear hq
        go_wp2
        go_roundw
        case rel => exact ⟨k + 1, _, _, _, by omega, rfl, by go_num, t4, by rw [e3.out]; exact o5⟩
        case measure => simp [intOf]; omega
      · have e3 := hid (tlP_yes hq)
        have ht : (M == (k : Int)) = true := by have := Hmx.out; rw [hq] at this; simpa using this
        clear hq
        go_wp2_with (at_builtin; refine app_list _ rfl _ _ rfl w.heap.size _ _ rfl o5 _ _ _ _ rfl s4 hn4 (by omega) t4.size ?_)
        intro u' w' ho' hg'
        have hbz := below_app t4 o5 hg'
        rw [← e3.out] at ho'
        obtain ⟨Q, hQ⟩ : ∃ Q, Q = (tlP xs (k + 1)).length := ⟨_, rfl⟩
        obtain ⟨ao', cap', rfl, hs'⟩ := ho'.sl
        rw [← hQ] at ho' ⊢
        clear hs' hQ
        go_wp2
        go_roundw
        case rel => exact ⟨k + 1, _, _, _, by omega, rfl, by go_num, hbz, ho'⟩
        case measure => simp [intOf]; omega
    · obtain rfl : k = n := by omega
      go_wp2
      go_ret
      exact ⟨_, rfl, by rw [toL, hlen.out]; exact ho, hbr⟩

theorem arr_of {w : World} {B g n : Nat} {ys : List Int} (h : OwS w B g n n ys) : Arr w g 3 ys := by
  have hl := h.len
  rcases h.2 with ⟨h1, _⟩ | ⟨g', cap', cur, hv, hB, hg, h1, h2, h3, h4⟩
  · simp at h1
  · simp only [Value.slice.injEq, Option.some.injEq, Addr.mk.injEq, and_true, true_and] at hv
    obtain ⟨rfl, rfl⟩ := hv
    rw [List.take_of_length_le (by rw [Array.length_toList, h3]; exact Nat.le_refl _)] at h4
    rw [Arr, ← h4]
    simpa using hg
theorem ow_of {w : World} {B g n : Nat} {ys : List Int} (h : Arr w g 3 ys) (hB : B ≤ g) (hl : ys.length = n) (hn : n ≤ 1000) : OwS w B g n n ys :=
  ⟨by simp [hl], Or.inr ⟨g, n, _, rfl, hB, h, Nat.le_refl _, by unfold maxLen; omega, by simp [hl], List.take_of_length_le (by simp [hl])⟩⟩
theorem below_of_grown' {w w1 w2 : World} {row : Option Nat} (h : Below w.heap.size w w1) (hg : w1.grownBy w2 row) (hr : ∀ k, row = some k → w.heap.size ≤ k) : Below w.heap.size w w2 :=
  h.grown hg h.size hr

theorem arr_sl {w : World} {g n : Nat} {ys : List Int} (h : Arr w g 3 ys) (hl : ys.length = n) (h7 : n ≤ 7) : Sl w (some ⟨g, 0, none⟩) n n ys :=
  ⟨hl, Nat.le_refl _, by unfold maxLen; omega, fun _ => ⟨g, 0, rfl, h.lt, fun j hj => by rw [Nat.zero_add]; exact h.cell (by omega)⟩⟩

set_option maxHeartbeats 2000000 in
theorem toLIW_any (ao : Option Addr) (n cap : Nat) (xs : List Int) (w : World) (h : Sl w ao n cap xs) :
    Calls Tryz.prog 101 #[.slice ao n cap, .func (.func 103) #[.agg #[]] #[]] w (Made w (onV xs (toL xs))) := by
  have hbig := h.big
  have hlen := hid h.len
  by_cases hv : Valid xs
  · have h7 : n ≤ 7 := by have := hv.len; rw [hlen.out] at this; exact this
    have Hv := hid hv
    go_enter Tryz.func101, Tryz.ntmps101
    go_wp2_with fail
    refine (validI_any _ _ _ xs _ h).mono ?_
    rintro e w1 ⟨rfl, hb1⟩
    rw [decide_eq_true hv]
    go_wp2_with (at_make; refine make_ints _ rfl _ _ rfl _ _ n rfl rfl rfl rfl (by omega) ?_)
    intro w2 ho2 hb2
    clear hv
    have hb3 := hb1.trans (hb2.mono hb1.size)
    have hsz1 := hb1.size
    have hg2 := ho2.lt.2
    have h2 := h.later hb3
    have hA2 := hid (arr_of ho2)
    obtain ⟨g, hg⟩ : ∃ g, g = w1.heap.size := ⟨_, rfl⟩
    rw [← hg] at hA2 hg2 hsz1 ⊢
    have hcn : (xs.map (Value.int .i64)).length = Nat.min n n := by
      have e : Nat.min n n = min n n := rfl
      rw [List.length_map, hlen.out, e]; omega
    have hcp : 0 < (xs.map (Value.int .i64)).length → (some ⟨g, 0, none⟩ : Option Addr) = some ⟨g, 0, none⟩ ∧ ∃ ad, ao = some ad ∧ ∀ (j : Nat) (v : Value), (xs.map (Value.int .i64))[j]? = some v → w2.cell? (ad.add j) = some v := fun hq => by
      rw [List.length_map, hlen.out] at hq
      obtain ⟨b, off, rfl, hblt, hc⟩ := h2.row hq
      refine ⟨rfl, _, rfl, fun j v hj => ?_⟩
      have hjn : j < n := by
        have := (List.getElem?_eq_some_iff.1 hj).1
        rw [List.length_map, hlen.out] at this; exact this
      rw [List.getElem?_map, List.getElem?_eq_getElem (by rw [hlen.out]; exact hjn)] at hj
      obtain rfl := Option.some.inj hj
      rw [Addr.add_lit, hc j hjn, el_lt (by rw [hlen.out]; exact hjn)]
    have hcf : 0 + (xs.map (Value.int .i64)).length ≤ ((List.replicate n (0 : Int)).map (Value.int .i64)).length := by rw [List.length_map, List.length_map, List.length_replicate, hlen.out]; omega
    have Hcn := hid hcn
    have Hcp := hid hcp
    have Hcf := hid hcf
    clear hcn hcp hcf hg
    go_wp2_with (show wpList _ _ _ (Oper.mk (some 14) _ _ _ _ _ :: _) _ _; refine copy_row rfl (.tmp 12) (.tmp 13) 35 35 rfl 3 Tryz.underlying35 sizeI1 (some ⟨g, 0, none⟩) ao n n n cap rfl rfl g 0 ((List.replicate n (0 : Int)).map (Value.int .i64)) 3 hA2.out.row (xs.map (Value.int .i64)) Hcn.out Hcp.out Hcf.out (ints1 _) ?_)
    intro w3 HG3 hg3
    have A3 : Arr w3 g 3 xs := by
      have e : w3.heap[g]? = some (.cells (splice ((List.replicate n (0 : Int)).map (Value.int .i64)) 0 (xs.map (Value.int .i64))).toArray 3 (0, 0)) := by
        first
          | exact HG3.out
          | (have e := HG3.out; rw [← List.map_replicate] at e; exact e)
      rw [map_spl, List.take_zero, List.nil_append, Nat.zero_add, hlen.out, List.drop_eq_nil_of_le (by simp), List.append_nil] at e
      exact e
    have t3 : Below w.heap.size w w3 := below_of_grown' hb3 hg3 (fun k hk => by obtain rfl := Option.some.inj hk; exact hsz1)
    have HA3 := hid A3
    clear A3 HG3 hg3 Hcn Hcp Hcf hA2 h2 hb2 ho2
    go_wp2_with fail
    refine (lineThere_any (some ⟨g, 0, none⟩) n n xs w3 (arr_sl HA3.out hlen.out h7) Hv.out).mono ?_
    rintro e w4 ⟨u4, rfl, o4', b4⟩
    have t4 := t3.trans (b4.mono t3.size)
    have o4 : Own w4 w.heap.size u4 (toL xs) := o4'.mono t3.size
    clear o4' b4
    go_wp2
    go_ret
    refine ⟨_, rfl, ?_, t4⟩
    rw [onV_yes Hv.out]
    exact o4
  · have Hv := hid hv
    go_enter Tryz.func101, Tryz.ntmps101
    go_wp2_with fail
    refine (validI_any _ _ _ xs _ h).mono ?_
    rintro e w1 ⟨rfl, hb1⟩
    go_wp2
    go_ret
    refine ⟨_, rfl, ?_, hb1⟩
    rw [onV_no Hv.out]
    exact Own.nil

set_option maxHeartbeats 1000000 in
theorem toLI_any (ao : Option Addr) (n cap : Nat) (xs : List Int) (w : World) (h : Sl w ao n cap xs) :
    Calls Tryz.prog 73 #[.slice ao n cap] w (Made w (onV xs (toL xs))) := by
  go_enter Tryz.func73, Tryz.ntmps73
  go_wp2_with fail
  refine (toLIW_any _ _ _ xs _ h).mono ?_
  rintro e w2 ⟨u2, rfl, ho2, hb2⟩
  go_wp2
  go_ret
  exact ⟨_, rfl, ho2, hb2⟩

end Go.Proofs.YtaceiebmgnhdgaaGreatDoor
