/- The walk of the law of RemoveAt. Condition of the laws' own: at most 2^20 bytes. -/
import Derived.Test.YtlhphgldmefefabLawFn2
import Derived.Test.YtlhphgldmefefabDrawI
import Derived.Test.YtlhphgldmefefabRmI
import Derived.Test.YtlhphgldmefefabIns3
namespace Go.Proofs.Ytlhphgldmefefab
open Go.RowKit

theorem made2_to {P : Program} {f : FuncId} {a : Array Value} {w : World} {v v' : List Int} {b b' : Bool} (h : Calls P f a w (Made2 w v b)) (e : v = v') (eb : b = b') : Calls P f a w (Made2 w v' b') := e ▸ eb ▸ h

/-- What was put in is taken out. -/
theorem rmv_insT {xs : List Int} (h : Valid xs) {k : Nat} (hk : k ≤ xs.length) : rmv (insT xs k) k = xs := by
  have e1 : el (insT xs k) k = (xs.length : Int) := el_ins xs _ hk
  have ht : (xs.take k).length = k := by rw [List.length_take]; omega
  have e2 : rm (insT xs k) k = xs := by
    rw [rm, insT, ins, List.append_assoc, List.take_append_of_le_length (by omega), List.take_of_length_le (by omega), ← List.append_assoc]
    have : (xs.take k ++ [(xs.length : Int)]).length = k + 1 := by rw [List.length_append, ht]; rfl
    rw [← this, List.drop_left, List.take_append_drop]
  rw [rmv, e2, e1]
  conv => rhs; rw [← List.map_id xs]
  refine List.map_congr_left (fun y hy => ?_)
  have := h.mem hy
  rw [dn, if_neg (by omega)]; rfl
theorem invF_sub : ∀ (A B : List Int) (v n : Nat) (x : Int), True := fun _ _ _ _ _ => trivial
/-- Numbers moved down keep their pairs. -/
theorem invs_map {f : Int → Int} : ∀ (L : List Int), (∀ a b, a ∈ L → b ∈ L → (f a < f b ↔ a < b)) → invF (L.map f) 0 = invF L 0 := by
  intro L
  induction L with
  | nil => intro _; rfl
  | cons x L ih =>
    intro hf
    rw [List.map_cons, invF, invF, invF_add, invF_add L, clF_eq, clF_eq, ih (fun a b ha hb => hf a b (by simp [ha]) (by simp [hb])), List.countP_map]
    congr 2
    refine List.countP_congr (fun y hy => ?_)
    have := hf y x (by simp [hy]) (by simp)
    simp [this]
theorem invs_rm : ∀ (A B : List Int) (v : Int), invF (A ++ B) 0 ≤ invF (A ++ v :: B) 0 := by
  intro A
  induction A with
  | nil => intro B v; rw [List.nil_append, List.nil_append, invF, invF_add B (clF v B 0)]; omega
  | cons x A ih =>
    intro B v
    rw [List.cons_append, List.cons_append, invF, invF, invF_add, invF_add (A ++ v :: B), clF_eq, clF_eq]
    have h1 := ih B v
    have h2 : (A ++ B).countP (fun y => decide (y < x)) ≤ (A ++ v :: B).countP (fun y => decide (y < x)) := by
      rw [List.countP_append, List.countP_append, List.countP_cons]; omega
    omega
theorem rmv_invs {xs : List Int} (h : Valid xs) {k : Nat} (hk : k < xs.length) : sumL (table (rmv xs k)) ≤ sumL (table xs) := by
  have hm := (rm_mem h hk).2
  have e1 : invF (rmv xs k) 0 = invF (rm xs k) 0 := invs_map _ (fun a b ha hb => by
    have h1 := hm a ha
    have h2 := hm b hb
    rw [dn, dn]; split <;> split <;> omega)
  have e2 := invs_rm (xs.take k) (xs.drop (k + 1)) (el xs k)
  rw [← rm_split xs hk] at e2
  rw [← invF_eq, ← invF_eq, e1]
  have e3 : invF (rm xs k) 0 = invF (xs.take k ++ xs.drop (k + 1)) 0 := rfl
  omega

set_option maxHeartbeats 4000000 in
theorem fnRemoveAt (bo : Option Addr) (n cap : Nat) (cs : List Int) (w : World) (h : Slb w bo n cap cs) :
    Calls Try.prog 8 #[.slice bo n cap] w (Says w (.bool true)) := by
  have hbig := h.big
  by_cases hn : n ≤ 1048576
  · go_enter Try.func8, Try.ntmps8
    go_wp2_with fail
    refine (drawRemoveAt_any _ _ _ _ _ h).mono ?_
    rintro e w1 ⟨u1, ys, K, rfl, o1, hl, t1⟩
    obtain ⟨adp, cpp, rfl, sp_1⟩ := o1.sl
    have np := hid o1.nilcap
    have Hl := hid hl
    clear hl o1
    by_cases hv : RT ys K
    · have Hv := hid hv
      clear hv
      obtain ⟨m, rfl⟩ := Int.eq_ofNat_of_zero_le Hv.out.2.1
      have hmn : m < ys.length := by have := Hv.out.2.2; omega
      have Hmn := hid hmn
      have hl7 := Hv.out.1.len
      go_wp2_with fail
      refine (made2_to (rmI_any _ _ _ ys (m : Int) _ sp_1 np.out) ((onRT_yes Hv.out).trans (by rw [Int.toNat_natCast])) (decide_eq_true Hv.out)).mono ?_
      rintro e w2 ⟨u2, rfl, o2, b2⟩
      have t2 := t1.trans (b2.mono t1.size)
      have sp_2 := sp_1.later b2
      obtain ⟨ada, cpa, rfl, sa_2⟩ := o2.sl
      have na := hid o2.nilcap
      clear o2
      go_wp2_with fail
      refine (made2_to (rmS_any _ _ _ ys (m : Int) _ sp_2 np.out) ((onRT_yes Hv.out).trans (by rw [Int.toNat_natCast])) (decide_eq_true Hv.out)).mono ?_
      rintro e w3 ⟨u3, rfl, o3, b3⟩
      have t3 := t2.trans (b3.mono t2.size)
      have sp_3 := sp_2.later b3
      have sa_3 := sa_2.later b3
      obtain ⟨ade, cpe, rfl, se_3⟩ := o3.sl
      clear o3
      go_wp2_with fail
      refine (says_tob (equalInts_any _ _ _ (rmv ys m) _ _ _ (rmv ys m) _ sa_3 se_3) (decide_eq_true rfl)).mono ?_
      rintro e w4 ⟨rfl, b4⟩
      have t4 := t3.trans (b4.mono t3.size)
      have sp_4 := sp_3.later b4
      have sa_4 := sa_3.later b4
      have se_4 := se_3.later b4
      have Hrv := hid (rmv_valid Hv.out.1 Hmn.out)
      have Hrl := hid (rmv_len ys Hmn.out)
      have Hit : Hid (IT (rmv ys m) (m : Int)) := hid ⟨Hrv.out, by rw [Hrl.out]; omega, by omega, by rw [Hrl.out]; omega⟩
      go_wp2_with fail
      refine (made2_to (insI_any _ _ _ (rmv ys m) (m : Int) _ sa_4 na.out) ((onIT_yes Hit.out).trans (by rw [Int.toNat_natCast])) (decide_eq_true Hit.out)).mono ?_
      rintro e w5 ⟨u5, rfl, o5, b5⟩
      have t5 := t4.trans (b5.mono t4.size)
      have sp_5 := sp_4.later b5
      have sa_5 := sa_4.later b5
      have se_5 := se_4.later b5
      obtain ⟨adb, cpb, rfl, sb_5⟩ := o5.sl
      have nb := hid o5.nilcap
      clear o5
      have Hiv := hid (insT_valid Hrv.out (by rw [Hrl.out]; omega) (show m ≤ (rmv ys m).length by rw [Hrl.out]; omega))
      have Hrt : Hid (RT (insT (rmv ys m) m) (m : Int)) := hid ⟨Hiv.out, by omega, by rw [insT_len _ (by rw [Hrl.out]; omega), Hrl.out]; omega⟩
      go_wp2_with fail
      refine (made2_to (v' := rmv ys m) (rmI_any _ _ _ (insT (rmv ys m) m) (m : Int) _ sb_5 nb.out) ((onRT_yes Hrt.out).trans (by rw [Int.toNat_natCast]; exact rmv_insT Hrv.out (by rw [Hrl.out]; omega))) (decide_eq_true Hrt.out)).mono ?_
      rintro e w6 ⟨u6, rfl, o6, b6⟩
      have t6 := t5.trans (b6.mono t5.size)
      have sp_6 := sp_5.later b6
      have sa_6 := sa_5.later b6
      have se_6 := se_5.later b6
      have sb_6 := sb_5.later b6
      obtain ⟨adc, cpc, rfl, sc_6⟩ := o6.sl
      clear o6
      go_wp2_with fail
      refine (says_tob (equalInts_any _ _ _ (rmv ys m) _ _ _ (rmv ys m) _ sc_6 sa_6) (decide_eq_true rfl)).mono ?_
      rintro e w7 ⟨rfl, b7⟩
      have t7 := t6.trans (b7.mono t6.size)
      have sp_7 := sp_6.later b7
      have sa_7 := sa_6.later b7
      have se_7 := se_6.later b7
      have sb_7 := sb_6.later b7
      have sc_7 := sc_6.later b7
      have hlen : (((rmv ys m).length : Int) == (ys.length : Int) - 1) = true := by rw [beq_iff_eq, Hrl.out]; omega
      have hwl : IntKind.i64.wrap ((ys.length : Int) - 1) = (ys.length : Int) - 1 := IntWalk.i64_in _ ⟨by omega, by omega⟩
      go_wp2_with fail
      refine (says_to (invsI_any _ _ _ (rmv ys m) _ sa_7) (onVi_yes Hrv.out)).mono ?_
      rintro e w8 ⟨rfl, b8⟩
      have t8 := t7.trans (b8.mono t7.size)
      have sp_8 := sp_7.later b8
      have sa_8 := sa_7.later b8
      have se_8 := se_7.later b8
      have sb_8 := sb_7.later b8
      have sc_8 := sc_7.later b8
      go_wp2_with fail
      refine (says_to (invsI_any _ _ _ ys _ sp_8) (onVi_yes Hv.out.1)).mono ?_
      rintro e w9 ⟨rfl, b9⟩
      have t9 := t8.trans (b9.mono t8.size)
      have sp_9 := sp_8.later b9
      have sa_9 := sa_8.later b9
      have se_9 := se_8.later b9
      have sb_9 := sb_8.later b9
      have sc_9 := sc_8.later b9
      have hle := rmv_invs Hv.out.1 Hmn.out
      go_wp2
      go_ret
      exact ⟨rfl, t9⟩
    · have Hv := hid hv
      clear hv
      go_wp2_with fail
      refine (made2_to (rmI_any _ _ _ ys K _ sp_1 np.out) (onRT_no Hv.out) (decide_eq_false Hv.out)).mono ?_
      rintro e w2 ⟨u2, rfl, o2, b2⟩
      have t2 := t1.trans (b2.mono t1.size)
      have sp_2 := sp_1.later b2
      obtain ⟨ada, cpa, rfl, sa_2⟩ := o2.sl
      clear o2
      go_wp2_with fail
      refine (made2_to (rmS_any _ _ _ ys K _ sp_2 np.out) (onRT_no Hv.out) (decide_eq_false Hv.out)).mono ?_
      rintro e w3 ⟨u3, rfl, o3, b3⟩
      have t3 := t2.trans (b3.mono t2.size)
      have sp_3 := sp_2.later b3
      have sa_3 := sa_2.later b3
      obtain ⟨ade, cpe, rfl, se_3⟩ := o3.sl
      clear o3
      go_wp2_with fail
      refine (says_tob (equalInts_any _ _ _ [] _ _ _ [] _ sa_3 se_3) (decide_eq_true rfl)).mono ?_
      rintro e w4 ⟨rfl, b4⟩
      have t4 := t3.trans (b4.mono t3.size)
      have sp_4 := sp_3.later b4
      have sa_4 := sa_3.later b4
      have se_4 := se_3.later b4
      go_wp2_with fail
      refine (says_tob (equalInts_any _ _ _ [] _ _ _ [] _ sa_4 se_4) (decide_eq_true rfl)).mono ?_
      rintro e w5 ⟨rfl, b5⟩
      have t5 := t4.trans (b5.mono t4.size)
      have sp_5 := sp_4.later b5
      have sa_5 := sa_4.later b5
      have se_5 := se_4.later b5
      go_wp2
      go_ret
      exact ⟨rfl, t5⟩
  · go_enter Try.func8, Try.ntmps8
    go_wp2
    go_ret
    exact ⟨rfl, Below.refl _ _⟩

end Go.Proofs.Ytlhphgldmefefab
