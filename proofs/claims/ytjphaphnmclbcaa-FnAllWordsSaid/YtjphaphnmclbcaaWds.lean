/- The model's words of a content, alone. Condition: at most seven letters. -/
import Derived.Test.YtjphaphnmclbcaaApL
import Derived.Test.YtjphaphnmclbcaaBnh
import Derived.Test.YtjphaphnmclbcaaBnf
import Derived.Test.YtjphaphnmclbcaaDraw4
namespace Go.Proofs.Ytjphaphnmclbcaa
open Go.RowKit

/-- The words that go on with one of the first k letters. -/
def wpre (t : Nat) (b : List Int) (c : List Nat) (k : Nat) : List (List Int) := (List.range k).flatMap fun k => if c.getD k 0 = 0 then [] else wgo t (b ++ [(k : Int)]) (c.set k (c.getD k 0 - 1))
theorem wpre_all (t : Nat) (b : List Int) (c : List Nat) : wpre t b c 4 = wgo (t + 1) b c := rfl
theorem wpre_no {t : Nat} {b : List Int} {c : List Nat} {k : Nat} (h : c.getD k 0 = 0) : wpre t b c (k + 1) = wpre t b c k := by
  rw [wpre, List.range_succ, List.flatMap_append, List.flatMap_cons, List.flatMap_nil, if_pos h, wpre]
  simp
theorem wpre_yes {t : Nat} {b : List Int} {c : List Nat} {k m : Nat} (h : c.getD k 0 = m + 1) : wpre t b c (k + 1) = wpre t b c k ++ wgo t (b ++ [(k : Int)]) (c.set k m) := by
  rw [wpre, List.range_succ, List.flatMap_append, List.flatMap_cons, List.flatMap_nil, if_neg (by omega), h, wpre]
  simp
def ofN (c : List Nat) : List Int := c.map Int.ofNat
theorem ofN_len (c : List Nat) : (ofN c).length = c.length := List.length_map ..
theorem el_ofN (l : List Nat) (k : Nat) : el (ofN l) k = (l.getD k 0 : Nat) := by
  unfold el ofN
  rw [List.getD_eq_getElem?_getD, List.getElem?_map, List.getD_eq_getElem?_getD]
  cases l[k]? <;> rfl
theorem ofN_set (c : List Nat) (k m : Nat) : ofN (c.set k m) = (ofN c).set k (m : Int) := by rw [ofN, List.map_set]; rfl
theorem getD_le_sum : ∀ (c : List Nat) (k : Nat), c.getD k 0 ≤ c.sum
  | [], k => by simp
  | x :: c, 0 => by simp
  | x :: c, k + 1 => by
    have := getD_le_sum c k
    simp only [List.getD_cons_succ, List.sum_cons]
    omega
theorem sum_set {c : List Nat} {k m t : Nat} (hk : k < c.length) (h : c.getD k 0 = m + 1) (hs : c.sum = t + 1) : (c.set k m).sum = t := by
  induction c generalizing k t with
  | nil => simp at hk
  | cons x c ih =>
    match k with
    | 0 =>
      simp only [List.getD_cons_zero, List.sum_cons, List.set_cons_zero] at *
      omega
    | k + 1 =>
      simp only [List.getD_cons_succ, List.sum_cons, List.set_cons_succ, List.length_cons] at *
      have h1 : c.getD k 0 ≤ c.sum := getD_le_sum c k
      have := ih (t := c.sum - 1) (by omega) h (by omega)
      omega
theorem sumL_ofN {c : List Nat} (h : c.length = 4) : sumL (ofN c) = (c.sum : Nat) := by
  match c, h with
  | [a, b, d, e], _ => simp [sumL, sumTo, ofN, el]; omega
theorem wgo_len' : ∀ (t : Nat) (b : List Int) (c : List Nat), (wgo t b c).length ≤ 4 ^ t
  | 0, _, _ => by simp [wgo]
  | t + 1, b, c => by
    simp only [wgo, List.range, List.range.loop, List.flatMap_cons, List.flatMap_nil, List.append_nil, List.length_append]
    have key : ∀ k : Nat, (if c.getD k 0 = 0 then ([] : List (List Int)) else wgo t (b ++ [(k : Int)]) (c.set k (c.getD k 0 - 1))).length ≤ 4 ^ t := by
      intro k
      split
      · simp
      · exact wgo_len' t _ _
    have h0 := key 0
    have h1 := key 1
    have h2 := key 2
    have h3 := key 3
    rw [Nat.pow_succ]
    omega
theorem wpre_len (t : Nat) (b : List Int) (c : List Nat) (k : Nat) (hk : k ≤ 4) : (wpre t b c k).length ≤ 4 ^ (t + 1) := by
  have key : ∀ k : Nat, (wpre t b c k).length ≤ k * 4 ^ t := by
    intro k
    induction k with
    | zero => simp [wpre]
    | succ k ih =>
      rw [wpre, List.range_succ, List.flatMap_append, List.length_append, List.flatMap_cons, List.flatMap_nil, List.append_nil, Nat.succ_mul]
      refine Nat.add_le_add ih ?_
      split
      · simp
      · exact wgo_len' t _ _
  refine Nat.le_trans (key k) ?_
  rw [Nat.pow_succ, Nat.mul_comm]
  exact Nat.mul_le_mul_left _ hk

theorem ownL_one {w : World} {B : Nat} {v : Value} {ys : List Int} (hv : Own w B v ys) (hB : B ≤ w.heap.size) : OwnL (w.alloc (.cells #[v] 23)) B (w.heap.size + 1) (.slice (some ⟨w.heap.size, 0, none⟩) 1 1) [ys] := by
  refine ⟨by omega, by simp, [v], World.ownsRow_lit w #[v] 1 hB (by decide) rfl, fun k hk => ?_, fun j t hj => ?_, fun i j t t' hij hi hj => ?_⟩
  · simp [Value.ownBlock] at hk
    subst hk
    exact ⟨by omega, fun e => by cases e⟩
  · match j, hj with
    | 0, hj =>
      simp at hj
      subst hj
      refine ⟨Own.below hv (Nat.le_refl _) ((Below.refl w.heap.size w).alloc (Nat.le_refl _) _), fun k hk => ⟨by have := (hv.blocks k hk).2; omega, fun e => by cases e⟩, ?_⟩
      unfold Apart
      cases e : v.ownBlock with
      | none => exact Or.inl rfl
      | some k =>
        refine Or.inr (fun e2 => ?_)
        have := (hv.blocks k e).2
        simp [Value.ownBlock] at e2
        omega
    | j + 1, hj => simp at hj
  · match i, j, hij, hj with
    | 0, j + 1, _, hj => simp at hj
    | i + 1, j + 1, _, hj => simp at hj

set_option maxRecDepth 20000 in
set_option maxHeartbeats 4000000 in
theorem words_any : ∀ (t : Nat) (b : List Int) (c : List Nat) (ah : Option Addr) (nh ch : Nat) (al : Option Addr) (cl : Nat) (w : World), Sl w ah nh ch b → (ah = none → ch = 0) → Sl w al 4 cl (ofN c) → c.length = 4 → c.sum = t → t ≤ 7 → nh + t ≤ 1000 →
    Calls Try.prog 82 #[.slice ah nh ch, .slice al 4 cl] w (MadeL w (wgo t b c)) := by
  intro t
  induction t with
  | zero =>
    intro b c ah nh ch al cl w h hnil hl hc hs _ hb
    have hsum := sumL_ofN hc
    rw [hs] at hsum
    have hbd : Hid (∀ j, j < (ofN c).length → 0 ≤ el (ofN c) j ∧ el (ofN c) j ≤ (1000 : Nat)) := hid fun j _ => by have := getD_le_sum c j; rw [el_ofN]; omega
    have Hsum := hid hsum
    have Hs := hid hs
    have Hc := hid hc
    clear hsum hs hc
    rw [wgo]
    go_enter Try.func82, Try.ntmps82
    go_wp2_with fail
    refine (says_to (sum_any al 4 cl (ofN c) w hl (by omega) hbd) Hsum.out).mono ?_
    rintro e w1 ⟨rfl, b1⟩
    have hlit := own_lit w1
    have h1 := (h.later b1).later ((Below.refl w1.heap.size w1).alloc (Nat.le_refl _) (.cells #[] 3))
    go_wp2_with (at_builtin; refine app_list _ rfl _ _ rfl w1.heap.size _ _ rfl hlit ah nh ch b rfl h1 hnil (by simp; omega) (by simp) ?_)
    intro u1 w2 ho1 hg1
    have hb2 := below_app ((Below.refl w1.heap.size w1).alloc (Nat.le_refl _) (.cells #[] 3)) hlit hg1
    have hsz := b1.size
    have hsz2 := hb2.size
    obtain ⟨a1, c1, rfl, hs1⟩ := ho1.sl
    clear hs1 hg1
    go_wp2
    go_ret
    have hb3 := b1.trans (hb2.mono hsz)
    exact ⟨_, rfl, (ownL_one (ho1.mono hsz) (Nat.le_trans hsz hsz2)).now, hb3.alloc (Nat.le_trans hsz hsz2) _⟩
  | succ t ih =>
    intro b c ah nh ch al cl w h hnil hl hc hs ht7 hb
    have hsum := sumL_ofN hc
    rw [hs] at hsum
    have hbd : Hid (∀ j, j < (ofN c).length → 0 ≤ el (ofN c) j ∧ el (ofN c) j ≤ (1000 : Nat)) := hid fun j _ => by have := getD_le_sum c j; rw [el_ofN]; omega
    have hz : ((((t + 1 : Nat) : Int)) == 0) = false := by simp; omega
    obtain ⟨T, hT⟩ : ∃ T, T = t + 1 := ⟨_, rfl⟩
    rw [← hT] at hsum hz
    have Hsum := hid hsum
    have Hs := hid hs
    have Hc := hid hc
    have HT := hid hT
    clear hsum hs hc hT
    rw [← wpre_all]
    go_enter Try.func82, Try.ntmps82
    go_wp2_with fail
    refine (says_to (sum_any al 4 cl (ofN c) w hl (by omega) hbd) Hsum.out).mono ?_
    rintro e w1 ⟨rfl, b1⟩
    have hsz := b1.size
    have hl1 := hl.later b1
    have hh1 := h.later b1
    go_wp2
    go_loopw [5, 6, 7] (fun p i z wr => ∃ (k n0 : Nat) (ao : Option Addr) (cp : Nat), k ≤ 4 ∧ p = .slice ao n0 cp ∧ i = .int .i64 k ∧ Below w1.heap.size w1 wr ∧ OwnL wr w1.heap.size wr.heap.size (.slice ao n0 cp) (wpre t b c k))
      (fun _ i _ _ => 4 - (intOf i).toNat)
    case atStart => exact ⟨0, _, _, _, Nat.zero_le _, rfl, rfl, (Below.refl _ _).alloc (Nat.le_refl _) _, (ownL_lit (Nat.le_refl _)).now⟩
    case round =>
      obtain ⟨k, n0, ao, cp, hk, rfl, rfl, hbr, ho⟩ := hrel
      by_cases hlt : k < 4
      · have hki : (k : Int) < 4 := by omega
        have hlr := hl1.later hbr
        obtain ⟨bl, off, rfl, hblt, hcr⟩ := hlr.row (by omega)
        have hcell := hcr k hlt
        rw [el_ofN] at hcell
        clear hcr
        obtain ⟨m, hm⟩ : ∃ m, m = c.getD k 0 := ⟨_, rfl⟩
        rw [← hm] at hcell
        have Hm := hid hm
        clear hm
        rcases Nat.eq_zero_or_pos m with h0 | h0
        · subst h0
          go_wp2
          go_roundw
          case rel => exact ⟨k + 1, _, _, _, by omega, rfl, by go_num, hbr, by rw [wpre_no Hm.out.symm]; exact ho⟩
          case measure => simp [intOf]; omega
        · have hm0 : (0 : Int) < m := by omega
          have hmw : wrap64 ((m : Int) - 1) = ((m - 1 : Nat) : Int) := by
            have := getD_le_sum c k
            rw [← Hm.out, Hs.out] at this
            exact IntWalk.wrap64_in _ ⟨by omega, by omega⟩ |>.trans (by omega)
          have hlit := own_lit wr
          have h1 := hlr.later ((Below.refl wr.heap.size wr).alloc (Nat.le_refl _) (.cells #[] 3))
          go_wp2_with (at_builtin; refine app_list _ rfl _ _ rfl wr.heap.size _ _ rfl hlit (some ⟨bl, off, none⟩) 4 cl (ofN c) rfl h1 (fun e => by cases e) (by simp) (by simp) ?_)
          intro u1 w2 ho1 hg1
          have hb2 := below_app ((Below.refl wr.heap.size wr).alloc (Nat.le_refl _) (.cells #[] 3)) hlit hg1
          have hlen4 : (ofN c).length = 4 := by rw [ofN_len, Hc.out]
          rcases ho1.place with ⟨e1, e2⟩ | ⟨g, cap, rfl, hs3⟩
          · rw [e2] at hlen4
            simp at hlen4
          rw [hlen4] at hs3 ⊢
          have hfr := hs3.frozen k
          have hcur := hs3.cell hlt
          rw [el_ofN, ← Hm.out] at hcur
          have hlt3 := hs3.lt
          have Hlen4 := hid hlen4
          clear hlen4 hg1 ho1
          have hws := hs3.set k ((m - 1 : Nat) : Int)
          rw [← ofN_set] at hws
          have hb3 : Below wr.heap.size wr (w2.setCell ⟨g, k, none⟩ (.int .i64 ((m - 1 : Nat) : Int))) := hb2.setCell (show wr.heap.size ≤ g by omega) _
          have hsz3 : (w2.setCell ⟨g, k, none⟩ (.int .i64 ((m - 1 : Nat) : Int))).heap.size = w2.heap.size := by simp [World.setCell]
          have hlit3 := own_lit (w2.setCell ⟨g, k, none⟩ (.int .i64 ((m - 1 : Nat) : Int)))
          rw [hsz3] at hlit3
          have hsz2 := hb2.size
          have hh3 := ((hh1.later hbr).later hb3).later ((Below.refl (w2.setCell ⟨g, k, none⟩ (.int .i64 ((m - 1 : Nat) : Int))).heap.size _).alloc (Nat.le_refl _) (.cells #[] 3))
          go_wp2_with (at_builtin; refine app_list _ rfl (.tmp 39) (.tmp 40) rfl w2.heap.size _ _ rfl hlit3 ah nh ch b rfl hh3 hnil (by simp; omega) (by rw [World.size_alloc, hsz3]; exact Nat.le_succ _) ?_)
          intro u4 w4 ho4 hg4
          have hb4 : Below wr.heap.size wr w4 := ((hb3.alloc (by rw [hsz3]; exact hsz2) _)).grown hg4 (by rw [World.size_alloc, hsz3]; omega) (fun q hq => by have := (hlit3.blocks q hq).1; omega)
          have hws4 := (OwS.sl hws).later (((Below.refl _ _).alloc (Nat.le_refl _) (.cells #[] 3)).grown hg4 (by rw [World.size_alloc]; exact Nat.le_succ _) (fun q hq => by rw [hsz3]; have := (hlit3.blocks q hq).1; omega))
          have hsz4 := hb4.size
          have hbl : b.length = nh := hh1.len
          have hbl2 : b.length ≤ 2000000 := by omega
          have h24 : w2.heap.size ≤ w4.heap.size := by have := hg4.size; rw [World.size_alloc, hsz3] at this; omega
          go_wp2_with (at_builtin; refine app_int _ _ rfl _ _ rfl w2.heap.size _ _ rfl ho4 rfl hbl2 h24 ?_)
          intro u5 w5 ho5 hg5
          have hb5 : Below wr.heap.size wr w5 := hb4.grown hg5 hsz4 (fun q hq => by have := (ho4.blocks q hq).1; omega)
          have hws5 := hws4.grown hg5 (fun e => by have := (ho4.blocks g e).1; omega)
          rcases ho5.place with ⟨e1, e2⟩ | ⟨g5, c5, rfl, hs5⟩
          · simp at e2
          have hs5 := hs5.sl
          rw [List.length_append, List.length_singleton, hbl] at hs5 ⊢
          have hkc : k < c.length := by rw [Hc.out]; exact hlt
          have hgm : c.getD k 0 = (m - 1) + 1 := by rw [← Hm.out]; omega
          go_wp2_with fail
          refine (ih (b ++ [(k : Int)]) (c.set k (m - 1)) _ (nh + 1) c5 _ cap w5 hs5 (fun e => by cases e) hws5 (by rw [List.length_set, Hc.out]) (sum_set hkc hgm Hs.out) (by omega) (by omega)).mono ?_
          rintro e w6 ⟨uz, rfl, hz6, hb6⟩
          have hb56 := hb5.trans (hb6.mono hb5.size)
          have ho6 := ho.later hb56
          have hl6 : (wpre t b c k).length + (wgo t (b ++ [(k : Int)]) (c.set k (m - 1))).length ≤ 2000000 := by
            have h1 := wpre_len t b c k hk
            have h2 := wgo_len' t (b ++ [(k : Int)]) (c.set k (m - 1))
            have h3 : 4 ^ (t + 1) ≤ 4 ^ 8 := Nat.pow_le_pow_right (by omega) (by omega)
            have h4 : 4 ^ t ≤ 4 ^ 8 := Nat.pow_le_pow_right (by omega) (by omega)
            omega
          obtain ⟨az, cz, rfl, -⟩ := hz6.sl
          go_wp2_with (at_builtin; refine app_lsts w6 rfl _ _ rfl w1.heap.size wr.heap.size w5.heap.size w6.heap.size _ _ _ _ ho6 hb5.size hz6 rfl rfl hl6 ?_)
          intro u7 w7 ho7 hb7
          rw [← wpre_yes hgm] at ho7
          obtain ⟨a7, c7, rfl, -⟩ := ho7.sl
          have hbr7 := (hbr.trans (hb56.mono hbr.size)).trans hb7
          go_wp2
          go_roundw
          case rel => exact ⟨k + 1, _, _, _, by omega, rfl, by go_num, hbr7, ho7⟩
          case measure => simp [intOf]; omega
      · obtain rfl : k = 4 := by omega
        go_wp2
        go_ret
        exact ⟨_, rfl, ho.mono hsz, b1.trans (hbr.mono hsz)⟩

end Go.Proofs.Ytjphaphnmclbcaa
