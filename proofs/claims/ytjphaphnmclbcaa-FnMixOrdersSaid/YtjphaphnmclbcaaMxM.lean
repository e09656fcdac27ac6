/- MixOrders and MixRow of the model, alone. Condition: the lists' cells can be read. -/
import Derived.Test.YtjphaphnmclbcaaBne
import Derived.Test.YtjphaphnmclbcaaMxO
import Derived.Test.YtjphaphnmclbcaaWrS
import Derived.Test.YtjphaphnmclbcaaBnd
import Derived.Test.YtjphaphnmclbcaaDen
namespace Go.Proofs.Ytjphaphnmclbcaa
open Go Go.RowKit

set_option maxHeartbeats 1000000 in
theorem higher_any (ao : Option Addr) (n cap : Nat) (xs : List Int) (d : Int) (w : World) (h : Sl w ao n cap xs) (h7 : n ≤ 1000) (hb : Hid (∀ j, j < n → 0 ≤ el xs j ∧ el xs j ≤ 1000)) (hd : 0 ≤ d ∧ d ≤ 1000) :
    Calls Try.prog 66 #[.slice ao n cap, .int .i64 d] w (Made w (up xs d)) := by
  have hbig := h.big
  have hlen := hid h.len
  obtain ⟨hd0, hd1⟩ := hd
  go_enter Try.func66, Try.ntmps66
  go_wp2
  go_loopw [5, 6] (fun v i wr => ∃ (k : Nat) (ao' : Option Addr) (cap' : Nat), k ≤ n ∧ v = .slice ao' k cap' ∧ i = .int .i64 k ∧ Below w.heap.size w wr ∧ Own wr w.heap.size (.slice ao' k cap') ((List.range k).map (fun j => el xs j + d)))
    (fun v _ _ => n - lenOf v)
  case atStart => exact ⟨0, _, _, Nat.zero_le _, rfl, rfl, (Below.refl _ _).alloc (Nat.le_refl _) _, own_lit w⟩
  case round =>
    obtain ⟨k, ao', cap', hk, rfl, rfl, hbr, ho⟩ := hrel
    by_cases hlt : k < n
    · obtain ⟨b, off, rfl, hblt, hc⟩ := h.row (by omega)
      have hsz := hbr.size
      have hl : ((List.range k).map (fun j => el xs j + d)).length ≤ 2000000 := by rw [map_range_len]; omega
      have hcell := (hbr.cell (p := ⟨b, off + k, none⟩) hblt).trans (hc k hlt)
      have hi1 : (k : Int) < n := by omega
      have hx := hb.out k hlt
      obtain ⟨hx0, hx1⟩ := hx
      clear hc
      go_wp2_with (at_builtin; refine app_int _ _ rfl _ _ rfl w.heap.size _ _ rfl ho rfl hl hsz ?_)
      intro u' w' ho' hg'
      have hb' := below_app hbr ho hg'
      obtain ⟨ao', cap', rfl, hs'⟩ := ho'.sl
      rw [← map_range_succ (fun j => el xs j + d), map_range_len] at *
      go_wp2
      go_roundw
      case rel => exact ⟨k + 1, _, _, by omega, rfl, by go_num, hb', ho'⟩
      case measure => simp [lenOf]; omega
    · obtain rfl : k = n := by omega
      go_wp2
      go_ret
      refine ⟨_, rfl, ?_, hbr⟩
      rw [up, hlen.out]
      exact ho

theorem mxL_no {p q : List Int} (h : ¬ (Two p q ∧ p.length + q.length ≤ 5)) : mxL p q = [] := if_neg h
theorem mxr_no {p q : List Int} (m : Bool) (h : ¬ (Two p q ∧ p.length + q.length ≤ 5)) : mxrL p q m = [] := by
  rw [mxrL, mxL_no h]
  cases m <;> rfl

set_option maxHeartbeats 2000000 in
theorem mixS_any (ao : Option Addr) (n cap : Nat) (xs : List Int) (bo : Option Addr) (m cap2 : Nat) (ys : List Int) (w : World) (h : Sl w ao n cap xs) (g : Sl w bo m cap2 ys) (hnil : ao = none → cap = 0) :
    Calls Try.prog 58 #[.slice ao n cap, .slice bo m cap2] w (MadeL w (mxL xs ys)) := by
  have hlen := hid h.len
  have glen := hid g.len
  have hbig := h.big
  have gbig := g.big
  by_cases hx : Valid xs
  · have Hx := hid hx
    by_cases hy : Valid ys
    · have Hy := hid hy
      have h7 : n ≤ 7 := by have := hx.len; rw [hlen.out] at this; exact this
      have g7 : m ≤ 7 := by have := hy.len; rw [glen.out] at this; exact this
      by_cases hs : n + m ≤ 5
      · have hT : Hid (MxOk xs ys (mxL xs ys)) := hid (mxF_ok hx hy (by rw [hlen.out, glen.out]; exact hs))
        have hsI : ¬ (5 : Int) < (n : Int) + m := by omega
        have hup : Hid (∀ j, j < m → 0 ≤ el ys j ∧ el ys j ≤ 1000) := fun j hj => by
          have hj2 : j < ys.length := by rw [glen.out]; exact hj
          have h1 := Hy.out.lo j hj2
          have h2 := Hy.out.hi j hj2
          rw [glen.out] at h2
          omega

        go_enter Try.func58, Try.ntmps58
        go_wp2_with fail
        refine (validS_any _ _ _ xs _ h).mono ?_
        rintro e w1 ⟨rfl, b1⟩
        go_wp2_with fail
        refine (validS_any _ _ _ ys _ (g.later b1)).mono ?_
        rintro e w2 ⟨rfl, b2⟩
        have b12 := b1.trans (b2.mono b1.size)
        have hsz2 := b12.size
        clear b1 b2
        have hlit := own_lit_at (w := w2) hsz2
        have b3 := b12.alloc hsz2 (.cells #[] 3)
        have hb3 := b3.size
        clear hx hy
        go_wp2_with fail
        refine (higher_any _ _ _ ys n _ (g.later b3) (by omega) hup (by omega)).mono ?_
        rintro e w4 ⟨u4, rfl, o4, b4⟩
        have b4' := b3.trans (b4.mono hb3)
        have hb4 := b4'.size
        have hn4 := @Own.nilcap w4
        obtain ⟨a4, c4, rfl, s4⟩ := o4.sl
        have hn4 := o4.nilcap
        rw [up_len, glen.out] at s4 ⊢
        have hl4 := hlit.read.below (Nat.le_refl _) b4
        go_wp2_with fail
        refine (mixed_any (n + m) [] xs (up ys n) _ 0 0 _ n cap _ m c4 _ hl4 (fun e => by cases e) (h.later b4') hnil s4 hn4 rfl (by omega) (by omega)).mono ?_
        rintro e w5 ⟨u5, rfl, o5, b5⟩
        have b5' := b4'.trans (b5.mono hb4)
        have e5 := hT.out.mg
        rw [hlen.out, glen.out] at e5
        rw [e5] at o5
        have O5 := hid (o5.mono hb4)
        clear e5 o5
        obtain ⟨a5, c5, rfl, -⟩ := O5.out.sl
        go_wp2
        go_ret
        exact ⟨_, rfl, O5.out, b5'⟩
      · have hT : Hid (¬ (Two xs ys ∧ xs.length + ys.length ≤ 5)) := fun t => hs (by have := t.2; rw [hlen.out, glen.out] at this; exact this)
        have hsI : (5 : Int) < (n : Int) + m := by omega
        rw [mxL_no hT.out]
        go_enter Try.func58, Try.ntmps58
        go_wp2_with fail
        refine (validS_any _ _ _ xs _ h).mono ?_
        rintro e w1 ⟨rfl, b1⟩
        go_wp2_with fail
        refine (validS_any _ _ _ ys _ (g.later b1)).mono ?_
        rintro e w2 ⟨rfl, b2⟩
        have b12 := b1.trans (b2.mono b1.size)
        have hsz2 := b12.size
        clear b1 b2
        go_wp2
        go_ret
        exact ⟨_, rfl, (OwnL.nil (B := w.heap.size) b12.size).now, b12⟩
    · have hT : Hid (¬ (Two xs ys ∧ xs.length + ys.length ≤ 5)) := fun t => hy t.1.2.1
      rw [mxL_no hT.out]
      go_enter Try.func58, Try.ntmps58
      go_wp2_with fail
      refine (validS_any _ _ _ xs _ h).mono ?_
      rintro e w1 ⟨rfl, b1⟩
      go_wp2_with fail
      refine (validS_any _ _ _ ys _ (g.later b1)).mono ?_
      rintro e w2 ⟨rfl, b2⟩
      have b12 := b1.trans (b2.mono b1.size)
      have hsz2 := b12.size
      clear b1 b2
      go_wp2
      go_ret
      exact ⟨_, rfl, (OwnL.nil (B := w.heap.size) b12.size).now, b12⟩
  · have hT : Hid (¬ (Two xs ys ∧ xs.length + ys.length ≤ 5)) := fun t => hx t.1.1
    rw [mxL_no hT.out]
    go_enter Try.func58, Try.ntmps58
    go_wp2_with fail
    refine (validS_any _ _ _ xs _ h).mono ?_
    rintro e w1 ⟨rfl, b1⟩
    have b12 := b1
    go_wp2
    go_ret
    exact ⟨_, rfl, (OwnL.nil (B := w.heap.size) b12.size).now, b12⟩

set_option maxRecDepth 20000 in
set_option maxHeartbeats 4000000 in
theorem mxrS_any (ao : Option Addr) (n cap : Nat) (xs : List Int) (bo : Option Addr) (m cap2 : Nat) (ys : List Int) (bm : Bool) (w : World) (h : Sl w ao n cap xs) (g : Sl w bo m cap2 ys) (hnil : ao = none → cap = 0) :
    Calls Try.prog 19 #[.slice ao n cap, .slice bo m cap2, .bool bm] w (Made2 w (mxrL xs ys bm) (decide (0 < (mxL xs ys).length))) := by
  have hlen := hid h.len
  have glen := hid g.len
  have hbig := h.big
  have gbig := g.big
  by_cases hx : Valid xs
  · have Hx := hid hx
    by_cases hy : Valid ys
    · have Hy := hid hy
      have h7 : n ≤ 7 := by have := hx.len; rw [hlen.out] at this; exact this
      have g7 : m ≤ 7 := by have := hy.len; rw [glen.out] at this; exact this
      by_cases hs : n + m ≤ 5
      · have hT : Hid (MxOk xs ys (mxL xs ys)) := hid (mxF_ok hx hy (by rw [hlen.out, glen.out]; exact hs))
        have hsI : ¬ (5 : Int) < (n : Int) + m := by omega
        cases bm with
        | true =>
          have hup : Hid (∀ j, j < m → 0 ≤ el ys j ∧ el ys j ≤ 1000) := fun j hj => by
            have hj2 : j < ys.length := by rw [glen.out]; exact hj
            have h1 := Hy.out.lo j hj2
            have h2 := Hy.out.hi j hj2
            rw [glen.out] at h2
            omega

          have hdec : decide (0 < (mxL xs ys).length) = true := decide_eq_true hT.out.pos
          rw [hdec]
          obtain ⟨L, hL⟩ : ∃ L, L = mxL xs ys := ⟨_, rfl⟩
          rw [show mxrL xs ys true = tal (L.map vnM) by rw [mxrL, hL]; rfl]
          rw [← hL] at hT
          clear hdec
          have HL0 := hid hL
          clear hL

          go_enter Try.func19, Try.ntmps19
          go_wp2_with fail
          refine (validS_any _ _ _ xs _ h).mono ?_
          rintro e w1 ⟨rfl, b1⟩
          go_wp2_with fail
          refine (validS_any _ _ _ ys _ (g.later b1)).mono ?_
          rintro e w2 ⟨rfl, b2⟩
          have b12 := b1.trans (b2.mono b1.size)
          have hsz2 := b12.size
          clear b1 b2
          obtain ⟨w3, hw3⟩ : ∃ w3, w3 = w2 := ⟨_, rfl⟩
          subst hw3
          have hlit : Own ((w3.alloc (.cells #[] 3)).alloc (.cells #[] 3)) w3.heap.size (.slice (some ⟨w3.heap.size + 1, 0, none⟩) 0 0) [] := by
            have := own_lit_at (w := w3.alloc (.cells #[] 3)) (B := w3.heap.size) (by simp)
            rw [World.size_alloc] at this
            exact this
          have bb := ((Below.refl w3.heap.size w3).alloc (Nat.le_refl _) (.cells #[] 3)).alloc (by rw [World.size_alloc]; exact Nat.le_succ _) (.cells #[] 3)
          have hlist := Own.below (own_lit w3) (Nat.le_refl _) ((Below.refl (w3.alloc (.cells #[] 3)).heap.size _).alloc (Nat.le_refl _) (.cells #[] 3))
          have h3 := (h.later b12).later bb
          have g3 := (g.later b12).later bb
          clear hx hy
          go_wp2_with fail
          refine (higher_any _ _ _ ys n _ g3 (by omega) hup (by omega)).mono ?_
          rintro e wq ⟨uq, rfl, oq, bq⟩
          obtain ⟨aq, cq, rfl, sq⟩ := oq.sl
          have hnq := oq.nilcap
          rw [up_len, glen.out] at sq ⊢
          have hlq := hlit.read.below (Nat.le_refl _) bq
          have hqs : w3.heap.size + 2 ≤ wq.heap.size := by have := bq.size; rw [World.size_alloc, World.size_alloc] at this; omega
          have bbq := bb.trans (bq.mono bb.size)
          go_wp2_with fail
          refine (mixed_any (n + m) [] xs (up ys n) _ 0 0 _ n cap _ m cq _ hlq (fun e => by cases e) (h3.later bq) hnil sq hnq rfl (by omega) (by omega)).mono ?_
          rintro e w4 ⟨u, rfl, o4, b4⟩
          have e4 := hT.out.mg
          rw [hlen.out, glen.out] at e4
          rw [e4] at o4
          clear e4
          have hVW : Hid (∀ x ∈ L, Valid x) := hid hT.out.ok
          have hlen4 : Hid (L.length ≤ 1000) := hid (by have := hT.out.len; omega)
          have hbd2 : Hid (∀ x ∈ L, 0 ≤ vnM x ∧ vnM x ≤ 100) := hid hT.out.bM
          have b34 := bbq.trans (b4.mono bbq.size)
          have o34 := (hlist.below (by rw [World.size_alloc]; omega) bq).below (by omega) b4
          have bw4 : Below w.heap.size w w4 := b12.trans (b34.mono b12.size)
          have hws3 : w.heap.size ≤ w3.heap.size := b12.size
          obtain ⟨a4, c4, rfl, -⟩ := o4.sl
          have HL := HL0
          have hLl : L.length ≤ 1000 := hlen4.out
          have h4s : wq.heap.size ≤ w4.heap.size := b4.size
          obtain ⟨s, hs⟩ : ∃ s, s = w3.heap.size := ⟨_, rfl⟩
          rw [← hs] at o34 hws3 hqs ⊢
          have HO4 := hid (o4.mono (show s + 1 ≤ wq.heap.size by omega))
          have h4s2 : s + 2 ≤ w4.heap.size := by omega
          clear hs o4 b4 hlist hlit h3 g3 bb bbq bq b34 b12 hlq sq oq hqs h4s
          go_wp2

          go_loopw [8, 10] (fun p i wr => ∃ (k : Nat) (ap : Option Addr) (cp : Nat), k ≤ L.length ∧ p = .slice ap k cp ∧ i = .int .i64 k ∧ Hid (Chg s (s + 1) w4 wr) ∧ Own wr s (.slice ap k cp) (mpk vnM L k) ∧ Hid (∀ q, (Value.slice ap k cp).ownBlock = some q → q < s + 1 ∨ w4.heap.size ≤ q))
            (fun _ i _ => L.length - (intOf i).toNat)
          case atStart => exact ⟨0, _, _, Nat.zero_le _, rfl, rfl, hid (Chg.refl _ _ _), o34, hid (fun q hq => by simp [Value.ownBlock] at hq; omega)⟩
          case round =>
            clear o34
            obtain ⟨k, ap, cp, hk, rfl, rfl, HC, ho, HQ⟩ := hrel
            have hch := HC.out
            have hszr := hch.size
            by_cases hlt : k < L.length
            · have hki : (k : Int) < L.length := by omega
              obtain ⟨bl, off, rfl, hblt, hcr⟩ := (ownL_read (HO4.out.chg hch (Or.inr (Nat.le_refl _)))).row (by omega)
              obtain ⟨ai, ci, hcell, hs2⟩ := hcr k hlt
              have hvw : Valid (ell L k) := by rw [ell_lt hlt]; exact hVW.out _ (List.getElem_mem hlt)
              have h7 := hvw.len
              have hval : vnM (ell L k) = major (ell L k) := by rw [vnM, onVi, if_pos hvw]
              have Hval := hid hval
              have Hhvw := hid hvw
              have Hhc := hid hch
              clear hcr hval hvw hch
              have hyl2 : (mpk vnM L k).length ≤ 2000000 := by rw [mpk_len vnM (by omega)]; omega
              have Htk := hid (mpk_succ vnM hlt)
              go_wp2_with fail
              refine (major_any _ _ _ (ell L k) _ hs2 (by omega)).mono ?_
              rintro e w5 ⟨rfl, b5⟩
              have ho5 := ho.below (Nat.le_refl _) b5
              have hc5 := Hhc.out.trans (Chg.of_below (lo := s) (hi := s + 1) b5)
              have hs5 : s ≤ w5.heap.size := by have := b5.size; omega
              have hl2 : w4.heap.size ≤ w5.heap.size := hc5.size
              have Hc5 := hid hc5
              rw [← Hval.out]
              clear hcell hs2 hc5 b5
              go_wp2_with (at_builtin; refine app_int2 _ _ rfl _ _ rfl s _ _ rfl ho5 rfl hyl2 hs5 ?_)
              intro u' w' ho' hg' hk'
              have HC' := hid (chg_app Hc5.out hg' (fun q hq => by have h1 := HQ.out q hq; have h2 := (ho5.blocks q hq).1; omega))
              rw [← Htk.out] at ho'
              obtain ⟨ao5, cp5, rfl, -⟩ := ho'.sl
              rw [mpk_len vnM (show k + 1 ≤ L.length by omega)] at ho' hk' ⊢
              have HQ' : Hid (∀ q, (Value.slice ao5 (k + 1) cp5).ownBlock = some q → q < s + 1 ∨ w4.heap.size ≤ q) := hid (fun q hq => by
                rcases hk' with e | e
                · exact HQ.out q (e ▸ hq)
                · rw [e] at hq; have := Option.some.inj hq; omega)
              clear hk' hg' ho5 Hc5
              go_wp2
              go_roundw
              case rel => exact ⟨k + 1, _, _, by omega, rfl, by go_num, HC', ho', HQ'⟩
              case measure => simp [intOf]; omega
            · obtain rfl : k = L.length := by omega
              have hbw : Below w.heap.size w wr := HC.out.below bw4 (by omega) bw4.size
              rw [mpk_all] at ho
              obtain ⟨ad, cd, e2, hs2⟩ := ho.sl
              rw [List.length_map] at e2 hs2
              cases e2
              have hln := hlen4.out
              have hsz := hbw.size
              go_wp2_with fail
              refine (tallyS_any _ _ _ (L.map vnM) _ hs2 (hid fun j => el_bd vnM L hbd2.out j) (by omega)).mono ?_
              rintro e w6 ⟨u6, rfl, o6, b6⟩
              have b6' := hbw.trans (b6.mono hsz)
              have o6' := o6.mono hsz
              obtain ⟨a6, c6, rfl, -⟩ := o6.sl
              have O6 := hid o6'
              clear o6 o6'
              go_wp2
              go_ret2
              refine ⟨_, rfl, ?_, b6'⟩
              exact O6.out
        | false =>
          have hup : Hid (∀ j, j < m → 0 ≤ el ys j ∧ el ys j ≤ 1000) := fun j hj => by
            have hj2 : j < ys.length := by rw [glen.out]; exact hj
            have h1 := Hy.out.lo j hj2
            have h2 := Hy.out.hi j hj2
            rw [glen.out] at h2
            omega

          have hdec : decide (0 < (mxL xs ys).length) = true := decide_eq_true hT.out.pos
          rw [hdec]
          obtain ⟨L, hL⟩ : ∃ L, L = mxL xs ys := ⟨_, rfl⟩
          rw [show mxrL xs ys false = tal (L.map vnI) by rw [mxrL, hL]; rfl]
          rw [← hL] at hT
          clear hdec
          have HL0 := hid hL
          clear hL

          go_enter Try.func19, Try.ntmps19
          go_wp2_with fail
          refine (validS_any _ _ _ xs _ h).mono ?_
          rintro e w1 ⟨rfl, b1⟩
          go_wp2_with fail
          refine (validS_any _ _ _ ys _ (g.later b1)).mono ?_
          rintro e w2 ⟨rfl, b2⟩
          have b12 := b1.trans (b2.mono b1.size)
          have hsz2 := b12.size
          clear b1 b2
          obtain ⟨w3, hw3⟩ : ∃ w3, w3 = w2 := ⟨_, rfl⟩
          subst hw3
          have hlit : Own ((w3.alloc (.cells #[] 3)).alloc (.cells #[] 3)) w3.heap.size (.slice (some ⟨w3.heap.size + 1, 0, none⟩) 0 0) [] := by
            have := own_lit_at (w := w3.alloc (.cells #[] 3)) (B := w3.heap.size) (by simp)
            rw [World.size_alloc] at this
            exact this
          have bb := ((Below.refl w3.heap.size w3).alloc (Nat.le_refl _) (.cells #[] 3)).alloc (by rw [World.size_alloc]; exact Nat.le_succ _) (.cells #[] 3)
          have hlist := Own.below (own_lit w3) (Nat.le_refl _) ((Below.refl (w3.alloc (.cells #[] 3)).heap.size _).alloc (Nat.le_refl _) (.cells #[] 3))
          have h3 := (h.later b12).later bb
          have g3 := (g.later b12).later bb
          clear hx hy
          go_wp2_with fail
          refine (higher_any _ _ _ ys n _ g3 (by omega) hup (by omega)).mono ?_
          rintro e wq ⟨uq, rfl, oq, bq⟩
          obtain ⟨aq, cq, rfl, sq⟩ := oq.sl
          have hnq := oq.nilcap
          rw [up_len, glen.out] at sq ⊢
          have hlq := hlit.read.below (Nat.le_refl _) bq
          have hqs : w3.heap.size + 2 ≤ wq.heap.size := by have := bq.size; rw [World.size_alloc, World.size_alloc] at this; omega
          have bbq := bb.trans (bq.mono bb.size)
          go_wp2_with fail
          refine (mixed_any (n + m) [] xs (up ys n) _ 0 0 _ n cap _ m cq _ hlq (fun e => by cases e) (h3.later bq) hnil sq hnq rfl (by omega) (by omega)).mono ?_
          rintro e w4 ⟨u, rfl, o4, b4⟩
          have e4 := hT.out.mg
          rw [hlen.out, glen.out] at e4
          rw [e4] at o4
          clear e4
          have hVW : Hid (∀ x ∈ L, Valid x) := hid hT.out.ok
          have hlen4 : Hid (L.length ≤ 1000) := hid (by have := hT.out.len; omega)
          have hbd2 : Hid (∀ x ∈ L, 0 ≤ vnI x ∧ vnI x ≤ 100) := hid hT.out.bI
          have b34 := bbq.trans (b4.mono bbq.size)
          have o34 := (hlist.below (by rw [World.size_alloc]; omega) bq).below (by omega) b4
          have bw4 : Below w.heap.size w w4 := b12.trans (b34.mono b12.size)
          have hws3 : w.heap.size ≤ w3.heap.size := b12.size
          obtain ⟨a4, c4, rfl, -⟩ := o4.sl
          have HL := HL0
          have hLl : L.length ≤ 1000 := hlen4.out
          have h4s : wq.heap.size ≤ w4.heap.size := b4.size
          obtain ⟨s, hs⟩ : ∃ s, s = w3.heap.size := ⟨_, rfl⟩
          rw [← hs] at o34 hws3 hqs ⊢
          have HO4 := hid (o4.mono (show s + 1 ≤ wq.heap.size by omega))
          have h4s2 : s + 2 ≤ w4.heap.size := by omega
          clear hs o4 b4 hlist hlit h3 g3 bb bbq bq b34 b12 hlq sq oq hqs h4s
          go_wp2

          go_loopw [8, 10] (fun p i wr => ∃ (k : Nat) (ap : Option Addr) (cp : Nat), k ≤ L.length ∧ p = .slice ap k cp ∧ i = .int .i64 k ∧ Hid (Chg s (s + 1) w4 wr) ∧ Own wr s (.slice ap k cp) (mpk vnI L k) ∧ Hid (∀ q, (Value.slice ap k cp).ownBlock = some q → q < s + 1 ∨ w4.heap.size ≤ q))
            (fun _ i _ => L.length - (intOf i).toNat)
          case atStart => exact ⟨0, _, _, Nat.zero_le _, rfl, rfl, hid (Chg.refl _ _ _), o34, hid (fun q hq => by simp [Value.ownBlock] at hq; omega)⟩
          case round =>
            clear o34
            obtain ⟨k, ap, cp, hk, rfl, rfl, HC, ho, HQ⟩ := hrel
            have hch := HC.out
            have hszr := hch.size
            by_cases hlt : k < L.length
            · have hki : (k : Int) < L.length := by omega
              obtain ⟨bl, off, rfl, hblt, hcr⟩ := (ownL_read (HO4.out.chg hch (Or.inr (Nat.le_refl _)))).row (by omega)
              obtain ⟨ai, ci, hcell, hs2⟩ := hcr k hlt
              have hvw : Valid (ell L k) := by rw [ell_lt hlt]; exact hVW.out _ (List.getElem_mem hlt)
              have h7 := hvw.len
              have hval : vnI (ell L k) = sumL (table (ell L k)) := by rw [vnI, onVi, if_pos hvw]
              have Hval := hid hval
              have Hhvw := hid hvw
              have Hhc := hid hch
              clear hcr hval hvw hch
              have hyl2 : (mpk vnI L k).length ≤ 2000000 := by rw [mpk_len vnI (by omega)]; omega
              have Htk := hid (mpk_succ vnI hlt)
              go_wp2_with fail
              refine (invs0_any _ _ _ (ell L k) _ hs2 (by omega)).mono ?_
              rintro e w5 ⟨rfl, b5⟩
              have ho5 := ho.below (Nat.le_refl _) b5
              have hc5 := Hhc.out.trans (Chg.of_below (lo := s) (hi := s + 1) b5)
              have hs5 : s ≤ w5.heap.size := by have := b5.size; omega
              have hl2 : w4.heap.size ≤ w5.heap.size := hc5.size
              have Hc5 := hid hc5
              rw [← Hval.out]
              clear hcell hs2 hc5 b5
              go_wp2_with (at_builtin; refine app_int2 _ _ rfl _ _ rfl s _ _ rfl ho5 rfl hyl2 hs5 ?_)
              intro u' w' ho' hg' hk'
              have HC' := hid (chg_app Hc5.out hg' (fun q hq => by have h1 := HQ.out q hq; have h2 := (ho5.blocks q hq).1; omega))
              rw [← Htk.out] at ho'
              obtain ⟨ao5, cp5, rfl, -⟩ := ho'.sl
              rw [mpk_len vnI (show k + 1 ≤ L.length by omega)] at ho' hk' ⊢
              have HQ' : Hid (∀ q, (Value.slice ao5 (k + 1) cp5).ownBlock = some q → q < s + 1 ∨ w4.heap.size ≤ q) := hid (fun q hq => by
                rcases hk' with e | e
                · exact HQ.out q (e ▸ hq)
                · rw [e] at hq; have := Option.some.inj hq; omega)
              clear hk' hg' ho5 Hc5
              go_wp2
              go_roundw
              case rel => exact ⟨k + 1, _, _, by omega, rfl, by go_num, HC', ho', HQ'⟩
              case measure => simp [intOf]; omega
            · obtain rfl : k = L.length := by omega
              have hbw : Below w.heap.size w wr := HC.out.below bw4 (by omega) bw4.size
              rw [mpk_all] at ho
              obtain ⟨ad, cd, e2, hs2⟩ := ho.sl
              rw [List.length_map] at e2 hs2
              cases e2
              have hln := hlen4.out
              have hsz := hbw.size
              go_wp2_with fail
              refine (tallyS_any _ _ _ (L.map vnI) _ hs2 (hid fun j => el_bd vnI L hbd2.out j) (by omega)).mono ?_
              rintro e w6 ⟨u6, rfl, o6, b6⟩
              have b6' := hbw.trans (b6.mono hsz)
              have o6' := o6.mono hsz
              obtain ⟨a6, c6, rfl, -⟩ := o6.sl
              have O6 := hid o6'
              clear o6 o6'
              go_wp2
              go_ret2
              refine ⟨_, rfl, ?_, b6'⟩
              exact O6.out
      · have hT : Hid (¬ (Two xs ys ∧ xs.length + ys.length ≤ 5)) := fun t => hs (by have := t.2; rw [hlen.out, glen.out] at this; exact this)
        have hsI : (5 : Int) < (n : Int) + m := by omega
        rw [mxr_no bm hT.out, mxL_no hT.out]
        go_enter Try.func19, Try.ntmps19
        go_wp2_with fail
        refine (validS_any _ _ _ xs _ h).mono ?_
        rintro e w1 ⟨rfl, b1⟩
        go_wp2_with fail
        refine (validS_any _ _ _ ys _ (g.later b1)).mono ?_
        rintro e w2 ⟨rfl, b2⟩
        have b12 := b1.trans (b2.mono b1.size)
        have hsz2 := b12.size
        clear b1 b2
        go_wp2
        go_ret2
        exact ⟨_, rfl, Own.nil, b12⟩
    · have hT : Hid (¬ (Two xs ys ∧ xs.length + ys.length ≤ 5)) := fun t => hy t.1.2.1
      rw [mxr_no bm hT.out, mxL_no hT.out]
      go_enter Try.func19, Try.ntmps19
      go_wp2_with fail
      refine (validS_any _ _ _ xs _ h).mono ?_
      rintro e w1 ⟨rfl, b1⟩
      go_wp2_with fail
      refine (validS_any _ _ _ ys _ (g.later b1)).mono ?_
      rintro e w2 ⟨rfl, b2⟩
      have b12 := b1.trans (b2.mono b1.size)
      have hsz2 := b12.size
      clear b1 b2
      go_wp2
      go_ret2
      exact ⟨_, rfl, Own.nil, b12⟩
  · have hT : Hid (¬ (Two xs ys ∧ xs.length + ys.length ≤ 5)) := fun t => hx t.1.1
    rw [mxr_no bm hT.out, mxL_no hT.out]
    go_enter Try.func19, Try.ntmps19
    go_wp2_with fail
    refine (validS_any _ _ _ xs _ h).mono ?_
    rintro e w1 ⟨rfl, b1⟩
    have b12 := b1
    go_wp2
    go_ret2
    exact ⟨_, rfl, Own.nil, b12⟩


end Go.Proofs.Ytjphaphnmclbcaa
