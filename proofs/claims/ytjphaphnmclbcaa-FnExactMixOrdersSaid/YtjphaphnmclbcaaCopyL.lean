/- Lists of lists in the laws: equal, marked, held. Condition: the lists' cells can be read. -/
import Derived.Test.YtjphaphnmclbcaaBnd
import Derived.Test.YtjphaphnmclbcaaCopy
namespace Go.Proofs.Ytjphaphnmclbcaa
open Go.RowKit

theorem Sl.drewQ {w : World} {ao : Option Addr} {n cap : Nat} {xs : List Int} (h : Sl w ao n cap xs) (m : Nat) : Sl (w.drewN m) ao n cap xs := ⟨h.len, h.le, h.max, h.row⟩
theorem drew_more {w wr : World} {n : Nat} (h : ∃ q, wr = w.drewN q) : ∃ q, wr.drewN n = w.drewN q := by
  obtain ⟨q, e⟩ := h
  rw [e]
  exact ⟨_, World.drewN_drewN _ _ _⟩
theorem quiet_no {p : Prop} [Decidable p] {w w' : World} (h : ¬ p) (hw : ∃ q, w' = w.drewN q) : Ending.returned (.bool false) = .returned (.bool (decide p)) ∧ ∃ q, w' = w.drewN q := ⟨by rw [decide_eq_false h], hw⟩
theorem quiet_yes {p : Prop} [Decidable p] {w w' : World} (h : p) (hw : ∃ q, w' = w.drewN q) : Ending.returned (.bool true) = .returned (.bool (decide p)) ∧ ∃ q, w' = w.drewN q := ⟨by rw [decide_eq_true h], hw⟩
theorem quiet_to {P : Program} {f : FuncId} {a : Array Value} {w : World} {v v' : Bool} (h : Calls P f a w fun e w' => e = .returned (.bool v) ∧ ∃ q, w' = w.drewN q) (e : v = v') : Calls P f a w fun e w' => e = .returned (.bool v') ∧ ∃ q, w' = w.drewN q := e ▸ h

set_option maxHeartbeats 400000 in
theorem eqIntSQ_any (ao : Option Addr) (n cap : Nat) (xs : List Int) (bo : Option Addr) (m cap2 : Nat) (ys : List Int) (w : World) (h : Sl w ao n cap xs) (g : Sl w bo m cap2 ys) :
    Calls Try.prog 25 #[.slice ao n cap, .slice bo m cap2] w fun e w' => e = .returned (.bool (decide (xs = ys))) ∧ ∃ q, w' = w.drewN q := by
  have hbig := h.big
  have hbig2 := g.big
  have hlen := hid h.len
  have glen := hid g.len
  by_cases hnm : n = m
  · subst hnm
    go_enter Try.func25, Try.ntmps25
    go_wp2
    go_loopw [5] (fun i wr => ∃ k : Nat, k ≤ n ∧ i = .int .i64 k ∧ Hid (∃ q, wr = w.drewN q) ∧ Hid (∀ j, j < k → el xs j = el ys j))
      (fun i _ => n - (intOf i).toNat)
    case atStart => exact ⟨0, Nat.zero_le _, rfl, hid ⟨0, rfl⟩, fun j hj => by omega⟩
    case round =>
      obtain ⟨k, hk, rfl, Hq, heq⟩ := hrel
      have h' : Sl wr ao n cap xs := by obtain ⟨q, e⟩ := Hq.out; rw [e]; exact h.drewQ q
      have g' : Sl wr bo n cap2 ys := by obtain ⟨q, e⟩ := Hq.out; rw [e]; exact g.drewQ q
      by_cases hlt : k < n
      · obtain ⟨b, off, rfl, hblt, hc⟩ := h'.row (by omega)
        obtain ⟨b2, off2, rfl, hblt2, hc2⟩ := g'.row (by omega)
        have hcell := hc k hlt
        have hcell2 := hc2 k hlt
        clear hc hc2
        have hi1 : (k : Int) < n := by omega
        go_wp2
        go_quiet (fail)
        go_wp2
        · have hne : ¬ el xs k = el ys k := by
            have : (el xs k != el ys k) = true := by assumption
            simpa using this
          go_ret
          exact quiet_no (fun e => hne (by rw [e])) (drew_more Hq.out)
        · have he : el xs k = el ys k := by
            have : (el xs k != el ys k) = false := by assumption
            simpa using this
          go_roundw
          case rel => exact ⟨k + 1, by omega, by go_num, hid (drew_more Hq.out), fun j hj => by
            by_cases hjk : j = k
            · rw [hjk]; exact he
            · exact heq.out j (by omega)⟩
          case measure => simp [intOf]; omega
      · obtain rfl : k = n := by omega
        go_wp2
        go_ret
        exact quiet_yes (ext_el (by rw [hlen.out, glen.out]) (fun j hj => heq.out j (by rw [hlen.out] at hj; exact hj))) Hq.out
  · have hne : ¬ (n : Int) = m := by omega
    go_enter Try.func25, Try.ntmps25
    go_wp2
    go_ret
    exact quiet_no (fun e => hnm (by rw [← hlen.out, ← glen.out, e])) ⟨0, rfl⟩

set_option maxHeartbeats 1000000 in
theorem eqIntSS_any (ao : Option Addr) (n cap : Nat) (xss : List (List Int)) (bo : Option Addr) (m cap2 : Nat) (yss : List (List Int)) (w : World) (h : SlL w ao n cap xss) (g : SlL w bo m cap2 yss) :
    Calls Try.prog 39 #[.slice ao n cap, .slice bo m cap2] w (Says w (.bool (decide (xss = yss)))) := by
  have hbig := h.big
  have hbig2 := g.big
  have hlen := hid h.len
  have glen := hid g.len
  by_cases hnm : n = m
  · subst hnm
    go_enter Try.func39, Try.ntmps39
    go_wp2
    go_loopw [5] (fun i wr => ∃ k : Nat, k ≤ n ∧ i = .int .i64 k ∧ Below w.heap.size w wr ∧ Hid (∀ j, j < k → ell xss j = ell yss j))
      (fun i _ => n - (intOf i).toNat)
    case atStart => exact ⟨0, Nat.zero_le _, rfl, Below.refl _ _, fun j hj => by omega⟩
    case round =>
      obtain ⟨k, hk, rfl, hbr, heq⟩ := hrel
      by_cases hlt : k < n
      · obtain ⟨b, off, rfl, hblt, hc⟩ := (h.later hbr).row (by omega)
        obtain ⟨b2, off2, rfl, hblt2, hc2⟩ := (g.later hbr).row (by omega)
        obtain ⟨a1, c1, hcell, hs1⟩ := hc k hlt
        obtain ⟨a2, c2, hcell2, hs2⟩ := hc2 k hlt
        clear hc hc2
        have hi1 : (k : Int) < n := by omega
        obtain ⟨l1, hl1⟩ : ∃ l, l = (ell xss k).length := ⟨_, rfl⟩
        obtain ⟨l2, hl2⟩ : ∃ l, l = (ell yss k).length := ⟨_, rfl⟩
        rw [← hl1] at hcell hs1
        rw [← hl2] at hcell2 hs2
        clear hl1 hl2
        have hs1h := hid hs1
        have hs2h := hid hs2
        clear hs1 hs2
        by_cases he : ell xss k = ell yss k
        · have He := hid he
          clear he
          go_wp2_with fail
          go_quiet ((go_at_call 25; exact Calls.quiet_of (quiet_to (eqIntSQ_any _ _ _ (ell xss k) _ _ _ (ell yss k) _ (hs1h.out.drewQ _) (hs2h.out.drewQ _)) (decide_eq_true He.out))))
          go_wp2
          go_roundw
          case rel => exact ⟨k + 1, by omega, by go_num, drewN_below hbr _, upto_step heq.out He.out⟩
          case measure => simp [intOf]; omega
        · have He := hid he
          clear he
          go_wp2_with fail
          go_quiet ((go_at_call 25; exact Calls.quiet_of (quiet_to (eqIntSQ_any _ _ _ (ell xss k) _ _ _ (ell yss k) _ (hs1h.out.drewQ _) (hs2h.out.drewQ _)) (decide_eq_false He.out))))
          go_wp2
          go_ret
          exact says_false (fun e => He.out (by rw [e])) (drewN_below hbr _)
      · obtain rfl : k = n := by omega
        go_wp2
        go_ret
        exact says_true (ext_ell (by rw [hlen.out, glen.out]) (fun j hj => heq.out j (by rw [hlen.out] at hj; exact hj))) hbr
  · have hne : ¬ (n : Int) = m := by omega
    go_enter Try.func39, Try.ntmps39
    go_wp2
    go_ret
    exact says_false (fun e => hnm (by rw [← hlen.out, ← glen.out, e])) (Below.refl _ _)

/-- How many numbers the first j lists hold. -/
def pre (yss : List (List Int)) : Nat → Nat
  | 0 => 0
  | j + 1 => pre yss j + (ell yss j).length
def tot (yss : List (List Int)) : Nat := pre yss yss.length
/-- k, k + 1, .. : as many lists of as many numbers. -/
def mkL (k : Int) (yss : List (List Int)) : List (List Int) := (List.range yss.length).map fun j => marks (k + pre yss j) (ell yss j).length
theorem mkL_len (k : Int) (yss : List (List Int)) : (mkL k yss).length = yss.length := by simp [mkL]
theorem ell_mkL {k : Int} {yss : List (List Int)} {j : Nat} (h : j < yss.length) : ell (mkL k yss) j = marks (k + pre yss j) (ell yss j).length := by
  simp [mkL, ell, h]
theorem pre_mono (yss : List (List Int)) (i : Nat) : ∀ d, pre yss i ≤ pre yss (i + d) := by
  intro d
  induction d with
  | zero => exact Nat.le_refl _
  | succ d ih => rw [← Nat.add_assoc, pre]; omega
theorem pre_le {yss : List (List Int)} {i : Nat} (h : i ≤ yss.length) : pre yss i ≤ tot yss := by
  have := pre_mono yss i (yss.length - i)
  rwa [show i + (yss.length - i) = yss.length by omega] at this
theorem len_le {yss : List (List Int)} {j : Nat} (h : j < yss.length) : (ell yss j).length ≤ tot yss := by
  have := pre_le (yss := yss) (i := j + 1) h
  rw [pre] at this; omega
theorem ell_set_same {yss : List (List Int)} {k : Nat} {v : List Int} (h : k < yss.length) : ell (yss.set k v) k = v := by simp [ell, h]
theorem ell_set_ne {yss : List (List Int)} {j k : Nat} {v : List Int} (h : k ≠ j) : ell (yss.set k v) j = ell yss j := by simp [ell, List.getD, h]

/-- One list of the lists, and what becomes of them when it changes. -/
theorem OwnL.upd {w : World} {B C : Nat} {ao : Option Addr} {n cap : Nat} {yss : List (List Int)} (h : OwnL w B C (.slice ao n cap) yss) {j : Nat} (hj : j < yss.length) :
    ∃ b off ai ci, ao = some ⟨b, off, none⟩ ∧ w.cell? ⟨b, off + j, none⟩ = some (.slice ai (ell yss j).length ci) ∧ Own w B (.slice ai (ell yss j).length ci) (ell yss j) ∧
      ∀ w' zs, Own w' B (.slice ai (ell yss j).length ci) zs → w.grownBy w' (Value.slice ai (ell yss j).length ci).ownBlock → OwnL w' B C (.slice ao n cap) (yss.set j zs) ∧ Chg B C w w' := by
  obtain ⟨vs, h1, h2, h3, h4⟩ := h.ex
  have h0 := h1
  have hl : vs.length = yss.length := by rw [h0.1, Nat.mul_one]
  rcases h1.2 with ⟨e1, h5⟩ | ⟨g, cap', cur, e1, hB, hg, h5, h6, h7, h8⟩
  · omega
  · simp only [Value.slice.injEq] at e1
    obtain ⟨rfl, rfl, rfl⟩ := e1
    have hv : vs[j]? = some vs[j] := List.getElem?_eq_getElem (by omega)
    have hc := World.ownsRow.cellAt h0 j (by omega)
    obtain ⟨p, q, r⟩ := h3 j _ hv
    obtain ⟨ai, ci, e, hs⟩ := p.sl
    rw [e] at p q r
    refine ⟨g, 0, ai, ci, rfl, by rw [Nat.zero_add, hc, ← e]; try simp, p, fun w' zs ho hgr => ?_⟩
    have hch : Chg B C w w' := Chg.of_grown hgr (fun k hk => ⟨(p.blocks k hk).1, (q k hk).1⟩)
    refine ⟨⟨h.ge, Nat.le_trans h.le hgr.size, vs, ?_, h2, fun i v hi => ?_, h4⟩, hch⟩
    · rw [List.length_set]
      exact h0.kept hgr (r.symm)
    · by_cases eij : i = j
      · subst eij
        rw [hv] at hi
        obtain rfl := Option.some.inj hi
        rw [ell_set_same (by omega), e]
        exact ⟨ho, q, r⟩
      · obtain ⟨p2, q2, r2⟩ := h3 i v hi
        rw [ell_set_ne (Ne.symm eij)]
        refine ⟨p2.kept hgr ?_, q2, r2⟩
        rcases Nat.lt_or_gt_of_ne eij with hlt | hlt
        · have := h4 i j v _ hlt hi hv
          rw [e] at this; exact this
        · have := h4 j i _ v hlt hv hi
          rw [e] at this; exact this.symm

set_option maxHeartbeats 1000000 in
theorem markIntSS_any (B C : Nat) (ao : Option Addr) (n cap : Nat) (yss : List (List Int)) (k : Int) (w : World) (h : OwnL w B C (.slice ao n cap) yss) (hn : n = yss.length) (hk0 : 0 ≤ k) (hk : k ≤ 2000000) (ht : tot yss ≤ 1000000) (hn2 : n ≤ 1000000) :
    Calls Try.prog 40 #[.slice ao n cap, .int .i64 k] w fun e w' => e = .returned (.int .i64 (k + (tot yss : Nat))) ∧ OwnL w' B C (.slice ao n cap) (mkL k yss) ∧ Chg B C w w' := by
  have Hn := hid hn
  have Ht := hid ht
  clear hn ht
  go_enter Try.func40, Try.ntmps40
  go_wp2
  go_loopw [1, 5] (fun q i wr => ∃ (t : Nat) (zss : List (List Int)), t ≤ n ∧ q = .int .i64 (k + (pre yss t : Nat)) ∧ i = .int .i64 t ∧ OwnL wr B C (.slice ao n cap) zss ∧ Chg B C w wr ∧ Hid (zss.length = n) ∧ Hid (∀ j, j < t → ell zss j = marks (k + pre yss j) (ell yss j).length) ∧ Hid (∀ j, t ≤ j → j < n → ell zss j = ell yss j))
    (fun _ i _ => n - (intOf i).toNat)
  case atStart => exact ⟨0, yss, Nat.zero_le _, by simp [pre], rfl, h, Chg.refl _ _ _, hid Hn.out.symm, fun j hj => by omega, fun j _ _ => rfl⟩
  case round =>
    obtain ⟨t, zss, htn, rfl, rfl, ho, hch, hzl, hz1, hz2⟩ := hrel
    have hpre : pre yss t ≤ 1000000 := Nat.le_trans (pre_le (by rw [← Hn.out]; exact htn)) Ht.out
    by_cases hlt : t < n
    · have hln : (ell yss t).length ≤ 1000000 := Nat.le_trans (len_le (by rw [← Hn.out]; exact hlt)) Ht.out
      obtain ⟨b, off, ai, ci, rfl, hcell, hoj, hup⟩ := ho.upd (j := t) (by rw [hzl.out]; exact hlt)
      have e1 := hz2.out t (Nat.le_refl _) hlt
      rw [e1] at hcell hoj hup
      have Hup := hid hup
      have hi1 : (t : Int) < n := by omega
      clear hup e1
      go_wp2_with fail
      refine (markIntS_any _ B (ell yss t) _ _ hoj (by omega) (by omega) (by omega)).mono ?_
      rintro e w' ⟨rfl, ho', hgr⟩
      obtain ⟨ho2, hc2⟩ := Hup.out w' _ ho' hgr
      clear hcell
      go_wp2
      go_roundw
      case rel =>
        refine ⟨t + 1, zss.set t (marks (k + (pre yss t : Nat)) (ell yss t).length), by omega, by rw [pre]; congr 1; omega, by go_num, ho2, hch.trans hc2, hid (by rw [List.length_set]; exact hzl.out), fun j hj => ?_, fun j hj hjn => ?_⟩
        · by_cases e : j = t
          · rw [e, ell_set_same (by rw [hzl.out]; exact hlt)]
          · rw [ell_set_ne (Ne.symm e)]; exact hz1.out j (by omega)
        · rw [ell_set_ne (by omega)]; exact hz2.out j (by omega) hjn
      case measure => simp [intOf]; omega
    · obtain rfl : t = n := by omega
      have e : zss = mkL k yss := ext_ell (by rw [hzl.out, mkL_len, Hn.out]) (fun j hj => by rw [hzl.out] at hj; rw [hz1.out j hj, ell_mkL (by rw [← Hn.out]; exact hj)])
      rw [e] at ho
      have e2 : Hid (pre yss t = tot yss) := hid (by rw [tot, ← Hn.out])
      clear e
      go_wp2
      go_ret
      exact ⟨ret_eq (by rw [← e2.out]; rfl), ho, hch⟩

set_option maxHeartbeats 1000000 in
theorem heldIntSS_any (ao : Option Addr) (n cap : Nat) (yss zss : List (List Int)) (k : Int) (w : World) (h : SlL w ao n cap zss) (hn : n = yss.length) (hk0 : 0 ≤ k) (hk : k ≤ 2000000) (ht : tot yss ≤ 1000000) (hn2 : n ≤ 1000000) (hm : Hid (zss = mkL k yss)) :
    Calls Try.prog 41 #[.slice ao n cap, .int .i64 k] w (Says w (.int .i64 (k + (tot yss : Nat)))) := by
  have Hn := hid hn
  have Ht := hid ht
  clear hn ht
  go_enter Try.func41, Try.ntmps41
  go_wp2
  go_loopw [1, 5] (fun q i wr => ∃ (t : Nat), t ≤ n ∧ q = .int .i64 (k + (pre yss t : Nat)) ∧ i = .int .i64 t ∧ Below w.heap.size w wr)
    (fun _ i _ => n - (intOf i).toNat)
  case atStart => exact ⟨0, Nat.zero_le _, by simp [pre], rfl, Below.refl _ _⟩
  case round =>
    obtain ⟨t, htn, rfl, rfl, hbr⟩ := hrel
    have hpre : pre yss t ≤ 1000000 := Nat.le_trans (pre_le (by rw [← Hn.out]; exact htn)) Ht.out
    by_cases hlt : t < n
    · have hln : (ell yss t).length ≤ 1000000 := Nat.le_trans (len_le (by rw [← Hn.out]; exact hlt)) Ht.out
      obtain ⟨b, off, rfl, hblt, hc⟩ := (h.later hbr).row (by omega)
      obtain ⟨a1, c1, hcell, hs1⟩ := hc t hlt
      have e1 : ell zss t = marks (k + pre yss t) (ell yss t).length := by rw [hm.out, ell_mkL (by rw [← Hn.out]; exact hlt)]
      rw [e1, marks_len] at hcell
      rw [e1, marks_len] at hs1
      have hi1 : (t : Int) < n := by omega
      clear hc e1
      have hs1h := hid hs1
      clear hs1
      go_wp2_with fail
      refine (heldIntS_any _ _ _ _ _ _ hs1h.out (by omega) (by omega) (by omega) (hid rfl)).mono ?_
      rintro e w' ⟨rfl, bw⟩
      have hb2 := hbr.trans (bw.mono hbr.size)
      clear hcell
      go_wp2
      go_roundw
      case rel => exact ⟨t + 1, by omega, by rw [pre]; congr 1; omega, by go_num, hb2⟩
      case measure => simp [intOf]; omega
    · obtain rfl : t = n := by omega
      have e2 : Hid (pre yss t = tot yss) := hid (by rw [tot, ← Hn.out])
      go_wp2
      go_ret
      exact says_int (by rw [← e2.out]) hbr

end Go.Proofs.Ytjphaphnmclbcaa
