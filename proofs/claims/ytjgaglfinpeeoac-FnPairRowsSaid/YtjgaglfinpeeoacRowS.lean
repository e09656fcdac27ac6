/- The tally of numbers, and how many orders have each number of a name, in the program and in the model. Condition: the list's cells can be read. -/
import Derived.Test.YtjgaglfinpeeoacNumB
import Derived.Test.YtjgaglfinpeeoacNum
import Derived.Test.YtjgaglfinpeeoacBnd
import Derived.Test.YtjgaglfinpeeoacCof
import Derived.Test.YtjgaglfinpeeoacAlls
namespace Go.Proofs.Ytjgaglfinpeeoac
open Go.RowKit

set_option maxHeartbeats 1000000 in
theorem maxJ_any (ao : Option Addr) (n cap : Nat) (xs : List Int) (w : World) (h : Sl w ao n cap xs) (h0 : 0 < n) (h7 : n ≤ 1000) :
    Calls Try.prog 55 #[.slice ao n cap] w (fun e w' => e = .returned (.int .i64 (mxJ xs (n - 1))) ∧ w = w') := by
  have hlen := hid h.len
  obtain ⟨b, off, rfl, hblt, hc⟩ := h.row h0
  have hcc := hid hc
  have hc0 := hc 0 h0
  rw [Nat.add_zero] at hc0
  have hn1 : ¬ (n : Int) < 1 := by omega
  have hn2 : (0 : Int) < n := by omega
  have hn3 : (1 : Int) ≤ n := by omega
  clear hc
  go_enter Try.func55, Try.ntmps55
  go_wp2
  go_loopw [3, 4] (fun v i wr => ∃ (k : Nat), k + 1 ≤ n ∧ v = .int .i64 (mxJ xs k) ∧ i = .int .i64 ((k + 1 : Nat) : Int) ∧ w = wr)
    (fun _ i _ => n - (intOf i).toNat)
  case atStart => exact ⟨0, by omega, rfl, rfl, rfl⟩
  case round =>
    obtain ⟨k, hk, rfl, rfl, rfl⟩ := hrel
    by_cases hlt : k + 1 < n
    · have hi1 : (k : Int) + 1 < n := by omega
      have hi2 : 0 ≤ (k : Int) + 1 := by omega
      have hi3 : ((k : Int) + 1).toNat = k + 1 := by omega
      have hcell := hcc.out (k + 1) hlt
      by_cases he : mxJ xs k < el xs (k + 1)
      · have E1 : Hid (mxJ xs (k + 1) = el xs (k + 1)) := hid (by rw [mxJ, if_pos he])
        go_wp2
        go_roundw
        case rel => exact ⟨k + 1, by omega, by rw [E1.out], by go_num, trivial⟩
        case measure => simp [intOf]; omega
      · have E1 : Hid (mxJ xs (k + 1) = mxJ xs k) := hid (by rw [mxJ, if_neg he])
        have he' : el xs (k + 1) ≤ mxJ xs k := by omega
        go_wp2
        go_roundw
        case rel => exact ⟨k + 1, by omega, by rw [E1.out], by go_num, trivial⟩
        case measure => simp [intOf]; omega
    · obtain rfl : n = k + 1 := by omega
      go_wp2
      go_ret
      exact ⟨rfl, rfl⟩

set_option maxHeartbeats 4000000 in
theorem rowI_yes (s : ByteArray) (k m : Nat) (w : World) (hk : k = ixOf s) (h9 : k < 9) (hm : m ≤ 5) :
    Calls Try.prog 34 #[.string s, .int .i64 m] w (Made2 w (tal (numK k m)) true) := by
  have hf := facN_pos m (by omega)
  have Hnum := numI_yes s k m w hk h9 hm
  have Hb := hid (numK_bd h9 hm)
  clear hk h9 hm
  obtain ⟨F, hF⟩ : ∃ F, F = facN m := ⟨_, rfl⟩
  have hl : (numK k m).length = F := by rw [numK_len, hF]
  rw [← hF] at hf
  obtain ⟨l, hL⟩ : ∃ l, l = numK k m := ⟨_, rfl⟩
  rw [← hL] at hl Hb Hnum ⊢
  have hlen := hid hl
  have e : Hid (mxJ l (F - 1) + 1 = ((mxK l F : Nat) : Int)) := hid (by have := mxJ_mxK Hb.out (F - 1); rw [this, Nat.sub_add_cancel hf.1])
  obtain ⟨N, hN⟩ : ∃ N : Nat, mxJ l (F - 1) = (N : Int) := ⟨(mxJ l (F - 1)).toNat, by
    have h1 := mxK_gt (l := l) F 0 (by omega)
    have := e.out
    omega⟩
  have HN : Hid (mxK l F = N + 1) := hid (by have := e.out; omega)
  have hN1 : N ≤ 100 := by have := mxK_le Hb.out F; have := HN.out; omega
  have hF1 := hf.1
  have hF2 := hf.2
  have Htal : Hid (tal l = cntL (N + 1) l) := hid (by rw [tal, hl, HN.out])
  have Hgt : Hid (∀ j, j < F → (el l j).toNat < N + 1) := hid (fun j hj => by have := mxK_gt (l := l) F j hj; rw [HN.out] at this; exact this)
  clear hf hF hL e HN
  go_enter Try.func34, Try.ntmps34
  go_wp2_with fail
  refine Hnum.mono ?_
  rintro e w1 ⟨u1, rfl, o1, b1⟩
  obtain ⟨a1, c1, rfl, s1⟩ := o1.sl
  rw [hl] at s1 ⊢
  clear o1 hl Hnum
  go_wp2_with fail
  refine (maxJ_any _ _ _ l _ s1 (by omega) (by omega)).mono ?_
  rintro e w' ⟨rfl, hww⟩
  subst hww
  rw [hN]
  clear hN
  go_wp2_with (at_make; refine make_ints _ rfl _ _ rfl _ _ (N + 1) rfl rfl (by omega) (by omega) (by omega) ?_)
  intro w2 ho2 hb2
  obtain ⟨b, off, rfl, hblt, hc⟩ := s1.row (by omega)
  have hcc := hid hc
  clear hc
  rw [← cntL_nil] at ho2
  go_wp2
  go_loopw [25] (fun i wr => ∃ (j : Nat), j ≤ F ∧ i = .int .i64 j ∧ Below w1.heap.size w1 wr ∧ OwS wr w1.heap.size w1.heap.size (N + 1) (N + 1) (cntL (N + 1) (l.take j)))
    (fun i _ => F - (intOf i).toNat)
  case atStart => exact ⟨0, Nat.zero_le _, rfl, hb2, ho2⟩
  case round =>
    obtain ⟨j, hj, rfl, hbr, hs⟩ := hrel
    by_cases hlt : j < F
    · have hi1 : (j : Int) < F := by omega
      have hcell := (hbr.cell (p := ⟨b, off + j, none⟩) hblt).trans (hcc.out j hlt)
      obtain ⟨v, hv⟩ : ∃ v : Nat, el l j = (v : Int) := ⟨(el l j).toNat, by have := Hb.out j; omega⟩
      have hvN : v ≤ N := by have := Hgt.out j hlt; omega
      rw [hv] at hcell
      have Hl : Hid (l.take (j + 1) = l.take j ++ [(v : Int)]) := hid (by rw [← hv, take_el (by rw [hlen.out]; exact hlt)])
      have Hll : Hid ((l.take j).length ≤ 1000) := hid (by rw [List.length_take]; omega)
      obtain ⟨r, hr⟩ : ∃ r, r = l.take j := ⟨_, rfl⟩
      rw [← hr] at hs Hl Hll
      have hcc := hs.cell (j := v) (by omega)
      rw [el_cntL (by omega)] at hcc
      have hcl : r.count (v : Int) ≤ 1000 := Nat.le_trans List.count_le_length Hll.out
      obtain ⟨c, hc⟩ : ∃ c : Nat, c = r.count (v : Int) := ⟨_, rfl⟩
      rw [← hc] at hcc hcl
      have hfr := hs.frozen v
      have hs2 := hs.set v ((c : Int) + 1)
      have Hset : Hid ((cntL (N + 1) r).set v ((c : Int) + 1) = cntL (N + 1) (r ++ [(v : Int)])) := hid (by rw [hc]; exact cntL_bump (by omega))
      have hvL : (v : Int) < (N : Int) + 1 := by omega
      have hc0 : (c : Int) ≤ 1000 := by omega
      have HC : Hid (OwS (wr.setCell ⟨w1.heap.size, v, none⟩ (.int .i64 ((c : Int) + 1))) w1.heap.size w1.heap.size (N + 1) (N + 1) (cntL (N + 1) (l.take (j + 1)))) := hid (by rw [Hl.out, ← Hset.out]; exact hs2)
      clear hc hv hr hs2 Hset hs
      go_wp2
      go_roundw
      case rel => exact ⟨j + 1, by omega, by go_num, hbr.setCell (Nat.le_refl _) _, HC.out⟩
      case measure => simp [intOf]; omega
    · obtain rfl : j = F := by omega
      have ho5 : Own wr w1.heap.size (.slice (some ⟨w1.heap.size, 0, none⟩) (N + 1) (N + 1)) (tal l) := by
        rw [List.take_of_length_le (by rw [hlen.out]; exact Nat.le_refl _)] at hs
        rw [Htal.out]
        exact hs.own
      have Ho := hid (ho5.mono b1.size)
      clear ho5 hs
      go_wp2
      go_ret2
      exact ⟨_, rfl, Ho.out, b1.trans (hbr.mono b1.size)⟩

set_option maxHeartbeats 1000000 in
theorem rowI_no (s : ByteArray) (m : Int) (w : World) (h : ¬ (ixOf s < 9 ∧ 0 ≤ m ∧ m ≤ 5)) :
    Calls Try.prog 34 #[.string s, .int .i64 m] w (Made2 w [] false) := by
  go_enter Try.func34, Try.ntmps34
  go_wp2_with fail
  refine (numI_no s m w h).mono ?_
  rintro e w1 ⟨u1, rfl, o1, b1⟩
  go_wp2
  go_ret2
  exact ⟨_, rfl, Own.nil, b1⟩

def slN : Value → Nat
  | .slice _ n _ => n
  | _ => 0

set_option maxRecDepth 20000 in
set_option maxHeartbeats 4000000 in
theorem tallyS_any (ao : Option Addr) (n cap : Nat) (xs : List Int) (w : World) (h : Sl w ao n cap xs) (hb : Hid (∀ j, 0 ≤ el xs j ∧ el xs j ≤ 100)) (hn : n ≤ 1000) :
    Calls Try.prog 49 #[.slice ao n cap] w (Made w (tal xs)) := by
  have hlen := hid h.len
  go_enter Try.func49, Try.ntmps49
  go_wp2
  go_loopw [3, 4] (fun v i wr => ∃ (k : Nat) (ao' : Option Addr) (cap' : Nat), k ≤ n ∧ v = .slice ao' (mxK xs k) cap' ∧ i = .int .i64 k ∧ Below w.heap.size w wr ∧ Own wr w.heap.size (.slice ao' (mxK xs k) cap') (cntL (mxK xs k) (xs.take k)))
    (fun _ i _ => n - (intOf i).toNat)
  case atStart => exact ⟨0, _, _, Nat.zero_le _, rfl, rfl, (Below.refl _ _).alloc (Nat.le_refl _) _, own_lit w⟩
  case round =>
    obtain ⟨k, ao', cap', hk, rfl, rfl, hbr, ho⟩ := hrel
    have hsz := hbr.size
    by_cases hlt : k < n
    · have hi1 : (k : Int) < n := by omega
      obtain ⟨b, off, rfl, hblt, hc⟩ := h.row (by omega)
      obtain ⟨v, hv⟩ : ∃ v : Nat, el xs k = (v : Int) := ⟨(el xs k).toNat, by have := hb.out k; omega⟩
      have hv100 : v ≤ 100 := by have := hb.out k; omega
      have hck := hc k hlt
      rw [hv] at hck
      have Hmk := hid (mxK_le hb.out k)
      have Hm1 : Hid (mxK xs (k + 1) = max (mxK xs k) (v + 1)) := hid (by rw [mxK, hv]; rfl)
      have Hin : Hid (∀ x ∈ xs.take k, x < ((mxK xs k : Nat) : Int)) := hid (mxK_mem hb.out k)
      have Hll : Hid ((xs.take k).length ≤ 1000) := hid (by rw [List.length_take]; omega)
      obtain ⟨m, hm⟩ : ∃ m, m = mxK xs k := ⟨_, rfl⟩
      rw [← hm] at Hmk Hm1 Hin ho ⊢
      obtain ⟨l, hl⟩ : ∃ l, l = xs.take k := ⟨_, rfl⟩
      rw [← hl] at ho Hin Hll
      have Hl : Hid (xs.take (k + 1) = l ++ [(v : Int)]) := hid (by rw [hl, ← hv, take_el (by rw [hlen.out]; exact hlt)])
      clear hc hm hl hv
      go_wp2
      go_loopw [3] (fun v' wq => ∃ (L : Nat) (ao' : Option Addr) (cap' : Nat), m ≤ L ∧ (L ≤ m ∨ L ≤ v + 1) ∧ v' = .slice ao' L cap' ∧ Below w.heap.size w wq ∧ Own wq w.heap.size (.slice ao' L cap') (cntL L l))
        (fun v' _ => 200 - slN v')
      case atStart => exact ⟨m, _, _, Nat.le_refl _, Or.inl (Nat.le_refl _), rfl, hbr, ho⟩
      case round =>
        obtain ⟨L, ao2, cap2, hmL, hLv, rfl, hbq, ho2⟩ := hrel
        have hcell := (hbq.cell (p := ⟨b, off + k, none⟩) hblt).trans hck
        have hL1 : L ≤ 101 := by have := Hmk.out; omega
        have hszq := hbq.size
        by_cases hLt : L ≤ v
        · have hLi : (L : Int) ≤ v := by omega
          have hll : (cntL L l).length ≤ 2000000 := by rw [cntL_len]; omega
          have He := hid (cntL_grow (l := l) (L := L) (fun x hx => by have := Hin.out x hx; omega))
          go_wp2_with (at_builtin; refine app_int _ _ rfl _ _ rfl w.heap.size _ _ rfl ho2 rfl hll hszq ?_)
          intro u' w' ho' hg'
          have hb' := below_app hbq ho2 hg'
          rw [He.out] at ho'
          obtain ⟨ao5, cp5, rfl, -⟩ := ho'.sl
          rw [cntL_len] at ho' ⊢
          clear ho2 hg' hbq hcell
          go_wp2
          go_roundw
          case rel => exact ⟨L + 1, _, _, by omega, by omega, rfl, hb', ho'⟩
          case measure => simp [slN]; omega
        · have hLi : ¬ (L : Int) ≤ v := by omega
          have E : Hid (mxK xs (k + 1) = L) := hid (by have := Hm1.out; omega)
          rcases ho2.place with ⟨e1, e2⟩ | ⟨g, cp, e1, hs⟩
          · have := cntL_len L l
            rw [e2] at this
            simp at this
            omega
          · rw [cntL_len] at e1 hs
            simp only [Value.slice.injEq, true_and] at e1
            obtain ⟨rfl, rfl⟩ := e1
            have hcc := hs.cell (j := v) (by omega)
            rw [el_cntL (by omega)] at hcc
            have hcl : l.count (v : Int) ≤ 1000 := Nat.le_trans List.count_le_length Hll.out
            obtain ⟨c, hc⟩ : ∃ c : Nat, c = l.count (v : Int) := ⟨_, rfl⟩
            rw [← hc] at hcc hcl
            have hfr := hs.frozen v
            have hs2 := hs.set v ((c : Int) + 1)
            have Hset : Hid ((cntL L l).set v ((c : Int) + 1) = cntL L (l ++ [(v : Int)])) := hid (by rw [hc]; exact cntL_bump (by omega))
            have hvL : (v : Int) < L := by omega
            have hc0 : (c : Int) ≤ 1000 := by omega
            have hgB := hs.lt.1
            clear hc
            go_wp2_with fail
            refine wp_region_still_tail 14 (by kernel_rfl) (by kernel_rfl) ?_
            simp only [List.take_succ_cons, List.take_zero, List.drop_succ_cons, List.drop_zero]
            change wpStill _ _ (World.drew _) _ _ _
            repeat still_step
            refine wpStill_nil ?_
            change wpList _ _ _ _ _ (World.drew _)
            go_wp2
            go_roundw
            case rel =>
              refine ⟨k + 1, some ⟨g, 0, none⟩, cap2, by omega, by rw [E.out], by go_num, drewN_below (hbq.setCell hgB _) 1, ?_⟩
              rw [E.out, Hl.out, ← Hset.out]
              exact (hs2.drewN 1).own
            case measure => simp [intOf]; omega
    · obtain rfl : k = n := by omega
      go_wp2
      go_ret
      refine ⟨_, rfl, ?_, hbr⟩
      rw [tal, hlen.out]
      rw [List.take_of_length_le (by rw [hlen.out]; exact Nat.le_refl _)] at ho
      exact ho

theorem valid_nil : Valid [] := by decide

set_option maxRecDepth 20000 in
set_option maxHeartbeats 4000000 in
theorem rowS_yes (s : ByteArray) (k m : Nat) (w : World) (hk : k = ixOf s) (h9 : k < 9) (hm : m ≤ 5) :
    Calls Try.prog 58 #[.string s, .int .i64 m] w (Made2 w (tal (numK k m)) true) := by
  have hf1 := (facN_pos m (by omega)).2
  have Hb := hid (numK_bd h9 hm)
  have Hk := hid hk
  clear hk
  go_enter Try.func58, Try.ntmps58
  go_wp2_with fail
  refine (countS0_any s _ _ _ [] _ (own_lit w).read (hid valid_nil)).mono ?_
  rintro e w1 ⟨rfl, b1⟩
  rw [← Hk.out, decide_eq_true h9]
  go_wp2_with fail
  refine (inR_any _ _ _ _).mono ?_
  rintro e w' ⟨rfl, hww⟩
  subst hww
  rw [show decide ((0 : Int) ≤ m ∧ (m : Int) ≤ 5) = true by simp; omega]
  have bw1 : Below w.heap.size w w1 := ((Below.refl w.heap.size w).alloc (Nat.le_refl _) _).trans (b1.mono (by simp))
  have Ho0 := hid (own_lit w1)
  have hsz : Hid ((w1.alloc (.cells #[] 3)).heap.size = w1.heap.size + 1) := hid (by simp)
  clear b1
  go_wp2_with fail
  refine (allS0_any m _ hm).mono ?_
  rintro e w2 ⟨u2, rfl, o2, b2⟩
  have ho2 := Ho0.out.below (Nat.le_refl _) b2
  have hs1 := bw1.size
  have bw2 : Below w.heap.size w w2 := (bw1.alloc hs1 _).trans (b2.mono (by rw [hsz.out]; omega))
  rw [hsz.out] at o2
  have hs2 : w1.heap.size + 1 ≤ w2.heap.size := by have := b2.size; rw [hsz.out] at this; exact this
  clear b2 hsz Ho0 bw1
  obtain ⟨ad2, cp2, rfl, -⟩ := o2.sl
  rw [allK_len] at o2 ⊢
  have HO2 := hid o2
  clear o2
  obtain ⟨p, hp⟩ : ∃ p, p = w1.heap.size := ⟨_, rfl⟩
  rw [← hp] at ho2 HO2 hs1 hs2 ⊢
  clear hp
  go_wp2
  go_loopw [8, 10] (fun v i wr => ∃ (j : Nat) (ao' : Option Addr) (cap' : Nat), j ≤ facN m ∧ v = .slice ao' j cap' ∧ i = .int .i64 j ∧ Hid (Chg p (p + 1) w2 wr) ∧ Own wr p (.slice ao' j cap') ((numK k m).take j) ∧ Hid (∀ q, (Value.slice ao' j cap').ownBlock = some q → q < p + 1 ∨ w2.heap.size ≤ q))
    (fun _ i _ => facN m - (intOf i).toNat)
  case atStart => exact ⟨0, _, _, Nat.zero_le _, rfl, rfl, hid (Chg.refl _ _ _), ho2, hid (fun q hq => by simp [Value.ownBlock] at hq; omega)⟩
  case round =>
    clear ho2
    obtain ⟨j, ao', cap', hj, rfl, rfl, HC, ho, HQ⟩ := hrel
    have hch := HC.out
    have hszr := hch.size
    by_cases hlt : j < facN m
    · have hji : (j : Int) < (facN m : Int) := by omega
      obtain ⟨b', off, rfl, hblt, hc⟩ := (ownL_read (HO2.out.chg hch (Or.inr (Nat.le_refl _)))).row (by omega)
      obtain ⟨ai, ci, hcell, hsi⟩ := hc j hlt
      rw [ell_allK hlt, ordK_len] at hcell hsi
      have hl : ((numK k m).take j).length ≤ 2000000 := by rw [List.length_take]; omega
      have Ht : Hid ((numK k m).take (j + 1) = (numK k m).take j ++ [valN (ordK m j) k]) := hid (take_numK hlt)
      have Hhc := hid hch
      clear hc hch
      go_wp2_with fail
      refine (countS0_any s _ _ _ (ordK m j) _ hsi (hid (ordK_valid (by omega) j))).mono ?_
      rintro e w5 ⟨rfl, b5⟩
      rw [← Hk.out]
      have ho5 := ho.below (Nat.le_refl _) b5
      have hc5 := Hhc.out.trans (Chg.of_below (lo := p) (hi := p + 1) b5)
      have hs5 : p ≤ w5.heap.size := by have := b5.size; omega
      have hl2 : w2.heap.size ≤ w5.heap.size := hc5.size
      have Hc5 := hid hc5
      clear hcell hsi hc5 b5
      go_wp2_with (at_builtin; refine app_int2 _ _ rfl _ _ rfl p _ _ rfl ho5 rfl hl hs5 ?_)
      intro u' w' ho' hg' hk'
      have HC' := hid (chg_app Hc5.out hg' (fun q hq => by have h1 := HQ.out q hq; have h2 := (ho5.blocks q hq).1; omega))
      rw [← Ht.out] at ho'
      obtain ⟨ao5, cp5, rfl, -⟩ := ho'.sl
      have hlt' : ((numK k m).take (j + 1)).length = j + 1 := by rw [List.length_take, numK_len]; omega
      rw [hlt'] at ho' hk' ⊢
      have HQ' : Hid (∀ q, (Value.slice ao5 (j + 1) cp5).ownBlock = some q → q < p + 1 ∨ w2.heap.size ≤ q) := hid (fun q hq => by
        rcases hk' with e | e
        · exact HQ.out q (e ▸ hq)
        · rw [e] at hq; have := Option.some.inj hq; omega)
      clear hlt' hk' hg' ho5 Hc5
      go_wp2
      go_roundw
      case rel => exact ⟨j + 1, _, _, by omega, rfl, by go_num, HC', ho', HQ'⟩
      case measure => simp [intOf]; omega
    · obtain rfl : j = facN m := by omega
      rw [List.take_of_length_le (by rw [numK_len]; exact Nat.le_refl _)] at ho
      have hbr := hch.below bw2 (by omega) bw2.size
      have Ho2 := hid ho
      clear ho
      go_wp2_with fail
      refine (tallyS_any _ _ _ (numK k m) _ Ho2.out.read Hb (by omega)).mono ?_
      rintro e w6 ⟨u6, rfl, o6, b6⟩
      have Ho6 := hid (o6.mono hbr.size)
      have hb6 := hbr.trans (b6.mono hbr.size)
      clear o6 b6
      go_wp2
      go_ret2
      exact ⟨_, rfl, Ho6.out, hb6⟩

set_option maxRecDepth 20000 in
set_option maxHeartbeats 2000000 in
theorem rowS_no (s : ByteArray) (m : Int) (w : World) (h : ¬ (ixOf s < 9 ∧ 0 ≤ m ∧ m ≤ 5)) :
    Calls Try.prog 58 #[.string s, .int .i64 m] w (Made2 w [] false) := by
  by_cases h9 : ixOf s < 9
  · go_enter Try.func58, Try.ntmps58
    go_wp2_with fail
    refine (countS0_any s _ _ _ [] _ (own_lit w).read (hid valid_nil)).mono ?_
    rintro e w1 ⟨rfl, b1⟩
    rw [decide_eq_true h9]
    go_wp2_with fail
    refine (inR_any _ _ _ _).mono ?_
    rintro e w' ⟨rfl, hww⟩
    subst hww
    rw [show decide ((0 : Int) ≤ m ∧ (m : Int) ≤ 5) = false by simp; omega]
    go_wp2
    go_ret2
    exact ⟨_, rfl, Own.nil, ((Below.refl w.heap.size w).alloc (Nat.le_refl _) _).trans (b1.mono (by simp))⟩
  · go_enter Try.func58, Try.ntmps58
    go_wp2_with fail
    refine (countS0_any s _ _ _ [] _ (own_lit w).read (hid valid_nil)).mono ?_
    rintro e w1 ⟨rfl, b1⟩
    rw [decide_eq_false h9]
    go_wp2
    go_ret2
    exact ⟨_, rfl, Own.nil, ((Below.refl w.heap.size w).alloc (Nat.le_refl _) _).trans (b1.mono (by simp))⟩

end Go.Proofs.Ytjgaglfinpeeoac
