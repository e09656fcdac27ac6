/- The rows of two names, in the model. No condition. -/
import Derived.Test.YtjgaglfinpeeoacPri
import Derived.Test.YtjgaglfinpeeoacAsg
import Derived.StillTailTactics
namespace Go.Proofs.Ytjgaglfinpeeoac
open Go.RowKit

theorem OwnLp.upd {q : Nat → Prop} {w : World} {B C : Nat} {ao : Option Addr} {n cap : Nat} {yss : List (List Int)} (h : OwnLp q w B C (.slice ao n cap) yss) {j : Nat} (hj : j < yss.length) :
    ∃ b off ai ci, ao = some ⟨b, off, none⟩ ∧ w.cell? ⟨b, off + j, none⟩ = some (.slice ai (ell yss j).length ci) ∧ Own w B (.slice ai (ell yss j).length ci) (ell yss j) ∧ (∀ k, (Value.slice ai (ell yss j).length ci).ownBlock = some k → k < C ∧ ¬ q k) ∧
      ∀ w' zs, Own w' B (.slice ai (ell yss j).length ci) zs → w.grownBy w' (Value.slice ai (ell yss j).length ci).ownBlock → OwnLp q w' B C (.slice ao n cap) (yss.set j zs) := by
  obtain ⟨vs, h1, h2, h3, h4⟩ := h.ex
  have h0 := h1
  have hl : vs.length = yss.length := by rw [h0.1, Nat.mul_one]
  rcases h1.2 with ⟨e1, h5⟩ | ⟨g, cap', cur, e1, hB, hg, h5, h6, h7, h8⟩
  · omega
  · simp only [Value.slice.injEq] at e1
    obtain ⟨rfl, rfl, rfl⟩ := e1
    have hv : vs[j]? = some vs[j] := List.getElem?_eq_getElem (by omega)
    have hc := World.ownsRow.cellAt h0 j (by omega)
    obtain ⟨p, q', r⟩ := h3 j _ hv
    obtain ⟨ai, ci, e, hs⟩ := p.sl
    rw [e] at p q' r
    refine ⟨g, 0, ai, ci, rfl, by rw [Nat.zero_add, hc, ← e]; try simp, p, q', fun w' zs ho hgr => ?_⟩
    refine ⟨h.ge, Nat.le_trans h.le hgr.size, vs, ?_, h2, fun i v hi => ?_, h4⟩
    · rw [List.length_set]
      exact h0.kept hgr (r.symm)
    · by_cases eij : i = j
      · subst eij
        rw [hv] at hi
        obtain rfl := Option.some.inj hi
        rw [ell_set_same (by omega), e]
        exact ⟨ho, q', r⟩
      · obtain ⟨p2, q2, r2⟩ := h3 i v hi
        rw [ell_set_ne (Ne.symm eij)]
        refine ⟨p2.kept hgr ?_, q2, r2⟩
        rcases Nat.lt_or_gt_of_ne eij with hlt | hlt
        · have := h4 i j v _ hlt hi hv
          rw [e] at this; exact this
        · have := h4 j i _ v hlt hv hi
          rw [e] at this; exact this.symm
theorem rep_snoc {α : Type} (x : Nat) (v : α) : List.replicate x v ++ [v] = List.replicate (x + 1) v := by
  rw [List.replicate_succ']

set_option maxRecDepth 20000 in
set_option maxHeartbeats 8000000 in
theorem prtS_yes (s t : ByteArray) (a b m : Nat) (w : World) (ha : a = ixOf s) (hb : b = ixOf t) (ha9 : a < 9) (hb9 : b < 9) (hm : m ≤ 5) :
    Calls Try.prog 33 #[.string s, .string t, .int .i64 m] w (MadeL2 w (prow a b m) true) := by
  have hf := facN_pos m (by omega)
  have Hr1 := hid (fun w => rowS_yes s a m w ha ha9 hm)
  have Hr2 := hid (fun w => rowS_yes t b m w hb hb9 hm)
  have Ha := hid ha
  have Hb := hid hb
  obtain ⟨F, hF⟩ : ∃ F, F = facN m := ⟨_, rfl⟩
  have Hv1 : Hid (∀ j, j < F → ∃ v : Nat, valN (ordK m j) a = (v : Int) ∧ v < mxN a m ∧ v ≤ 100) := hid (fun j hj => by rw [← el_numK (by rw [← hF]; exact hj)]; exact numK_lt ha9 hm (by rw [← hF]; exact hj))
  have Hv2 : Hid (∀ j, j < F → ∃ v : Nat, valN (ordK m j) b = (v : Int) ∧ v < mxN b m ∧ v ≤ 100) := hid (fun j hj => by rw [← el_numK (by rw [← hF]; exact hj)]; exact numK_lt hb9 hm (by rw [← hF]; exact hj))
  have Hln1 := hid (tal_numK_len a m)
  have Hln2 := hid (tal_numK_len b m)
  obtain ⟨L, hL⟩ : ∃ L, mxN a m = L := ⟨_, rfl⟩
  obtain ⟨M, hM⟩ : ∃ M, mxN b m = M := ⟨_, rfl⟩
  have hL100 : L ≤ 101 := by have := mxN_le ha9 hm; omega
  have hM100 : M ≤ 101 := by have := mxN_le hb9 hm; omega
  have Hp : Hid (prow a b m = rowsP L M (pz a b m)) := hid (by rw [prow, hL, hM])
  rw [hL] at Hv1 Hln1
  rw [hM] at Hv2 Hln2
  have Htk : Hid (∀ j, j < F → (pz a b m).take (j + 1) = (pz a b m).take j ++ [(valN (ordK m j) a, valN (ordK m j) b)]) := hid (fun j hj => by
    have hj' : j < facN m := by rw [← hF]; exact hj
    rw [take_pz hj', el_numK hj', el_numK hj'])
  have Hlp : Hid ((pz a b m).length = F) := hid (by rw [pz_len, hF])
  have Hval : Hid (∀ j, Valid (ordK m j)) := hid (fun j => ordK_valid (by omega) j)
  have HF := hid hF
  have hF2 : F ≤ 1000 := by omega
  have hmi : decide ((0 : Int) ≤ m ∧ (m : Int) ≤ 5) = true := by simp; omega
  have Hm5 := hid hm
  generalize pz a b m = pp at *
  generalize prow a b m = res at *
  generalize tal (numK a m) = l1 at *
  generalize tal (numK b m) = l2 at *
  clear hf hF hL hM ha hb hm
  go_enter Try.func33, Try.ntmps33
  go_wp2_with fail
  refine (countS0_any s _ _ _ [] _ (own_lit w).read (hid valid_nil)).mono ?_
  rintro e w1 ⟨rfl, b1⟩
  rw [← Ha.out, decide_eq_true ha9]
  have t1 : Below w.heap.size w w1 := ((Below.refl w.heap.size w).alloc (Nat.le_refl _) _).trans (b1.mono (by simp))
  clear b1
  go_wp2_with fail
  refine (countS0_any t _ _ _ [] _ (own_lit w1).read (hid valid_nil)).mono ?_
  rintro e w2 ⟨rfl, b2⟩
  rw [← Hb.out, decide_eq_true hb9]
  have t2 : Below w.heap.size w w2 := (t1.alloc t1.size _).trans (b2.mono (by have := t1.size; simp; omega))
  clear b2 t1
  go_wp2_with fail
  refine (inR_any _ _ _ _).mono ?_
  rintro e w' ⟨rfl, hww⟩
  subst hww
  rw [hmi]
  have hO0 := fun q (hq : ¬ q w2.heap.size) => ownLp_lit (w := w2) (B := w.heap.size) (q := q) t2.size hq
  have HO0 := hid hO0
  have t3 : Below w.heap.size w (w2.alloc (.cells #[] 28)) := t2.alloc t2.size _
  have hsp := t2.size
  clear hO0 t2
  go_wp2_with fail
  refine (allS0_any m _ Hm5.out).mono ?_
  rintro e w4 ⟨u4, rfl, o4, b4⟩
  have hs4 : w2.heap.size + 1 ≤ w4.heap.size := by have := b4.size; simp at this; exact this
  obtain ⟨ad4, cp4, rfl, -⟩ := o4.sl
  rw [allK_len, ← HF.out] at o4 ⊢
  simp only [World.size_alloc] at o4
  go_wp2_with fail
  refine (Hr1.out _).mono ?_
  rintro e w5 ⟨u5, rfl, o5, b5⟩
  obtain ⟨ad5, cp5, rfl, s5⟩ := o5.sl
  rw [Hln1.out] at s5 ⊢
  have o4 := o4.later b5
  go_wp2_with fail
  refine (Hr2.out _).mono ?_
  rintro e w6 ⟨u6, rfl, o6, b6⟩
  obtain ⟨ad6, cp6, rfl, s6⟩ := o6.sl
  rw [Hln2.out] at s6 ⊢
  have o4 := o4.later b6
  have t6 : Below w.heap.size w w6 := t3.trans (((b4.trans (b5.mono b4.size)).trans (b6.mono (by have := b4.size; have := b5.size; omega))).mono (by have := t3.size; exact this))
  have hs6 : w4.heap.size ≤ w6.heap.size := by have := b5.size; have := b6.size; omega
  obtain ⟨q, hq⟩ : ∃ q, q = winQ (w2.heap.size + 1) w6.heap.size := ⟨_, rfl⟩
  have HO6 : Hid (OwnLp q w6 w.heap.size w6.heap.size (.slice (some ⟨w2.heap.size, 0, none⟩) 0 0) []) := hid (((((HO0.out q (by rw [hq]; unfold winQ; omega)).later b4).now.later b5).now.later b6).now)
  have Ho4 := hid o4
  have Hq := hid hq
  clear o4 o5 o6 s5 s6 b4 b5 b6 t3 HO0 hq
  go_wp2
  go_loopw [12, 18] (fun v i wr => ∃ (x : Nat) (ao' : Option Addr) (cap' : Nat), x ≤ L ∧ v = .slice ao' x cap' ∧ i = .int .i64 x ∧ Below w.heap.size w wr ∧ w6.heap.size ≤ wr.heap.size ∧ Hid (OwnLp q wr w.heap.size wr.heap.size (.slice ao' x cap') (List.replicate x (List.replicate M 0))) ∧ Hid (∀ j, q j → wr.heap[j]? = w6.heap[j]?))
    (fun _ i _ => L - (intOf i).toNat)
  case atStart => exact ⟨0, _, _, Nat.zero_le _, rfl, rfl, t6, Nat.le_refl _, HO6, hid (fun _ _ => rfl)⟩
  case round =>
    obtain ⟨x, ao', cap', hx, rfl, rfl, hbr, hsr, HO, HW⟩ := hrel
    by_cases hlx : x < L
    · have hlxi : (x : Int) < (L : Int) := by omega
      have hll : (List.replicate x (List.replicate M (0 : Int))).length ≤ 2000000 := by rw [List.length_replicate]; omega
      go_wp2_with (at_make; refine make_ints _ rfl _ _ rfl _ _ M rfl rfl (by omega) (by omega) (by omega) ?_)
      intro w7 ho7 hb7
      have hs7 := hb7.size
      have HO7 : Hid (OwnLp q w7 w.heap.size wr.heap.size (.slice ao' x cap') (List.replicate x (List.replicate M 0))) := hid (HO.out.later hb7)
      have Hblk := hid HO7.out.blk
      have Hql : Hid (∀ k, q k → k < wr.heap.size) := hid (fun k hk => by rw [Hq.out] at hk; unfold winQ at hk; omega)
      have hb7w := hbr.trans (hb7.mono hbr.size)
      clear HO
      go_wp2_with (at_builtin; refine app_lstp q wr.heap.size w7 _ (List.replicate M 0) rfl _ _ rfl w.heap.size wr.heap.size _ _ HO7.out (Nat.le_refl _) hs7 Hql.out ho7.own rfl rfl hll ?_)
      intro u8 w8 ho8 hb8 hg8
      rw [rep_snoc] at ho8
      obtain ⟨ao8, cp8, rfl, -⟩ := ho8.any.sl
      rw [List.length_replicate] at ho8 ⊢
      have HO8 := hid ho8
      have hs8 : w6.heap.size ≤ w8.heap.size := by have := hg8.size; omega
      have hb8w := hb7w.trans hb8
      have HW8 : Hid (∀ j, q j → w8.heap[j]? = w6.heap[j]?) := hid (fun j hj => by
        have hjl := Hql.out j hj
        rw [hg8.block j (by omega) (fun e => (Hblk.out j e.symm).1 hj), hb7.block j hjl]
        exact HW.out j hj)
      clear ho7 ho8 hb7 hb8 hg8 hb7w HO7
      go_wp2
      go_roundw
      case rel => exact ⟨x + 1, _, _, by omega, rfl, by go_num, hb8w, hs8, HO8, HW8⟩
      case measure => simp [intOf]; omega
    · obtain rfl : L = x := by omega
      rw [← rowsP_nil] at HO
      clear HO6 t6
      go_wp2
      obtain ⟨wo, hwo⟩ : ∃ wo : World, wo = wr := ⟨_, rfl⟩
      subst hwo
      go_loopw [19] (fun i wr => ∃ (k : Nat), k ≤ F ∧ i = .int .i64 k ∧ Below w.heap.size w wr ∧ w6.heap.size ≤ wr.heap.size ∧ Hid (OwnLp q wr w.heap.size wr.heap.size (.slice ao' L cap') (rowsP L M (pp.take k))) ∧ Hid (∀ j, q j → wr.heap[j]? = w6.heap[j]?))
        (fun i _ => F - (intOf i).toNat)
      case atStart => exact ⟨0, Nat.zero_le _, rfl, hbr, hsr, hid (by rw [List.take_zero]; exact HO.out), HW⟩
      case round =>
        clear hbr hsr HO HW
        obtain ⟨k, hk, rfl, hbr, hsr, HO, HW⟩ := hrel
        by_cases hlt : k < F
        · have hki : (k : Int) < F := by omega
          obtain ⟨x, hx, hx1, hx2⟩ := Hv1.out k hlt
          obtain ⟨y, hy, hy1, hy2⟩ := Hv2.out k hlt
          have Hxy : Hid (valN (ordK m k) a = x ∧ valN (ordK m k) b = y) := hid ⟨hx, hy⟩
          have Ht : Hid (pp.take (k + 1) = pp.take k ++ [((x : Int), (y : Int))]) := hid (by rw [Htk.out k hlt, hx, hy])
          obtain ⟨g, ai, ci, e4, hgB, hgC, hgw, hcell, hown, hblk⟩ := Ho4.out.item (n := F) (by rw [allK_len, HF.out]) hlt
          have hek : ell (allK m) k = ordK m k := ell_allK (by rw [← HF.out]; exact hlt)
          rw [hek, ordK_len] at hcell hown hblk
          subst e4
          have hqg : q g := by rw [Hq.out]; unfold winQ; omega
          have hcg : wr.cell? ⟨g, k, none⟩ = some (.slice ai m ci) := (cell_same (HW.out g hqg)).trans hcell
          have hog : Own wr (w2.heap.size + 1) (.slice ai m ci) (ordK m k) := own_chg hown (fun t ht _ => HW.out t (by have h1 := (hown.blocks t ht).1; have h2 := hblk t ht; rw [Hq.out]; unfold winQ; omega))
          have hsl := hog.read
          have hgr : g < wr.heap.size := by omega
          have Hsl := hid hsl
          have Hcg := hid hcg
          clear hx hy hown hblk hcell hog hsl hek hqg
          go_wp2_with fail
          refine (countS0_any s _ _ _ (ordK m k) _ Hsl.out (hid (Hval.out k))).mono ?_
          rintro e w7 ⟨rfl, b7⟩
          rw [← Ha.out, decide_eq_true ha9, Hxy.out.1]
          have hcg7 := (b7.cell (p := ⟨g, k, none⟩) hgr).trans Hcg.out
          have hsl7 := Hsl.out.later b7
          have HO7 := hid ((HO.out.later b7).now)
          have hb7 := hbr.trans (b7.mono hbr.size)
          have hs7 : w6.heap.size ≤ w7.heap.size := by have := b7.size; omega
          have Hql : Hid (∀ k, q k → k < w6.heap.size) := hid (fun k hk => by rw [Hq.out] at hk; unfold winQ at hk; omega)
          have HW7 : Hid (∀ j, q j → w7.heap[j]? = w6.heap[j]?) := hid (fun j hj => by rw [b7.block j (by have := Hql.out j hj; omega)]; exact HW.out j hj)
          clear hcg HO HW Hcg b7
          go_wp2_with fail
          refine (countS0_any t _ _ _ (ordK m k) _ hsl7 (hid (Hval.out k))).mono ?_
          rintro e w8 ⟨rfl, b8⟩
          rw [← Hb.out, decide_eq_true hb9, Hxy.out.2]
          have HO8 := hid ((HO7.out.later b8).now)
          have hb8 := hb7.trans (b8.mono hb7.size)
          have hs8 : w6.heap.size ≤ w8.heap.size := by have := b8.size; omega
          have HW8 : Hid (∀ j, q j → w8.heap[j]? = w6.heap[j]?) := hid (fun j hj => by rw [b8.block j (by have := Hql.out j hj; omega)]; exact HW7.out j hj)
          clear hcg7 hsl7 HO7 HW7 b8 hb7 Hsl Hxy
          obtain ⟨gb, go, ri, rc, e5, hrow, hro, hrq, hup⟩ := HO8.out.upd (j := x) (by rw [rowsP_len]; exact hx1)
          rw [ell_rowsP hx1, rowP_len] at hrow hro hrq hup
          subst e5
          rcases hro.place with ⟨e1, e2⟩ | ⟨gr, cp, e1, hs⟩
          · have := congrArg List.length e2; rw [rowP_len] at this; simp at this; omega
          · simp only [Value.slice.injEq] at e1
            obtain ⟨rfl, -, rfl⟩ := e1
            rw [rowP_len] at hs
            have hcc := hs.cell (j := y) hy1
            rw [el_rowP hy1] at hcc
            have hfr := hs.frozen y
            have Hpb : Hid (0 ≤ pcnt (pp.take k) x y ∧ pcnt (pp.take k) x y ≤ F) := hid (by have := pcnt_le (pp.take k) x y; rw [List.length_take, Hlp.out] at this; omega)
            have Hbump := hid (rowsP_bump (L := L) (M := M) (ps := pp.take k) hx1 hy1)
            obtain ⟨c, hc⟩ : ∃ c, c = pcnt (pp.take k) x y := ⟨_, rfl⟩
            rw [← hc] at hcc Hpb Hbump
            have hc0 : 0 ≤ c := Hpb.out.1
            have hc1 : c ≤ 1000 := by have := Hpb.out.2; omega
            have hxi : (x : Int) < (L : Int) := by omega
            have hyi : (y : Int) < (M : Int) := by omega
            have hgr2 := hs.lt
            have HB8 : Hid (Below w.heap.size w (w8.setCell ⟨gr, y, none⟩ (.int .i64 (c + 1))).drew ∧ w6.heap.size ≤ (w8.setCell ⟨gr, y, none⟩ (.int .i64 (c + 1))).drew.heap.size ∧ OwnLp q (w8.setCell ⟨gr, y, none⟩ (.int .i64 (c + 1))).drew w.heap.size (w8.setCell ⟨gr, y, none⟩ (.int .i64 (c + 1))).drew.heap.size (.slice (some ⟨gb, go, none⟩) L cap') (rowsP L M (pp.take (k + 1))) ∧ ∀ j, q j → (w8.setCell ⟨gr, y, none⟩ (.int .i64 (c + 1))).drew.heap[j]? = w6.heap[j]?) := hid (by
              refine ⟨(hb8.setCell (p := ⟨gr, y, none⟩) hgr2.1 _).drew, by show w6.heap.size ≤ (w8.setCell _ _).heap.size; simp; omega, ?_, fun j hj => ?_⟩
              · have h9 := hup (w8.setCell ⟨gr, y, none⟩ (.int .i64 (c + 1))) _ (hs.set y (c + 1)).own (World.ownsRow.stored hs y (.int .i64 (c + 1))).2
                rw [Hbump.out, ← Ht.out] at h9
                exact (h9.later (drewN_below (Below.refl _ _) 1)).now
              · show (w8.setCell _ _).heap[j]? = _
                rw [Below.heap_setCell w8 _ _ j (fun e => by have h1 := (hrq gr rfl).2; exact h1 (by simpa [e] using hj))]
                exact HW8.out j hj)
            clear hs hro hrq hup hc HO8 HW8 Hpb Hbump Ht hb8
            go_wp2_with fail
            refine wp_region_still_tail 14 (by kernel_rfl) (by kernel_rfl) ?_
            simp only [List.take_succ_cons, List.take_zero, List.drop_succ_cons, List.drop_zero]
            change wpStill _ _ (World.drew _) _ _ _
            repeat still_step
            refine wpStill_nil ?_
            change wpList _ _ _ _ _ (World.drew _)
            go_wp2
            go_roundw
            case rel => exact ⟨k + 1, by omega, by go_num, HB8.out.1, HB8.out.2.1, hid HB8.out.2.2.1, hid HB8.out.2.2.2⟩
            case measure => simp [intOf]; omega
        · obtain rfl : k = F := by omega
          have HO9 : Hid (OwnL wr w.heap.size wr.heap.size (.slice ao' L cap') res) := hid (by
            have h9 := HO.out.any
            rwa [List.take_of_length_le (by rw [Hlp.out]; exact Nat.le_refl _), ← Hp.out] at h9)
          clear HO
          go_wp2
          go_ret2
          exact ⟨_, rfl, HO9.out, hbr⟩

set_option maxHeartbeats 2000000 in
theorem prtS_no (s t : ByteArray) (m : Int) (w : World) (h : ¬ (ixOf s < 9 ∧ ixOf t < 9 ∧ 0 ≤ m ∧ m ≤ 5)) :
    Calls Try.prog 33 #[.string s, .string t, .int .i64 m] w (MadeL2 w [] false) := by
  go_enter Try.func33, Try.ntmps33
  go_wp2_with fail
  refine (countS0_any s _ _ _ [] _ (own_lit w).read (hid valid_nil)).mono ?_
  rintro e w1 ⟨rfl, b1⟩
  have t1 : Below w.heap.size w w1 := ((Below.refl w.heap.size w).alloc (Nat.le_refl _) _).trans (b1.mono (by simp))
  clear b1
  go_wp2_with fail
  refine (countS0_any t _ _ _ [] _ (own_lit w1).read (hid valid_nil)).mono ?_
  rintro e w2 ⟨rfl, b2⟩
  have t2 : Below w.heap.size w w2 := (t1.alloc t1.size _).trans (b2.mono (by have := t1.size; simp; omega))
  clear b2 t1
  by_cases h1 : ixOf s < 9
  · by_cases h2 : ixOf t < 9
    · have hmi : decide ((0 : Int) ≤ m ∧ m ≤ 5) = false := decide_eq_false (fun q => h ⟨h1, h2, q⟩)
      rw [decide_eq_true h1, decide_eq_true h2]
      clear h h1 h2
      go_wp2_with fail
      refine (inR_any _ _ _ _).mono ?_
      rintro e w' ⟨rfl, hww⟩
      subst hww
      rw [hmi]
      go_wp2
      go_ret2
      exact ⟨_, rfl, (OwnL.nil (w := w2) (Nat.le_refl _)).now.mono t2.size, t2⟩
    · rw [decide_eq_true h1, decide_eq_false h2]
      clear h h1 h2
      go_wp2
      go_ret2
      exact ⟨_, rfl, (OwnL.nil (w := w2) (Nat.le_refl _)).now.mono t2.size, t2⟩
  · rw [decide_eq_false h1]
    clear h h1
    go_wp2
    go_ret2
    exact ⟨_, rfl, (OwnL.nil (w := w2) (Nat.le_refl _)).now.mono t2.size, t2⟩

end Go.Proofs.Ytjgaglfinpeeoac
