/- The rows of two names, in the program. No condition. -/
import Derived.Test.YtjgaglfinpeeoacZky
import Derived.Test.YtjgaglfinpeeoacRowS
import Derived.Test.YtjgaglfinpeeoacCopyL
import Derived.RegionTactic
import Derived.Maps.OwnOps
namespace Go.Proofs.Ytjgaglfinpeeoac
open Go.RowKit

theorem make_lists (w : World) {ops : Array Oper} {rest : List Oper} {o : Oper} {a : Act} {Q : Exit → Act → World → Prop}
    (hg : o.guard = none) (l c : Operand) (hop : o.op = Op.makeSlice 24 l c) (L C : Int) (n : Nat) (hl : a.eval l = .int .i64 L) (hc : a.eval c = .int .i64 C) (hL : L = (n : Int)) (hC : C = (n : Int)) (hn : n ≤ 2000000)
    (hK : ∀ w', OwnL w' w.heap.size w'.heap.size (.slice (some ⟨w.heap.size, 0, none⟩) n n) (List.replicate n []) → Below w.heap.size w w' → wpList Try.prog ops Q rest (a.put o.dst (.slice (some ⟨w.heap.size, 0, none⟩) n n)) w') :
    wpList Try.prog ops Q (o :: rest) a w := by
  obtain ⟨i0, hi, hz0, hz1, hz2⟩ := info_parts infoL
  refine wpList_make_full w hg l c 24 hop w.heap.size 28 i0 (.slice none 0 0) 1 Try.underlying24 hi hz0 hz1 _ _ _ _ n hl hc hL hC (by rw [hz2]; omega) (by unfold maxLen; omega) (Nat.le_refl _) ?_
  intro w' hown hgrow
  refine hK w' ?_ ((Below.refl _ _).grown hgrow (Nat.le_refl _) (fun k hk => by simp at hk))
  have e : (madeCells (Value.cells (.slice none 0 0)) (n * 1)).toList = List.replicate n (Value.slice none 0 0) := by
    rw [Nat.mul_one, show Value.cells (.slice none 0 0) = #[Value.slice none 0 0] from rfl, toList_madeCells_one]
  rw [e] at hown
  have hr : ∀ (i : Nat) (v : Value), (List.replicate n (Value.slice none 0 0))[i]? = some v → v = Value.slice none 0 0 := fun i v hi => by
    rw [List.getElem?_replicate] at hi
    split at hi
    · exact (Option.some.inj hi).symm
    · cases hi
  refine ⟨hgrow.size, Nat.le_refl _, _, by rw [List.length_replicate]; exact hown, fun k hk => ⟨(World.ownsRow.lt hown k hk).2, fun e => by cases e⟩, fun j v hj => ?_, fun i j v v' _ hi _ => ?_⟩
  · rw [hr j v hj]
    have e2 : ell (List.replicate n ([] : List Int)) j = [] := by
      unfold ell
      rw [List.getD_eq_getElem?_getD, List.getElem?_replicate]
      split <;> rfl
    rw [e2]
    exact ⟨Own.nil, fun k hk => by simp [Value.ownBlock] at hk, Or.inl rfl⟩
  · rw [hr i v hi]
    exact Or.inl rfl

/-- A new list put at a place of the lists. -/
theorem OwnL.put {w : World} {B C : Nat} {ao : Option Addr} {n cap : Nat} {yss : List (List Int)} (h : OwnL w B C (.slice ao n cap) yss) {j : Nat} (hj : j < yss.length) {v : Value} {zs : List Int} (hv : Own w C v zs) :
    ∃ b off x, ao = some ⟨b, off, none⟩ ∧ B ≤ b ∧ b < C ∧ w.cell? ⟨b, off + j, none⟩ = some x ∧ w.frozen? ⟨b, off + j, none⟩ = false ∧ OwnL (w.setCell ⟨b, off + j, none⟩ v) B w.heap.size (.slice ao n cap) (yss.set j zs) := by
  obtain ⟨vs, h1, h2, h3, h4⟩ := h.ex
  have h0 := h1
  have hge := h.ge
  have hle := h.le
  have hl : vs.length = yss.length := by rw [h0.1, Nat.mul_one]
  have hvb := hv.blocks
  rcases h1.2 with ⟨e1, h5⟩ | ⟨g, cap', cur, e1, hB, hg, h5, h6, h7, h8⟩
  · omega
  · simp only [Value.slice.injEq] at e1
    obtain ⟨rfl, rfl, rfl⟩ := e1
    have hgC := (h2 g rfl).1
    have hst := World.ownsRow.stored h0 j v
    have hc := World.ownsRow.cellAt h0 j (by omega)
    have hgr : w.grownBy (w.setCell ⟨g, j, none⟩ v) (some g) := hst.2
    refine ⟨g, 0, _, rfl, hB, hgC, by rw [Nat.zero_add]; exact hc.trans (List.getElem?_eq_getElem (by omega)), by rw [Nat.zero_add]; exact World.ownsRow.frozenAt h0 j, ?_⟩
    rw [Nat.zero_add]
    refine ⟨by omega, by simp, vs.set j v, ?_, fun k hk => ⟨by have e : g = k := Option.some.inj hk; omega, fun e => by cases e⟩, fun i u hi => ?_, fun i i' u u' hlt hi hi' => ?_⟩
    · rw [List.length_set]; exact hst.1
    · rw [List.getElem?_set] at hi
      split at hi
      · rename_i e
        subst e
        split at hi
        · obtain rfl := Option.some.inj hi
          rw [ell_set_same hj]
          have hap : Apart v (.slice (some ⟨g, 0, none⟩) yss.length cap) := by
            unfold Apart
            cases e : v.ownBlock with
            | none => exact Or.inl rfl
            | some k => exact Or.inr (fun e2 => by have := (hvb k e).1; have e3 : k = g := Option.some.inj e2; omega)
          exact ⟨(hv.kept hgr hap).mono (by omega), fun k hk => ⟨(hvb k hk).2, fun e => by cases e⟩, hap⟩
        · cases hi
      · rename_i e
        obtain ⟨p, q, r⟩ := h3 i u hi
        rw [ell_set_ne e]
        exact ⟨p.kept hgr r, fun k hk => ⟨by have := (q k hk).1; omega, fun e => by cases e⟩, r⟩
    · rw [List.getElem?_set] at hi hi'
      have hnew : ∀ (i : Nat) (u : Value), vs[i]? = some u → Apart u v := fun i u hu => by
        unfold Apart
        cases e : u.ownBlock with
        | none => exact Or.inl rfl
        | some k => exact Or.inr (fun e2 => by have a1 := ((h3 i u hu).2.1 k e).1; have a2 := (hvb k e2.symm).1; omega)
      split at hi
      · rename_i e
        split at hi
        · obtain rfl := Option.some.inj hi
          rw [if_neg (by omega)] at hi'
          exact (hnew i' u' hi').symm
        · cases hi
      · split at hi'
        · split at hi'
          · obtain rfl := Option.some.inj hi'
            exact hnew i u hi
          · cases hi'
        · exact h4 i i' u u' hlt hi hi'

theorem fill_set {α : Type} (l : List α) (d v : α) (n y : Nat) (hl : l.length = n) (hy : y < n) (hv : l[y]? = some v) : (l.take y ++ List.replicate (n - y) d).set y v = l.take (y + 1) ++ List.replicate (n - (y + 1)) d := by
  refine List.ext_getElem? fun i => ?_
  rw [List.getElem?_set]
  have h1 : (l.take y).length = y := by rw [List.length_take]; omega
  have h2 : (l.take (y + 1)).length = y + 1 := by rw [List.length_take]; omega
  split
  · rename_i e
    subst e
    rw [if_pos (by rw [List.length_append, h1, List.length_replicate]; omega), List.getElem?_append_left (by omega), List.getElem?_take, if_pos (by omega), hv]
  · rename_i e
    by_cases h : i < y
    · rw [List.getElem?_append_left (by omega), List.getElem?_append_left (by omega), List.getElem?_take, List.getElem?_take, if_pos (by omega), if_pos (by omega)]
    · rw [List.getElem?_append_right (by omega), List.getElem?_append_right (by omega), h1, h2, List.getElem?_replicate, List.getElem?_replicate]
      by_cases h3 : i < n
      · rw [if_pos (by omega), if_pos (by omega)]
      · rw [if_neg (by omega), if_neg (by omega)]
/-- A call made a list of lists and a yes or no, and turned nothing that was there. -/
def MadeL2 (w : World) (yss : List (List Int)) (b : Bool) (e : Ending) (w' : World) : Prop := ∃ u, e = .returned (.tuple #[u, .bool b]) ∧ OwnL w' w.heap.size w'.heap.size u yss ∧ Below w.heap.size w w'
theorem zeroInt (w : World) : (zeroValue 3).run Try.prog w = .ok (.int .i64 0) w := by kernel_rfl
theorem MapZ.set {w : World} {b : Nat} {ps : List (Int × Int)} {a : Addr} {v : Value} (h : MapZ w b ps) (hne : a.block ≠ b) : MapZ (w.setCell a v) b ps := h.keep (Below.heap_setCell w a v b (Ne.symm hne))

set_option maxRecDepth 20000 in
set_option maxHeartbeats 8000000 in
theorem priI_yes (s t : ByteArray) (a b m : Nat) (w : World) (ha : a = ixOf s) (hb : b = ixOf t) (ha9 : a < 9) (hb9 : b < 9) (hm : m ≤ 5) :
    Calls Try.prog 32 #[.string s, .string t, .int .i64 m] w (MadeL2 w (prow a b m) true) := by
  have hf := facN_pos m (by omega)
  have Hn1 := hid (fun w => numI_yes s a m w ha ha9 hm)
  have Hn2 := hid (fun w => numI_yes t b m w hb hb9 hm)
  obtain ⟨F, hF⟩ : ∃ F, F = facN m := ⟨_, rfl⟩
  have Hl1 : Hid ((numK a m).length = F) := hid (by rw [numK_len, hF])
  have Hl2 : Hid ((numK b m).length = F) := hid (by rw [numK_len, hF])
  have Hv1 : Hid (∀ j, j < F → ∃ v : Nat, el (numK a m) j = (v : Int) ∧ v < mxN a m ∧ v ≤ 100) := hid (fun j hj => numK_lt ha9 hm (by rw [← hF]; exact hj))
  have Hv2 : Hid (∀ j, j < F → ∃ v : Nat, el (numK b m) j = (v : Int) ∧ v < mxN b m ∧ v ≤ 100) := hid (fun j hj => numK_lt hb9 hm (by rw [← hF]; exact hj))
  obtain ⟨L, hL⟩ : ∃ L, mxN a m = L + 1 := ⟨mxN a m - 1, by have := mxN_pos a m (by omega); omega⟩
  obtain ⟨M, hM⟩ : ∃ M, mxN b m = M + 1 := ⟨mxN b m - 1, by have := mxN_pos b m (by omega); omega⟩
  have hL100 : L ≤ 100 := by have := mxN_le ha9 hm; omega
  have hM100 : M ≤ 100 := by have := mxN_le hb9 hm; omega
  have Hmx1 : Hid (mxJ (numK a m) (F - 1) = (L : Int)) := hid (by
    have := mxJ_mxK (numK_bd ha9 hm) (F - 1)
    rw [Nat.sub_add_cancel (by omega)] at this
    have e : mxN a m = mxK (numK a m) F := by rw [mxN, hF]
    omega)
  have Hmx2 : Hid (mxJ (numK b m) (F - 1) = (M : Int)) := hid (by
    have := mxJ_mxK (numK_bd hb9 hm) (F - 1)
    rw [Nat.sub_add_cancel (by omega)] at this
    have e : mxN b m = mxK (numK b m) F := by rw [mxN, hF]
    omega)
  have Hp : Hid (prow a b m = rowsP (L + 1) (M + 1) (pz a b m)) := hid (by rw [prow, hL, hM])
  rw [hL] at Hv1
  rw [hM] at Hv2
  have Htk : Hid (∀ j, j < F → (pz a b m).take (j + 1) = (pz a b m).take j ++ [(el (numK a m) j, el (numK b m) j)]) := hid (fun j hj => take_pz (by rw [← hF]; exact hj))
  have Hlp : Hid ((pz a b m).length = F) := hid (by rw [pz_len, hF])
  have hF1 : 0 < F := by omega
  have hF2 : F ≤ 1000 := by omega
  generalize pz a b m = pp at *
  generalize prow a b m = res at *
  generalize numK a m = l1 at *
  generalize numK b m = l2 at *
  clear hf hF hL hM ha hb ha9 hb9 hm
  have hmm := @run_makeMap Try.prog
  go_enter Try.func32, Try.ntmps32
  go_wp2_with fail
  refine (Hn1.out _).mono ?_
  rintro e w1 ⟨u1, rfl, o1, b1⟩
  obtain ⟨a1, c1, rfl, s1⟩ := o1.sl
  rw [Hl1.out] at s1 ⊢
  clear o1
  go_wp2_with fail
  refine (Hn2.out _).mono ?_
  rintro e w2 ⟨u2, rfl, o2, b2⟩
  obtain ⟨a2, c2, rfl, s2⟩ := o2.sl
  rw [Hl2.out] at s2 ⊢
  have s1 := s1.later b2
  have t2 := b1.trans (b2.mono b1.size)
  clear o2 b1 b2
  obtain ⟨k1, f1, rfl, hk1, hc1⟩ := s1.row hF1
  obtain ⟨k2, f2, rfl, hk2, hc2⟩ := s2.row hF1
  have Hc1 := hid hc1
  have Hc2 := hid hc2
  have Hs1 := hid s1
  have Hs2 := hid s2
  clear hc1 hc2 s1 s2
  go_wp2
  go_loopw [38] (fun i wr => ∃ k : Nat, k ≤ F ∧ i = .int .i64 k ∧ Below w2.heap.size w2 wr ∧ w2.heap.size < wr.heap.size ∧ Hid (MapZ wr w2.heap.size (pp.take k)))
    (fun i _ => F - (intOf i).toNat)
  case atStart => exact ⟨0, Nat.zero_le _, rfl, (Below.refl _ _).alloc (Nat.le_refl _) _, by simp, hid (by rw [List.take_zero]; exact MapZ.made _)⟩
  case round =>
    obtain ⟨k, hk, rfl, hbr, hsz, HZ⟩ := hrel
    by_cases hlt : k < F
    · have hki : (k : Int) < F := by omega
      obtain ⟨x, hx, hx1, hx2⟩ := Hv1.out k hlt
      obtain ⟨y, hy, hy1, hy2⟩ := Hv2.out k hlt
      have hcx := (hbr.cell (p := ⟨k1, f1 + k, none⟩) hk1).trans (Hc1.out k hlt)
      have hcy := (hbr.cell (p := ⟨k2, f2 + k, none⟩) hk2).trans (Hc2.out k hlt)
      rw [hx] at hcx
      rw [hy] at hcy
      have Ht : Hid (pp.take (k + 1) = pp.take k ++ [((x : Int), (y : Int))]) := hid (by rw [Htk.out k hlt, hx, hy])
      have Hpb : Hid (0 ≤ pcnt (pp.take k) x y ∧ pcnt (pp.take k) x y ≤ F) := hid (by have := pcnt_le (pp.take k) x y; rw [List.length_take, Hlp.out] at this; omega)
      have hxs : SmZ (x : Int) := ⟨by omega, by omega⟩
      have hys : SmZ (y : Int) := ⟨by omega, by omega⟩
      have hZd : MapZ wr.drew w2.heap.size (pp.take k) := HZ.out
      obtain ⟨c, hc⟩ : ∃ c, c = pcnt (pp.take k) x y := ⟨_, rfl⟩
      have hcb : 0 ≤ c ∧ c ≤ 1000 := by have := Hpb.out; rw [hc]; omega
      have hcb1 := hcb.1
      have hcb2 := hcb.2
      have e1 := run_lookZ (mt := 68) zkeys Try.underlying68 (zeroInt _) hZd hxs hys
      obtain ⟨st, w3, e2, hmid, hg3⟩ := run_entryZ (mt := 68) zkeys Try.underlying68 (zeroInt _) hZd hxs hys
      have e3 := run_lookM (mt := 68) zkeys Try.underlying68 hmid hxs hys
      obtain ⟨w4, e4, hmap, hg4⟩ := run_storeZ (P := Try.prog) (mt := 68) hmid hxs hys
      unfold keyZ at e1 e2 e3
      rw [← hc] at e1 e2 e3 e4
      have HZ4 : Hid (MapZ w4 w2.heap.size (pp.take (k + 1))) := hid (by rw [Ht.out]; exact hmap)
      have hb3 : Below w2.heap.size w2 w3 := (hbr.drew).grown hg3 (Nat.le_of_lt hsz) (fun j hj => by have := Option.some.inj hj; omega)
      have hb4 : Below w2.heap.size w2 w4 := hb3.grown hg4 hb3.size (fun j hj => by have := Option.some.inj hj; omega)
      have hs4 : w2.heap.size < w4.heap.size := by have h1 := hg3.size; have h2 := hg4.size; have h3 : wr.drew.heap.size = wr.heap.size := rfl; omega
      clear hx hy hx1 hx2 hy1 hy2 hZd hmid hg3 hg4 hmap hc hcb hxs hys hb3
      go_wp2_with fail
      go_region
      all_goals go_wp2
      all_goals go_roundw
      all_goals first
        | exact ⟨k + 1, by omega, by go_num, hb4, hs4, HZ4⟩
        | (simp [intOf]; omega)
    · obtain rfl : k = F := by omega
      have HZ : Hid (MapZ wr w2.heap.size pp) := hid (by have := HZ.out; rwa [List.take_of_length_le (by rw [Hlp.out]; exact Nat.le_refl _)] at this)
      have s1r := Hs1.out.later hbr
      have s2r := Hs2.out.later hbr
      have hwr := hbr.size
      obtain ⟨B, hB⟩ : ∃ B, B = w2.heap.size := ⟨_, rfl⟩
      have hsB : B < wr.heap.size := by omega
      rw [← hB] at HZ ⊢
      have hk1B : k1 < B := by omega
      have hk2B : k2 < B := by omega
      have T2 := hid t2
      have Hbr := hid hbr
      have HB := hid hB
      have S2 := hid s2r
      clear hmm t2 hbr hB s2r Hc1 Hc2 hk1 hk2 hsz
      go_wp2_with fail
      refine (maxJ_any _ _ _ l1 _ s1r (by omega) (by omega)).mono ?_
      rintro e w' ⟨rfl, hww⟩
      subst hww
      rw [Hmx1.out]
      go_wp2_with (at_make; refine make_lists _ rfl _ _ rfl _ _ (L + 1) rfl rfl (by omega) (by omega) (by omega) ?_)
      intro w5 HR hb5
      obtain ⟨g, hg⟩ : ∃ g, g = wr.heap.size := ⟨_, rfl⟩
      have HZ5 : Hid (MapZ w5 B pp) := hid (HZ.out.kept hb5)
      have hb5' : Below B wr w5 := hb5.mono (by omega)
      have hsz5 := hb5.size
      rw [← hg] at HR hsB hb5 hsz5 ⊢
      have HR := hid HR
      have HG := hid hg
      clear hg
      go_wp2
      obtain ⟨wo, hwo⟩ : ∃ wo : World, wo = wr := ⟨_, rfl⟩
      subst hwo
      go_loopw [62] (fun i wr => ∃ x : Nat, x ≤ L + 1 ∧ i = .int .i64 x ∧ Below g wo wr ∧ g ≤ wr.heap.size ∧ Hid (MapZ wr B pp) ∧ Hid (OwnL wr g wr.heap.size (.slice (some ⟨g, 0, none⟩) (L + 1) (L + 1)) ((rowsP (L + 1) (M + 1) pp).take x ++ List.replicate (L + 1 - x) [])))
        (fun i _ => L + 1 - (intOf i).toNat)
      case atStart => exact ⟨0, Nat.zero_le _, rfl, hb5, hsz5, HZ5, hid (by rw [List.take_zero, List.nil_append]; exact HR.out)⟩
      case round =>
        obtain ⟨x, hx, rfl, hbq, hgq, HZq, HO⟩ := hrel
        by_cases hlx : x < L + 1
        · have hlxi : (x : Int) < (L : Int) + 1 := by omega
          have s2q := S2.out.later (HG.out ▸ hbq)
          obtain ⟨yss, hy⟩ : ∃ yss, yss = (rowsP (L + 1) (M + 1) pp).take x ++ List.replicate (L + 1 - x) [] := ⟨_, rfl⟩
          have Hyl : Hid (yss.length = L + 1) := hid (by rw [hy, List.length_append, List.length_take, rowsP_len, List.length_replicate]; omega)
          have Hyn : Hid (yss.set x (rowP (M + 1) pp x) = (rowsP (L + 1) (M + 1) pp).take (x + 1) ++ List.replicate (L + 1 - (x + 1)) []) := hid (by
            rw [hy]
            exact fill_set _ _ _ _ _ (rowsP_len _ _ _) hlx (by rw [rowsP, List.getElem?_map, List.getElem?_range hlx]; rfl))
          rw [← hy] at HO
          clear hy
          go_wp2_with fail
          refine (maxJ_any _ _ _ l2 _ s2q (by omega) (by omega)).mono ?_
          rintro e w' ⟨rfl, hww⟩
          subst hww
          rw [Hmx2.out]
          go_wp2_with (at_make; refine make_ints _ rfl _ _ rfl _ _ (M + 1) rfl rfl (by omega) (by omega) (by omega) ?_)
          intro w6 ho6 hb6
          have HO6 := HO.out.later hb6
          obtain ⟨gb, go, old, he, hgB, hgC, hcold, hfr, HO7⟩ := HO6.put (j := x) (by rw [Hyl.out]; exact hlx) ho6.own
          simp only [Option.some.injEq, Addr.mk.injEq, and_true] at he
          obtain ⟨rfl, rfl⟩ := he
          have hsz6 := hb6.size
          have HZ7 := hid (((HZq.out.kept hb6).set (a := ⟨g, 0 + x, none⟩) (v := .slice (some ⟨wr.heap.size, 0, none⟩) (M + 1) (M + 1)) (by simp; omega)))
          have hb7 : Below g wo (w6.setCell ⟨g, 0 + x, none⟩ (.slice (some ⟨wr.heap.size, 0, none⟩) (M + 1) (M + 1))) := (hbq.trans (hb6.mono hgq)).setCell (Nat.le_refl _) _
          have HO7 := hid HO7
          rw [Nat.zero_add] at hcold hfr HZ7 hb7 HO7
          clear HO6 ho6 hb6 s2q HO
          obtain ⟨w7, hw7⟩ : ∃ w7, w7 = w6.setCell ⟨g, x, none⟩ (.slice (some ⟨wr.heap.size, 0, none⟩) (M + 1) (M + 1)) := ⟨_, rfl⟩
          have hsz7 : w7.heap.size = w6.heap.size := by rw [hw7]; simp
          have hgw : g ≤ w6.heap.size := by omega
          rw [← hw7] at HZ7 hb7 HO7
          have Hw7 := hid hw7
          have Hsz7 := hid hsz7
          clear hw7 hsz7
          go_wp2
          rw [← Hw7.out]
          obtain ⟨C, hC⟩ : ∃ C, C = w6.heap.size := ⟨_, rfl⟩
          rw [← hC] at HO7 hgw
          have HC7 : Hid (C ≤ w7.heap.size) := hid (by have := Hsz7.out; omega)
          clear hcold hfr hC hsz6 Hw7 Hsz7
          go_loopw [77] (fun i wr => ∃ y : Nat, y ≤ M + 1 ∧ i = .int .i64 y ∧ Below g wo wr ∧ C ≤ wr.heap.size ∧ Hid (MapZ wr B pp) ∧ Hid (OwnL wr g C (.slice (some ⟨g, 0, none⟩) (L + 1) (L + 1)) (yss.set x ((rowP (M + 1) pp x).take y ++ List.replicate (M + 1 - y) 0))))
            (fun i _ => M + 1 - (intOf i).toNat)
          case atStart => exact ⟨0, Nat.zero_le _, rfl, hb7, HC7.out, HZ7, by rw [List.take_zero, List.nil_append]; exact HO7⟩
          case round =>
            obtain ⟨y, hy, rfl, hbz, hCz, HZz, HOz⟩ := hrel
            by_cases hly : y < M + 1
            · have hlyi : (y : Int) < (M : Int) + 1 := by omega
              obtain ⟨zs, hzs⟩ : ∃ zs, zs = (rowP (M + 1) pp x).take y ++ List.replicate (M + 1 - y) 0 := ⟨_, rfl⟩
              have Hzl : Hid (zs.length = M + 1) := hid (by rw [hzs, List.length_append, List.length_take, rowP_len, List.length_replicate]; omega)
              have Hzn : Hid (zs.set y (pcnt pp x y) = (rowP (M + 1) pp x).take (y + 1) ++ List.replicate (M + 1 - (y + 1)) 0) := hid (by
                rw [hzs]
                exact fill_set _ _ _ _ _ (rowP_len _ _ _) hly (by rw [rowP, List.getElem?_map, List.getElem?_range hly]; rfl))
              rw [← hzs] at HOz
              clear hzs
              obtain ⟨gb, go, ai, ci, he, hcell, hown, hup⟩ := HOz.out.upd (j := x) (by rw [List.length_set, Hyl.out]; exact hlx)
              rw [ell_set_same (by rw [Hyl.out]; exact hlx), Hzl.out] at hcell hown hup
              simp only [Option.some.injEq, Addr.mk.injEq, and_true] at he
              obtain ⟨rfl, rfl⟩ := he
              rw [Nat.zero_add] at hcell
              have Hup := hid hup
              rcases hown.place with ⟨e1, e2⟩ | ⟨gr, cp, e1, hs⟩
              · have := Hzl.out; rw [e2] at this; simp at this
              · simp only [Value.slice.injEq] at e1
                obtain ⟨rfl, -, rfl⟩ := e1
                rw [Hzl.out] at hs
                have hcc := hs.cell (j := y) hly
                have hfr := hs.frozen y
                have Hs := hid hs
                have hgr := hs.lt
                have hxs : SmZ (x : Int) := ⟨by omega, by omega⟩
                have hys : SmZ (y : Int) := ⟨by omega, by omega⟩
                have hZd : MapZ wr.drew B pp := HZz.out
                obtain ⟨c, hc⟩ : ∃ c, c = pcnt pp x y := ⟨_, rfl⟩
                have e3 := run_lookZ (mt := 68) zkeys Try.underlying68 (zeroInt _) hZd hxs hys
                unfold keyZ at e3
                rw [← hc] at e3 Hzn
                have hst := hs.set y c
                have HB8 : Hid (Below g wo (wr.setCell ⟨gr, y, none⟩ (.int .i64 c)).drew ∧ C ≤ (wr.setCell ⟨gr, y, none⟩ (.int .i64 c)).drew.heap.size ∧ MapZ (wr.setCell ⟨gr, y, none⟩ (.int .i64 c)).drew B pp ∧ OwnL (wr.setCell ⟨gr, y, none⟩ (.int .i64 c)).drew g C (.slice (some ⟨g, 0, none⟩) (L + 1) (L + 1)) (yss.set x ((rowP (M + 1) pp x).take (y + 1) ++ List.replicate (M + 1 - (y + 1)) 0))) := hid (by
                  refine ⟨(hbz.setCell (p := ⟨gr, y, none⟩) hgr.1 _).drew, by show C ≤ (wr.setCell _ _).heap.size; simp; omega, HZz.out.set (a := ⟨gr, y, none⟩) (by simp; omega), ?_⟩
                  have h9 := (Hup.out (wr.setCell ⟨gr, y, none⟩ (.int .i64 c)) (zs.set y c) hst.own ((World.ownsRow.stored hs y (.int .i64 c)).2)).1
                  rw [List.set_set, Hzn.out] at h9
                  exact h9.later (drewN_below (Below.refl _ _) 1))
                clear hs hZd hxs hys hc hst hown hup HOz HZz Hup
                go_wp2_with fail
                go_region
                all_goals go_wp2
                all_goals go_roundw
                all_goals first
                  | exact ⟨y + 1, by omega, by go_num, HB8.out.1, HB8.out.2.1, hid HB8.out.2.2.1, hid HB8.out.2.2.2⟩
                  | (simp [intOf]; omega)
            · obtain rfl : y = M + 1 := by omega
              have HO9 : Hid (OwnL wr g wr.heap.size (.slice (some ⟨g, 0, none⟩) (L + 1) (L + 1)) ((rowsP (L + 1) (M + 1) pp).take (x + 1) ++ List.replicate (L + 1 - (x + 1)) [])) := hid (by
                have h9 := HOz.out.now
                rw [List.take_of_length_le (by rw [rowP_len]; exact Nat.le_refl _), Nat.sub_self, List.replicate_zero, List.append_nil, Hyn.out] at h9
                exact h9)
              have hgz : g ≤ wr.heap.size := by omega
              clear HOz
              go_wp2
              go_roundw
              case rel => exact ⟨x + 1, by omega, by go_num, hbz, hgz, HZz, HO9⟩
              case measure => simp [intOf]; omega
        · obtain rfl : x = L + 1 := by omega
          have HO9 : Hid (OwnL wr w.heap.size wr.heap.size (.slice (some ⟨g, 0, none⟩) (L + 1) (L + 1)) res) := hid (by
            have h9 := HO.out
            rw [List.take_of_length_le (by rw [rowsP_len]; exact Nat.le_refl _), Nat.sub_self, List.replicate_zero, List.append_nil, ← Hp.out] at h9
            have h1 := T2.out.size
            have h2 := HB.out
            exact h9.mono (by omega))
          have HB9 : Hid (Below w.heap.size w wr) := hid (by
            have h1 := T2.out.size
            have h2 := HB.out
            have h3 := Hbr.out
            have h4 := h3.size
            have h5 := HG.out
            exact T2.out.trans ((h3.trans (hbq.mono (by omega))).mono h1))
          go_wp2
          go_ret2
          exact ⟨_, rfl, HO9.out, HB9.out⟩


set_option maxHeartbeats 2000000 in
theorem pri_no1 (s t : ByteArray) (m : Int) (w : World) (p q : Bool) (h : p = false ∨ q = false) (H1 : ∀ w, ∃ l, Calls Try.prog 54 #[.string s, .int .i64 m] w (Made2 w l p))
    (H2 : ∀ w, ∃ l, Calls Try.prog 54 #[.string t, .int .i64 m] w (Made2 w l q)) :
    Calls Try.prog 32 #[.string s, .string t, .int .i64 m] w (MadeL2 w [] false) := by
  go_enter Try.func32, Try.ntmps32
  go_wp2_with fail
  obtain ⟨l1, h1⟩ := H1 w
  refine h1.mono ?_
  rintro e w1 ⟨u1, rfl, o1, b1⟩
  go_wp2_with fail
  obtain ⟨l2, h2⟩ := H2 w1
  refine h2.mono ?_
  rintro e w2 ⟨u2, rfl, o2, b2⟩
  have t2 := b1.trans (b2.mono b1.size)
  clear o1 o2 h1 h2
  rcases h with rfl | rfl
  · go_wp2
    go_ret2
    exact ⟨_, rfl, (OwnL.nil (w := w2) (Nat.le_refl _)).now.mono t2.size, t2⟩
  · cases p
    · go_wp2
      go_ret2
      exact ⟨_, rfl, (OwnL.nil (w := w2) (Nat.le_refl _)).now.mono t2.size, t2⟩
    · go_wp2
      go_ret2
      exact ⟨_, rfl, (OwnL.nil (w := w2) (Nat.le_refl _)).now.mono t2.size, t2⟩
theorem num_some (s : ByteArray) (m : Int) : (∀ w, ∃ l, Calls Try.prog 54 #[.string s, .int .i64 m] w (Made2 w l (decide (ixOf s < 9 ∧ 0 ≤ m ∧ m ≤ 5)))) := by
  intro w
  by_cases h : ixOf s < 9 ∧ 0 ≤ m ∧ m ≤ 5
  · rw [decide_eq_true h]
    obtain ⟨k, rfl⟩ := Int.eq_ofNat_of_zero_le h.2.1
    exact ⟨_, numI_yes s _ k w rfl h.1 (by omega)⟩
  · rw [decide_eq_false h]
    exact ⟨_, numI_no s m w h⟩
theorem priI_no (s t : ByteArray) (m : Int) (w : World) (h : ¬ (ixOf s < 9 ∧ ixOf t < 9 ∧ 0 ≤ m ∧ m ≤ 5)) :
    Calls Try.prog 32 #[.string s, .string t, .int .i64 m] w (MadeL2 w [] false) :=
  pri_no1 s t m w _ _ (by
    by_cases h1 : ixOf s < 9 ∧ 0 ≤ m ∧ m ≤ 5
    · exact Or.inr (decide_eq_false (fun h2 => h ⟨h1.1, h2.1, h1.2⟩))
    · exact Or.inl (decide_eq_false h1)) (num_some s m) (num_some t m)

end Go.Proofs.Ytjgaglfinpeeoac
