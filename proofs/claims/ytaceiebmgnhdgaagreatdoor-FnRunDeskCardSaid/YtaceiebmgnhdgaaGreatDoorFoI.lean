/- Pieces that are turned, in the program's closures. Condition: the slice is an array of the call's own. -/
import Derived.Test.YtaceiebmgnhdgaaGreatDoorBnd
import Derived.Test.YtaceiebmgnhdgaaGreatDoorReg
import Derived.Laws.CopyOwn
namespace Go.Proofs.YtaceiebmgnhdgaaGreatDoor
open Go.RowKit

theorem copy_row {P : Program} {w : World} {ops : Array Oper} {rest : List Oper} {o : Oper} {a : Act} {Q : Exit → Act → World → Prop} (hgd : o.guard = none) (d s : Operand) (dT sT : TypeId)
    (ho : o.op = .call { callee := .builtin .copy, args := #[d, s], argTypes := #[dT, sT] }) (elem : TypeId) (hu : P.underlying dT = some (.slice elem)) (hsz : (P.info? elem).map (·.size) = some 1)
    (dp sp : Option Addr) (dLen dCap sLen sCap : Nat) (hd : a.eval d = .slice dp dLen dCap) (hs : a.eval s = .slice sp sLen sCap)
    (g off : Nat) (cur : List Value) (t : TypeId) (hg : w.heap[g]? = some (.cells cur.toArray t (0, 0))) (cs : List Value) (hn : cs.length = Nat.min sLen dLen)
    (hpos : 0 < cs.length → dp = some ⟨g, off, none⟩ ∧ ∃ ad, sp = some ad ∧ ∀ j v, cs[j]? = some v → w.cell? (ad.add j) = some v)
    (hfit : off + cs.length ≤ cur.length) (h1 : ∀ v ∈ cs, v.oneCell' = true)
    (h : ∀ w', Hid (w'.heap[g]? = some (.cells (splice cur off cs).toArray t (0, 0))) → w.grownBy w' (some g) → wpList P ops Q rest (a.put o.dst (goInt cs.length)) w') :
    wpList P ops Q (o :: rest) a w := by
  by_cases h0 : cs.length = 0
  · obtain rfl : cs = [] := List.eq_nil_of_length_eq_zero h0
    refine wpList_copy_nothing hgd d s dT sT ho elem hu hsz dp sp dLen dCap sLen sCap hd hs (by simpa using hn.symm) ?_
    exact h w (show _ = _ by simpa [splice] using hg) (World.grownBy.refl _ _)
  · obtain ⟨rfl, ad, rfl, hsrc⟩ := hpos (by omega)
    refine wpList_copy_own hgd d s dT sT ho elem hu hsz g off dLen dCap ad sLen sCap hd hs cur.toArray t hg cs hn hsrc (by simpa using hfit) h1 ?_
    exact h _ (show _ = _ by simpa [splice] using setRow_heap w g _ _ t _ hg) ⟨rfl, rfl, rfl, by simp [World.setRow], fun k _ hk => setRow_other w g k _ (fun e => hk (by rw [e]))⟩

theorem sizeI1 : (Tryz.prog.info? 3).map (·.size) = some 1 := by kernel_rfl

/-- The piece from place f on, of d + 1 numbers, with its last number first, or its first number last. -/
def rotR (ys : List Int) (f d : Nat) : List Int := ys.take f ++ [el ys (f + d)] ++ (ys.drop f).take d ++ ys.drop (f + d + 1)
def rotL (ys : List Int) (f d : Nat) : List Int := ys.take f ++ (ys.drop (f + 1)).take d ++ [el ys f] ++ ys.drop (f + d + 1)
theorem map_spl (ys cs : List Int) (o : Nat) : splice (ys.map (Value.int .i64)) o (cs.map (Value.int .i64)) = (ys.take o ++ cs ++ ys.drop (o + cs.length)).map (Value.int .i64) := by
  rw [splice, List.map_append, List.map_append, List.map_take, List.map_drop, List.length_map, List.append_assoc]
theorem rotR_eq (ys : List Int) (f d : Nat) (h : f + d + 1 ≤ ys.length) : (ys.take (f + 1) ++ (ys.drop f).take d ++ ys.drop (f + 1 + d)).set f (el ys (f + d)) = rotR ys f d := by
  rw [take_el (by omega), rotR, show f + 1 + d = f + d + 1 by omega]
  have hl : (ys.take f).length = f := by rw [List.length_take]; omega
  simp only [List.append_assoc]
  rw [List.set_append_right _ _ (by omega), hl, Nat.sub_self]
  rfl
theorem rotL_eq (ys : List Int) (f d : Nat) (h : f + d + 1 ≤ ys.length) : (ys.take f ++ (ys.drop (f + 1)).take d ++ ys.drop (f + d)).set (f + d) (el ys f) = rotL ys f d := by
  have hl : (ys.take f ++ (ys.drop (f + 1)).take d).length = f + d := by rw [List.length_append, List.length_take, List.length_take, List.length_drop]; omega
  rw [List.set_append_right _ _ (by omega), hl, Nat.sub_self, drop_cons (show f + d < ys.length by omega), rotL]
  simp
theorem Arr.row {w : World} {g T : Nat} {fs : List Int} (h : Arr w g T fs) : w.heap[g]? = some (.cells (fs.map (Value.int .i64)).toArray T (0, 0)) := h
theorem ints1 (zs : List Int) : ∀ v ∈ zs.map (Value.int .i64), v.oneCell' = true := by
  intro v hv
  obtain ⟨x, _, rfl⟩ := List.mem_map.1 hv
  rfl
theorem arr_seg {w : World} {g T f d : Nat} {ys : List Int} (h : Arr w g T ys) (hl : f + d ≤ ys.length) : ∀ j v, (((ys.drop f).take d).map (Value.int .i64))[j]? = some v → w.cell? (Addr.add ⟨g, f, none⟩ j) = some v := by
  intro j v hj
  have hjd : j < d := by
    have := (List.getElem?_eq_some_iff.1 hj).1
    rw [List.length_map, List.length_take] at this
    omega
  rw [List.getElem?_map, List.getElem?_take, if_pos hjd, List.getElem?_drop, List.getElem?_eq_getElem (by omega)] at hj
  obtain rfl := Option.some.inj hj
  rw [Addr.add_lit, h.cell (by omega), el_lt (by omega)]
theorem seg_len (ys : List Int) (f d : Nat) (h : f + d ≤ ys.length) : ((ys.drop f).take d).length = d := by rw [List.length_take, List.length_drop]; omega

theorem set_self (ys : List Int) {f : Nat} (h : f < ys.length) : ys.set f (el ys f) = ys := by
  refine ext_el (by simp) (fun i hi => ?_)
  by_cases e : f = i
  · subst e; rw [el_set_same h]
  · rw [el_set_ne e]
theorem cat_self (ys : List Int) {f : Nat} (h : f < ys.length) : ys.take f ++ [el ys f] ++ ys.drop (f + 1) = ys := by
  rw [List.append_assoc, List.singleton_append, ← drop_cons h, List.take_append_drop]
theorem rotR_zero (ys : List Int) {f : Nat} (h : f < ys.length) : rotR ys f 0 = ys := by
  rw [rotR, List.take_zero, List.append_nil, Nat.add_zero, cat_self ys h]
theorem rotL_zero (ys : List Int) {f : Nat} (h : f < ys.length) : rotL ys f 0 = ys := by
  rw [rotL, List.take_zero, List.append_nil, Nat.add_zero, cat_self ys h]

set_option maxHeartbeats 2000000 in
theorem lastFirst_any (V g n f d : Nat) (ys : List Int) (w : World) (hV : w.cell? ⟨V, 0, none⟩ = some (.slice (some ⟨g, 0, none⟩) n n)) (hA : Arr w g 3 ys) (hl : ys.length = n) (hn : n ≤ 1000) (hd : f + d + 1 ≤ n) :
    Calls Tryz.prog 125 #[.int .i64 f, .int .i64 ((f + d + 1 : Nat) : Int), .pointer (some ⟨V, 0, none⟩)] w (fun e w' => e = .returned (.tuple #[]) ∧ Arr w' g 3 (rotR ys f d) ∧ w.grownBy w' (some g)) := by
  have HA := hid hA
  clear hA
  by_cases hd00 : d = 0
  · subst hd00
    have hft : (f : Int) ≤ (f : Int) + 1 := by omega
    have htn : (f : Int) + 1 ≤ n := by omega
    have htf : f + 1 - f = 1 := by omega
    have hlast := HA.out.cell (j := f) (by omega)
    have hcf : f + (([] : List Int).map (Value.int .i64)).length ≤ (ys.map (Value.int .i64)).length := by simp; omega
    have Hcf := hid hcf
    clear hcf
    go_enter Tryz.func125, Tryz.ntmps125
    go_wp2_with (show wpList _ _ _ (Oper.mk (some 21) _ _ _ _ _ :: _) _ _; refine copy_row rfl (.tmp 19) (.tmp 20) 35 35 rfl 3 Tryz.underlying35 sizeI1 (some ⟨g, f, none⟩) (some ⟨g, f, none⟩) 0 0 1 1 rfl rfl g f (ys.map (Value.int .i64)) 3 HA.out.row (([] : List Int).map (Value.int .i64)) rfl (fun hq => absurd hq (by simp)) Hcf.out (ints1 _) ?_)
    intro w2 HG2 hg2
    have A2 : Arr w2 g 3 ys := by
      have e : w2.heap[g]? = some (.cells (splice (ys.map (Value.int .i64)) f (([] : List Int).map (Value.int .i64))).toArray 3 (0, 0)) := HG2.out
      rw [map_spl, List.append_nil, List.length_nil, Nat.add_zero, List.take_append_drop] at e
      exact e
    have hfr := A2.frozen f
    have hcl := A2.cell (j := f) (by omega)
    have A3 := A2.set f (el ys f)
    rw [set_self ys (by omega)] at A3
    have A3' : Arr (w2.setCell ⟨g, f, none⟩ (.int .i64 (el ys f))) g 3 (rotR ys f 0) := by rw [rotR_zero ys (by omega)]; exact A3
    have G3 := grown_trans hg2 (grown_set (w := w2) (g := g) (j := f) (v := .int .i64 (el ys f)))
    have AG := hid (And.intro A3' G3)
    clear A2 A3 A3' G3 hg2 HG2
    go_wp2
    go_returns
    exact ⟨rfl, AG.out.1, AG.out.2⟩
  · obtain ⟨t, ht⟩ : ∃ t, t = f + d + 1 := ⟨_, rfl⟩
    rw [← ht]
    have hft : (f : Int) ≤ t := by omega
    have htn : (t : Int) ≤ n := by omega
    have hft2 : ¬ t = f := by omega
    have htf : t - f = d + 1 := by omega
    have hd0 : 0 ≤ ((d + 1 : Nat) : Int) - 1 := by omega
    have hlast := HA.out.cell (j := f + d) (by omega)
    have Ht := hid ht
    clear ht
    have hcn : (((ys.drop f).take d).map (Value.int .i64)).length = Nat.min (d + 1) d := by
      have e : Nat.min (d + 1) d = min (d + 1) d := rfl
      rw [List.length_map, seg_len ys _ d (by omega), e]; omega
    have hcp : 0 < (((ys.drop f).take d).map (Value.int .i64)).length → (some ⟨g, f + 1, none⟩ : Option Addr) = some ⟨g, f + 1, none⟩ ∧ ∃ ad, (some ⟨g, f, none⟩ : Option Addr) = some ad ∧ ∀ (j : Nat) (v : Value), (((ys.drop f).take d).map (Value.int .i64))[j]? = some v → w.cell? (ad.add j) = some v :=
      fun _ => ⟨rfl, _, rfl, arr_seg HA.out (by omega)⟩
    have hcf : f + 1 + (((ys.drop f).take d).map (Value.int .i64)).length ≤ (ys.map (Value.int .i64)).length := by
      rw [List.length_map, List.length_map, seg_len ys _ d (by omega)]; omega
    have Hcn := hid hcn
    have Hcp := hid hcp
    have Hcf := hid hcf
    clear hcn hcp hcf
    go_enter Tryz.func125, Tryz.ntmps125
    go_wp2_with (show wpList _ _ _ (Oper.mk (some 21) _ _ _ _ _ :: _) _ _; refine copy_row rfl (.tmp 19) (.tmp 20) 35 35 rfl 3 Tryz.underlying35 sizeI1 (some ⟨g, f + 1, none⟩) (some ⟨g, f, none⟩) d d (d + 1) (d + 1) rfl rfl g (f + 1) (ys.map (Value.int .i64)) 3 HA.out.row (((ys.drop f).take d).map (Value.int .i64)) Hcn.out Hcp.out Hcf.out (ints1 _) ?_)
    intro w2 HG2 hg2
    have A2 : Arr w2 g 3 (ys.take (f + 1) ++ (ys.drop f).take d ++ ys.drop (f + 1 + d)) := by
      have e := HG2.out
      rw [← List.map_drop, ← List.map_take, map_spl, seg_len ys _ d (by omega)] at e
      exact e
    have hll : (ys.take (f + 1) ++ (ys.drop f).take d ++ ys.drop (f + 1 + d)).length = n := by simp; omega
    have hfr := A2.frozen f
    have hcl := A2.cell (j := f) (by rw [hll]; omega)
    have A3 := A2.set f (el ys (f + d))
    rw [rotR_eq ys f d (by omega)] at A3
    have G3 := grown_trans hg2 (grown_set (w := w2) (g := g) (j := f) (v := .int .i64 (el ys (f + d))))
    have AG := hid (And.intro A3 G3)
    clear A2 A3 G3 hg2 HG2 hll
    go_wp2
    go_returns
    exact ⟨rfl, AG.out.1, AG.out.2⟩

end Go.Proofs.YtaceiebmgnhdgaaGreatDoor
