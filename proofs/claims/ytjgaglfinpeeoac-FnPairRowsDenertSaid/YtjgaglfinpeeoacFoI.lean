/- Pieces that are turned, in the program's closures. Condition: the slice is an array of the call's own. -/
import Derived.Test.YtjgaglfinpeeoacBnd
import Derived.Test.YtjgaglfinpeeoacMirF
import Derived.Laws.CopyOwn
namespace Go.Proofs.Ytjgaglfinpeeoac
open Go.RowKit

theorem copy_row {P : Program} {w : World} {ops : Array Oper} {rest : List Oper} {o : Oper} {a : Act} {Q : Exit → Act → World → Prop} (hgd : o.guard = none) (d s : Operand) (dT sT : TypeId)
    (ho : o.op = .call { callee := .builtin .copy, args := #[d, s], argTypes := #[dT, sT] }) (elem : TypeId) (hu : P.underlying dT = some (.slice elem)) (hsz : (P.info? elem).map (·.size) = some 1)
    (dp sp : Option Addr) (dLen dCap sLen sCap : Nat) (hd : a.eval d = .slice dp dLen dCap) (hs : a.eval s = .slice sp sLen sCap)
    (g off : Nat) (cur : List Value) (t : TypeId) (hg : w.heap[g]? = some (.cells cur.toArray t (0, 0))) (cs : List Value) (hn : cs.length = Nat.min sLen dLen)
    (hpos : 0 < cs.length → dp = some ⟨g, off, none⟩ ∧ ∃ ad, sp = some ad ∧ ∀ j v, cs[j]? = some v → w.cell? (ad.add j) = some v)
    (hfit : off + cs.length ≤ cur.length) (h1 : ∀ v ∈ cs, v.oneCell' = true)
    (h : ∀ w', Hid (w'.heap[g]? = some (.cells (splice cur off cs).toArray t (0, 0))) → w.grownBy w' (some g) → wpList P ops Q rest (a.put o.dst (goInt cs.length)) w') :
    wpList P ops Q (o :: rest) a w := by
  by_cases h0 : cs.length = 0
  · obtain rfl : cs = [] := List.eq_nil_of_length_eq_zero h0
    refine wpList_copy_nothing hgd d s dT sT ho elem hu hsz dp sp dLen dCap sLen sCap hd hs (by simpa using hn.symm) ?_
    exact h w (show _ = _ by simpa [splice] using hg) (World.grownBy.refl _ _)
  · obtain ⟨rfl, ad, rfl, hsrc⟩ := hpos (by omega)
    refine wpList_copy_own hgd d s dT sT ho elem hu hsz g off dLen dCap ad sLen sCap hd hs cur.toArray t hg cs hn hsrc (by simpa using hfit) h1 ?_
    exact h _ (show _ = _ by simpa [splice] using setRow_heap w g _ _ t _ hg) ⟨rfl, rfl, rfl, by simp [World.setRow], fun k _ hk => setRow_other w g k _ (fun e => hk (by rw [e]))⟩

theorem sizeI1 : (Try.prog.info? 3).map (·.size) = some 1 := by kernel_rfl

/-- The piece from place f on, of d + 1 numbers, with its last number first, or its first number last. -/
def rotR (ys : List Int) (f d : Nat) : List Int := ys.take f ++ [el ys (f + d)] ++ (ys.drop f).take d ++ ys.drop (f + d + 1)
def rotL (ys : List Int) (f d : Nat) : List Int := ys.take f ++ (ys.drop (f + 1)).take d ++ [el ys f] ++ ys.drop (f + d + 1)
theorem map_spl (ys cs : List Int) (o : Nat) : splice (ys.map (Value.int .i64)) o (cs.map (Value.int .i64)) = (ys.take o ++ cs ++ ys.drop (o + cs.length)).map (Value.int .i64) := by
  rw [splice, List.map_append, List.map_append, List.map_take, List.map_drop, List.length_map, List.append_assoc]
theorem rotR_eq (ys : List Int) (f d : Nat) (h : f + d + 1 ≤ ys.length) : (ys.take (f + 1) ++ (ys.drop f).take d ++ ys.drop (f + 1 + d)).set f (el ys (f + d)) = rotR ys f d := by
  rw [take_el (by omega), rotR, show f + 1 + d = f + d + 1 by omega]
  have hl : (ys.take f).length = f := by rw [List.length_take]; omega
  simp only [List.append_assoc]
  rw [List.set_append_right _ _ (by omega), hl, Nat.sub_self]
  rfl
theorem rotL_eq (ys : List Int) (f d : Nat) (h : f + d + 1 ≤ ys.length) : (ys.take f ++ (ys.drop (f + 1)).take d ++ ys.drop (f + d)).set (f + d) (el ys f) = rotL ys f d := by
  have hl : (ys.take f ++ (ys.drop (f + 1)).take d).length = f + d := by rw [List.length_append, List.length_take, List.length_take, List.length_drop]; omega
  rw [List.set_append_right _ _ (by omega), hl, Nat.sub_self, drop_cons (show f + d < ys.length by omega), rotL]
  simp
theorem Arr.row {w : World} {g T : Nat} {fs : List Int} (h : Arr w g T fs) : w.heap[g]? = some (.cells (fs.map (Value.int .i64)).toArray T (0, 0)) := h
theorem ints1 (zs : List Int) : ∀ v ∈ zs.map (Value.int .i64), v.oneCell' = true := by
  intro v hv
  obtain ⟨x, _, rfl⟩ := List.mem_map.1 hv
  rfl
theorem arr_seg {w : World} {g T f d : Nat} {ys : List Int} (h : Arr w g T ys) (hl : f + d ≤ ys.length) : ∀ j v, (((ys.drop f).take d).map (Value.int .i64))[j]? = some v → w.cell? (Addr.add ⟨g, f, none⟩ j) = some v := by
  intro j v hj
  have hjd : j < d := by
    have := (List.getElem?_eq_some_iff.1 hj).1
    rw [List.length_map, List.length_take] at this
    omega
  rw [List.getElem?_map, List.getElem?_take, if_pos hjd, List.getElem?_drop, List.getElem?_eq_getElem (by omega)] at hj
  obtain rfl := Option.some.inj hj
  rw [Addr.add_lit, h.cell (by omega), el_lt (by omega)]
theorem seg_len (ys : List Int) (f d : Nat) (h : f + d ≤ ys.length) : ((ys.drop f).take d).length = d := by rw [List.length_take, List.length_drop]; omega

theorem set_self (ys : List Int) {f : Nat} (h : f < ys.length) : ys.set f (el ys f) = ys := by
  refine ext_el (by simp) (fun i hi => ?_)
  by_cases e : f = i
  · subst e; rw [el_set_same h]
  · rw [el_set_ne e]
theorem cat_self (ys : List Int) {f : Nat} (h : f < ys.length) : ys.take f ++ [el ys f] ++ ys.drop (f + 1) = ys := by
  rw [List.append_assoc, List.singleton_append, ← drop_cons h, List.take_append_drop]
theorem rotR_zero (ys : List Int) {f : Nat} (h : f < ys.length) : rotR ys f 0 = ys := by
  rw [rotR, List.take_zero, List.append_nil, Nat.add_zero, cat_self ys h]
theorem rotL_zero (ys : List Int) {f : Nat} (h : f < ys.length) : rotL ys f 0 = ys := by
  rw [rotL, List.take_zero, List.append_nil, Nat.add_zero, cat_self ys h]

end Go.Proofs.Ytjgaglfinpeeoac
