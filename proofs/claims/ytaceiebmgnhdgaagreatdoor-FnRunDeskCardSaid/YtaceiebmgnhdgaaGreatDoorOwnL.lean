/- Words for lists of lists of numbers: what a call has made, how it fares in later worlds, how it is read, and how a list is appended to it. No condition. -/
import Derived.Test.YtaceiebmgnhdgaaGreatDoorApp2
namespace Go.Proofs.YtaceiebmgnhdgaaGreatDoor
open Go.RowKit

/-- The list at place j. -/
def ell (yss : List (List Int)) (j : Nat) : List Int := yss.getD j []
theorem ell_lt {yss : List (List Int)} {j : Nat} (h : j < yss.length) : ell yss j = yss[j] := by simp [ell, h]
theorem ell_app_lt {yss : List (List Int)} {ys : List Int} {j : Nat} (h : j < yss.length) : ell (yss ++ [ys]) j = ell yss j := by simp [ell, List.getElem?_append_left h]
theorem ell_app_eq {yss : List (List Int)} {ys : List Int} : ell (yss ++ [ys]) yss.length = ys := by simp [ell]
theorem ext_ell {xss yss : List (List Int)} (h : xss.length = yss.length) (hj : ∀ j, j < xss.length → ell xss j = ell yss j) : xss = yss := by
  apply List.ext_getElem h
  intro j h1 h2
  have := hj j h1
  rwa [ell_lt h1, ell_lt h2] at this

/-- Only blocks from lo on and below hi, and new ones, have changed. -/
structure Chg (lo hi : Nat) (w w' : World) : Prop where
  os : w'.os = w.os
  tape : w'.tape = w.tape
  output : w'.output = w.output
  size : w.heap.size ≤ w'.heap.size
  block : ∀ k, k < w.heap.size → (k < lo ∨ hi ≤ k) → w'.heap[k]? = w.heap[k]?
theorem Chg.of_below {lo hi : Nat} {w w' : World} (h : Below w.heap.size w w') : Chg lo hi w w' := ⟨h.os, h.tape, h.output, h.size, fun k hk _ => h.block k hk⟩
theorem Chg.of_grown {lo hi : Nat} {w w' : World} {row : Option Nat} (h : w.grownBy w' row) (hr : ∀ k, row = some k → lo ≤ k ∧ k < hi) : Chg lo hi w w' :=
  ⟨h.os, h.tape, h.output, h.size, fun k hk hk2 => h.block k hk (fun e => by have := hr k e.symm; omega)⟩
theorem Chg.refl (lo hi : Nat) (w : World) : Chg lo hi w w := ⟨rfl, rfl, rfl, Nat.le_refl _, fun _ _ _ => rfl⟩
theorem Chg.trans {lo hi : Nat} {a b c : World} (h : Chg lo hi a b) (k : Chg lo hi b c) : Chg lo hi a c :=
  ⟨k.os.trans h.os, k.tape.trans h.tape, k.output.trans h.output, Nat.le_trans h.size k.size, fun i hi hr => (k.block i (Nat.lt_of_lt_of_le hi h.size) hr).trans (h.block i hi hr)⟩
theorem Chg.below {B lo hi : Nat} {a w w' : World} (h : Below B a w) (k : Chg lo hi w w') (hB : B ≤ lo) (hw : B ≤ w.heap.size) : Below B a w' :=
  ⟨k.os.trans h.os, k.tape.trans h.tape, k.output.trans h.output, Nat.le_trans h.size k.size, fun i hi => (k.block i (by omega) (Or.inl (by omega))).trans (h.block i hi)⟩

/-- What a call made, in blocks from B on and below C. -/
structure OwnB (w : World) (B C : Nat) (u : Value) (ys : List Int) : Prop where
  own : Own w B u ys
  lt : ∀ k, u.ownBlock = some k → k < C
theorem Own.win {w : World} {B : Nat} {u : Value} {ys : List Int} (h : Own w B u ys) : OwnB w B w.heap.size u ys := ⟨h, fun k hk => (h.blocks k hk).2⟩
theorem OwnB.chg {w w' : World} {B C lo hi : Nat} {u : Value} {ys : List Int} (h : OwnB w B C u ys) (k : Chg lo hi w w') (hd : C ≤ lo ∨ hi ≤ B) : OwnB w' B C u ys := by
  refine ⟨⟨h.own.1, ?_⟩, h.lt⟩
  rcases h.own.2 with h2 | ⟨g, cap, cur, hv, hg, hh, r⟩
  · exact Or.inl h2
  · have hlt := h.lt g (by rw [hv]; rfl)
    exact Or.inr ⟨g, cap, cur, hv, hg, (k.block g (Array.getElem?_eq_some_iff.1 hh).1 (by omega)).trans hh, r⟩

/-- What a call made: a list of lists, all in blocks from B on and below C and not in block q, each apart from all others. -/
structure OwnLx (q : Option Nat) (w : World) (B C : Nat) (u : Value) (yss : List (List Int)) : Prop where
  ge : B ≤ C
  le : C ≤ w.heap.size
  ex : ∃ vs : List Value, w.ownsRow B 35 1 u yss.length vs ∧ (∀ k, u.ownBlock = some k → k < C ∧ q ≠ some k) ∧
    (∀ (j : Nat) (v : Value), vs[j]? = some v → Own w B v (ell yss j) ∧ (∀ k, v.ownBlock = some k → k < C ∧ q ≠ some k) ∧ Apart v u) ∧
    (∀ (i j : Nat) (v v' : Value), i < j → vs[i]? = some v → vs[j]? = some v' → Apart v v')
def OwnL (w : World) (B C : Nat) (u : Value) (yss : List (List Int)) : Prop := OwnLx none w B C u yss

theorem own_chg {w w' : World} {B : Nat} {u : Value} {ys : List Int} (h : Own w B u ys) (hk : ∀ k, u.ownBlock = some k → k < w.heap.size → w'.heap[k]? = w.heap[k]?) : Own w' B u ys := by
  refine ⟨h.1, ?_⟩
  rcases h.2 with h2 | ⟨g, cap, cur, hv, hg, hh, r⟩
  · exact Or.inl h2
  · exact Or.inr ⟨g, cap, cur, hv, hg, (hk g (by rw [hv]; rfl) (Array.getElem?_eq_some_iff.1 hh).1).trans hh, r⟩

theorem OwnLx.kept {q : Option Nat} {w w' : World} {B C : Nat} {u : Value} {yss : List (List Int)} (h : OwnLx q w B C u yss) (hs : w.heap.size ≤ w'.heap.size) (hk : ∀ k, B ≤ k → k < C → q ≠ some k → w'.heap[k]? = w.heap[k]?) : OwnLx q w' B C u yss := by
  obtain ⟨vs, h1, h2, h3, h4⟩ := h.ex
  refine ⟨h.ge, Nat.le_trans h.le hs, vs, ⟨h1.1, ?_⟩, h2, fun j v hj => ?_, h4⟩
  · rcases h1.2 with h5 | ⟨g, cap, cur, hv, hg, hh, r⟩
    · exact Or.inl h5
    · have hlt := h2 g (by rw [hv]; rfl)
      exact Or.inr ⟨g, cap, cur, hv, hg, (hk g hg hlt.1 hlt.2).trans hh, r⟩
  · obtain ⟨a, b, c⟩ := h3 j v hj
    exact ⟨own_chg a (fun k e _ => hk k (a.blocks k e).1 (b k e).1 (b k e).2), b, c⟩
theorem OwnLx.chg {q : Option Nat} {w w' : World} {B C lo hi : Nat} {u : Value} {yss : List (List Int)} (h : OwnLx q w B C u yss) (k : Chg lo hi w w') (hd : C ≤ lo ∨ hi ≤ B) : OwnLx q w' B C u yss :=
  h.kept k.size (fun j h1 h2 _ => k.block j (Nat.lt_of_lt_of_le h2 h.le) (by omega))
theorem OwnL.chg {w w' : World} {B C lo hi : Nat} {u : Value} {yss : List (List Int)} (h : OwnL w B C u yss) (k : Chg lo hi w w') (hd : C ≤ lo ∨ hi ≤ B) : OwnL w' B C u yss := OwnLx.chg h k hd
theorem OwnLx.later {q : Option Nat} {w w' : World} {B C : Nat} {u : Value} {yss : List (List Int)} (h : OwnLx q w B C u yss) (k : Below w.heap.size w w') : OwnLx q w' B C u yss :=
  h.chg (Chg.of_below (lo := C) (hi := C) k) (Or.inl (Nat.le_refl _))
theorem OwnL.later {w w' : World} {B C : Nat} {u : Value} {yss : List (List Int)} (h : OwnL w B C u yss) (k : Below w.heap.size w w') : OwnL w' B C u yss := OwnLx.later h k
/-- A store into the block that is left out. -/
theorem OwnLx.set {g : Nat} {w : World} {B C : Nat} {u : Value} {yss : List (List Int)} (h : OwnLx (some g) w B C u yss) (j : Nat) (v : Value) : OwnLx (some g) (w.setCell ⟨g, j, none⟩ v) B C u yss :=
  h.kept (by simp [World.setCell]) (fun k _ _ hk => Below.heap_setCell _ _ _ _ (fun e => hk (congrArg some e.symm)))
theorem OwnLx.mono {q : Option Nat} {w : World} {B B' C : Nat} {u : Value} {yss : List (List Int)} (h : OwnLx q w B C u yss) (hB : B' ≤ B) : OwnLx q w B' C u yss := by
  obtain ⟨vs, h1, h2, h3, h4⟩ := h.ex
  refine ⟨Nat.le_trans hB h.ge, h.le, vs, ⟨h1.1, ?_⟩, h2, fun j v hj => ?_, h4⟩
  · rcases h1.2 with h5 | ⟨g, cap, cur, hv, hg, r⟩
    · exact Or.inl h5
    · exact Or.inr ⟨g, cap, cur, hv, Nat.le_trans hB hg, r⟩
  · obtain ⟨a, b, c⟩ := h3 j v hj
    exact ⟨a.mono hB, b, c⟩
theorem OwnL.mono {w : World} {B B' C : Nat} {u : Value} {yss : List (List Int)} (h : OwnL w B C u yss) (hB : B' ≤ B) : OwnL w B' C u yss := OwnLx.mono h hB
theorem OwnLx.any {q : Option Nat} {w : World} {B C : Nat} {u : Value} {yss : List (List Int)} (h : OwnLx q w B C u yss) : OwnL w B C u yss := by
  obtain ⟨vs, h1, h2, h3, h4⟩ := h.ex
  exact ⟨h.ge, h.le, vs, h1, fun k hk => ⟨(h2 k hk).1, fun e => by cases e⟩, fun j v hj => ⟨(h3 j v hj).1, fun k hk => ⟨((h3 j v hj).2.1 k hk).1, fun e => by cases e⟩, (h3 j v hj).2.2⟩, h4⟩
theorem OwnLx.now {q : Option Nat} {w : World} {B C : Nat} {u : Value} {yss : List (List Int)} (h : OwnLx q w B C u yss) : OwnLx q w B w.heap.size u yss := by
  obtain ⟨vs, h1, h2, h3, h4⟩ := h.ex
  have := h.le
  exact ⟨Nat.le_trans h.ge h.le, Nat.le_refl _, vs, h1, fun k hk => ⟨by have := (h2 k hk).1; omega, (h2 k hk).2⟩, fun j v hj => ⟨(h3 j v hj).1, fun k hk => ⟨by have := ((h3 j v hj).2.1 k hk).1; omega, ((h3 j v hj).2.1 k hk).2⟩, (h3 j v hj).2.2⟩, h4⟩
theorem OwnL.now {w : World} {B C : Nat} {u : Value} {yss : List (List Int)} (h : OwnL w B C u yss) : OwnL w B w.heap.size u yss := OwnLx.now h
theorem OwnL.drewN {w : World} {B C : Nat} {u : Value} {yss : List (List Int)} (h : OwnL w B C u yss) (m : Nat) : OwnL (w.drewN m) B C u yss := h.later (drewN_below (Below.refl _ _) m)

/-- The slice value with address ao, length n and capacity cap reads as the lists yss. -/
structure SlL (w : World) (ao : Option Addr) (n cap : Nat) (yss : List (List Int)) : Prop where
  len : yss.length = n
  le : n ≤ cap
  max : cap ≤ maxLen
  row : 0 < n → ∃ b off, ao = some ⟨b, off, none⟩ ∧ b < w.heap.size ∧ ∀ j, j < n → ∃ ai ci, w.cell? ⟨b, off + j, none⟩ = some (.slice ai (ell yss j).length ci) ∧ Sl w ai (ell yss j).length ci (ell yss j)
theorem SlL.later {w w' : World} {ao : Option Addr} {n cap : Nat} {yss : List (List Int)} (h : SlL w ao n cap yss) (hb : Below w.heap.size w w') : SlL w' ao n cap yss := by
  refine ⟨h.len, h.le, h.max, fun hn => ?_⟩
  obtain ⟨b, off, rfl, hlt, hc⟩ := h.row hn
  refine ⟨b, off, rfl, Nat.lt_of_lt_of_le hlt hb.size, fun j hj => ?_⟩
  obtain ⟨ai, ci, h1, h2⟩ := hc j hj
  exact ⟨ai, ci, (hb.cell hlt).trans h1, h2.later hb⟩
theorem SlL.big {w : World} {ao : Option Addr} {n cap : Nat} {yss : List (List Int)} (h : SlL w ao n cap yss) : n ≤ 9223372036854775807 := by
  have := h.le
  have := h.max
  unfold maxLen at this
  omega
theorem SlL.nil {w : World} : SlL w none 0 0 [] := ⟨rfl, Nat.le_refl _, Nat.zero_le _, fun h => by omega⟩
theorem own_one' (w : World) (x : Int) (B : Nat) (hB : B ≤ w.heap.size) : Own (w.alloc (.cells #[.int .i64 x] 3)) B (.slice (some ⟨w.heap.size, 0, none⟩) 1 1) [x] :=
  World.ownsRow_lit w #[.int .i64 x] 1 hB (by decide) rfl
theorem OwnL.sl {w : World} {B C : Nat} {u : Value} {yss : List (List Int)} (h : OwnL w B C u yss) : ∃ ao cap, u = .slice ao yss.length cap ∧ SlL w ao yss.length cap yss := by
  obtain ⟨vs, h1, h2, h3, h4⟩ := h.ex
  have h0 := h1
  rcases h1.2 with ⟨rfl, h5⟩ | ⟨g, cap, cur, rfl, hB, hg, h5, h6, h7, h8⟩
  · have : yss = [] := List.eq_nil_of_length_eq_zero h5
    subst this
    exact ⟨none, 0, rfl, SlL.nil⟩
  · refine ⟨_, cap, rfl, rfl, h5, h6, fun hn => ⟨g, 0, rfl, (Array.getElem?_eq_some_iff.1 hg).1, fun j hj => ?_⟩⟩
    have hl : vs.length = yss.length := by rw [h0.1, Nat.mul_one]
    have hv : vs[j]? = some vs[j] := List.getElem?_eq_getElem (by omega)
    have hc := World.ownsRow.cellAt h0 j (by omega)
    obtain ⟨ai, ci, e, hs⟩ := (h3 j _ hv).1.sl
    refine ⟨ai, ci, ?_, hs⟩
    rw [Nat.zero_add, hc, ← e]
    try simp
theorem OwnL.nil {w : World} {B : Nat} (hB : B ≤ w.heap.size) : OwnL w B B (.slice none 0 0) [] :=
  ⟨Nat.le_refl _, hB, [], World.ownsRow_nil _ _ _ _, fun k hk => by simp [Value.ownBlock] at hk, fun j v hj => by simp at hj, fun i j v v' _ hj => by simp at hj⟩
theorem ownLx_lit {w : World} {B : Nat} {q : Option Nat} (hB : B ≤ w.heap.size) (hq : q ≠ some w.heap.size) : OwnLx q (w.alloc (.cells #[] 35)) B (w.heap.size + 1) (.slice (some ⟨w.heap.size, 0, none⟩) 0 0) [] :=
  ⟨by omega, by simp, [], World.ownsRow_lit w #[] 0 hB (Nat.zero_le _) rfl, fun k hk => by
    simp [Value.ownBlock] at hk
    subst hk
    exact ⟨by omega, hq⟩, fun j v hj => by simp at hj, fun i j v v' _ hj => by simp at hj⟩
theorem ownL_lit {w : World} {B : Nat} (hB : B ≤ w.heap.size) : OwnL (w.alloc (.cells #[] 35)) B (w.heap.size + 1) (.slice (some ⟨w.heap.size, 0, none⟩) 0 0) [] := ownLx_lit hB (fun e => by cases e)

theorem Own.oneCell {w : World} {B : Nat} {u : Value} {ys : List Int} (h : Own w B u ys) : u.oneCell' = true := by
  rcases h.place with ⟨rfl, _⟩ | ⟨g, cap, rfl, _⟩
  · rfl
  · rfl

theorem infoL : (Tryz.prog.info? 35).map (fun i => (i.zero, i.size, i.bytes)) = some (some (.slice none 0 0), 1, 24) := by kernel_rfl

/-- append(out, list), out the call's own, the list newer than it. -/
theorem app_lstx (q : Option Nat) (D : Nat) (w : World) (v : Value) (ys : List Int) {ops : Array Oper} {rest : List Oper} {o : Oper} {a : Act} {Q : Exit → Act → World → Prop}
    (hg : o.guard = none) (s x : Operand) (hop : o.op = Op.call { callee := Callee.builtin Builtin.append, args := #[s, x], argTypes := #[91, 91] })
    (B C : Nat) (u : Value) (yss : List (List Int)) (h0 : OwnLx q w B C u yss) (hC : C ≤ D) (hws : D ≤ w.heap.size) (hq : ∀ k, q = some k → k < D) (hv : Own w D v ys) (hs : a.eval s = u) (hx : a.eval x = .slice (some ⟨w.heap.size, 0, none⟩) 1 1) (hlen : yss.length ≤ 2000000)
    (hK : ∀ u' w', OwnLx q w' B w'.heap.size u' (yss ++ [ys]) → Below B w w' → w.grownBy w' u.ownBlock → wpList Tryz.prog ops Q rest (a.put o.dst u') w') :
    wpList Tryz.prog ops Q (o :: rest) a (w.alloc (.cells #[v] 35)) := by
  obtain ⟨i0, hi, hz0, hz1, hz2⟩ := info_parts infoL
  obtain ⟨vs, h1, h2, h3, h4⟩ := h0.ex
  have hBC := h0.ge
  have hone := hv.oneCell
  have hvb := hv.blocks
  refine wpList_plain hg fun _ hK' => wp_app2 (P := Tryz.prog) _ s x 91 hop B 35 i0 (.slice none 0 0) Tryz.underlying91 hi hz0 hz1 (by rw [hz2]; decide) rfl u yss.length vs hs (World.ownsRow.alloc h1 _) ⟨w.heap.size, 0, none⟩ 1 v hx ?_ hone hlen ?_ ?_
  · simp
  · simp; omega
  · intro u' w' hown' hgrow hk
    have hgr : w.grownBy w' u.ownBlock := grown_trans (World.grownBy_alloc w _ _) hgrow
    have hsz : w.heap.size + 1 ≤ w'.heap.size := by have := hgrow.size; simpa using this
    have hblk : u'.ownBlock = u.ownBlock ∨ u'.ownBlock = some (w.heap.size + 1) := by
      rcases hk with hk | hk
      · exact Or.inl hk
      · exact Or.inr (by rw [hk]; simp)
    have hub : ∀ k, u.ownBlock = some k → B ≤ k := fun k hk => (World.ownsRow.lt h1 k hk).1
    have hvl : vs.length = yss.length := by rw [h1.1, Nat.mul_one]
    have hvu : Apart v u := by
      unfold Apart
      cases e : v.ownBlock with
      | none => exact Or.inl rfl
      | some k => exact Or.inr (fun e2 => by have a1 := (h2 k e2.symm).1; have a2 := (hvb k e).1; omega)
    have hmv : ∀ t, (∀ k, t.ownBlock = some k → k < w.heap.size) → Apart t u → Apart t u' := by
      intro t ht hap
      unfold Apart at *
      rcases hblk with e | e
      · rw [e]; exact hap
      · rw [e]
        cases e2 : t.ownBlock with
        | none => exact Or.inl rfl
        | some k => exact Or.inr (fun e3 => by have := ht k e2; have := Option.some.inj e3; omega)
    have hqn : ∀ k, D ≤ k → q ≠ some k := fun k hk e => by have := hq k e; omega
    refine hK' _ _ (hK u' w' ⟨by omega, Nat.le_refl _, vs ++ [v], ?_, ?_, ?_, ?_⟩ ?_ hgr)
    · rw [List.length_append]; exact hown'
    · intro k hk
      refine ⟨(World.ownsRow.lt hown' k hk).2, ?_⟩
      rcases hblk with e | e
      · rw [e] at hk; exact (h2 k hk).2
      · rw [e] at hk; obtain rfl := Option.some.inj hk; exact hqn _ (by omega)
    · intro j t hj
      by_cases hjl : j < vs.length
      · rw [List.getElem?_append_left hjl] at hj
        obtain ⟨p, q', r⟩ := h3 j t hj
        rw [ell_app_lt (by omega)]
        exact ⟨p.kept hgr r, fun k hk => ⟨by have := (q' k hk).1; omega, (q' k hk).2⟩, hmv t (fun k hk => by have := (q' k hk).1; omega) r⟩
      · have hj2 : j = yss.length := by
          have := (List.getElem?_eq_some_iff.1 hj).1
          rw [List.length_append, List.length_singleton] at this
          omega
        subst hj2
        rw [List.getElem?_append_right (by omega), hvl, Nat.sub_self] at hj
        simp at hj
        subst hj
        rw [ell_app_eq]
        exact ⟨(hv.kept hgr hvu).mono (by omega), fun k hk => ⟨by have := (hvb k hk).2; omega, hqn k (hvb k hk).1⟩, hmv v (fun k hk => (hvb k hk).2) hvu⟩
    · intro i j t t' hij hti htj
      have hil : i < vs.length := by
        have := (List.getElem?_eq_some_iff.1 htj).1
        rw [List.length_append, List.length_singleton] at this
        omega
      rw [List.getElem?_append_left hil] at hti
      by_cases hjl : j < vs.length
      · rw [List.getElem?_append_left hjl] at htj
        exact h4 i j t t' hij hti htj
      · have hj2 : j = vs.length := by
          have := (List.getElem?_eq_some_iff.1 htj).1
          rw [List.length_append, List.length_singleton] at this
          omega
        subst hj2
        rw [List.getElem?_append_right (Nat.le_refl _), Nat.sub_self] at htj
        simp at htj
        subst htj
        unfold Apart
        cases e : t.ownBlock with
        | none => exact Or.inl rfl
        | some k => exact Or.inr (fun e2 => by have a1 := ((h3 i t hti).2.1 k e).1; have a2 := (hvb k e2.symm).1; omega)
    · exact below_of_grown hgr (by omega) (fun k hk => hub k hk)

theorem app_lst (w0 w : World) (v : Value) (ys : List Int) {ops : Array Oper} {rest : List Oper} {o : Oper} {a : Act} {Q : Exit → Act → World → Prop}
    (hg : o.guard = none) (s x : Operand) (hop : o.op = Op.call { callee := Callee.builtin Builtin.append, args := #[s, x], argTypes := #[91, 91] })
    (B C : Nat) (u : Value) (yss : List (List Int)) (h0 : OwnL w0 B C u yss) (hb : Below w0.heap.size w0 w) (hv : Own w w0.heap.size v ys) (hs : a.eval s = u) (hx : a.eval x = .slice (some ⟨w.heap.size, 0, none⟩) 1 1) (hlen : yss.length ≤ 2000000)
    (hK : ∀ u' w', OwnL w' B w'.heap.size u' (yss ++ [ys]) → Below B w w' → wpList Tryz.prog ops Q rest (a.put o.dst u') w') :
    wpList Tryz.prog ops Q (o :: rest) a (w.alloc (.cells #[v] 35)) :=
  app_lstx none w0.heap.size w v ys hg s x hop B C u yss (OwnLx.later h0 hb) (OwnLx.le h0) hb.size (fun k e => by cases e) hv hs hx hlen (fun u' w' h1 h2 _ => hK u' w' h1 h2)

/-- A call made a list of lists, and turned nothing that was there. -/
def MadeL (w : World) (yss : List (List Int)) (e : Ending) (w' : World) : Prop := ∃ u, e = .returned u ∧ OwnL w' w.heap.size w'.heap.size u yss ∧ Below w.heap.size w w'
theorem madeL_to {P : Program} {f : FuncId} {a : Array Value} {w : World} {v v' : List (List Int)} (h : Calls P f a w (MadeL w v)) (e : v = v') : Calls P f a w (MadeL w v') := e ▸ h
/-- A list for an order, nil for other numbers. -/
def onVL (xs : List Int) (yss : List (List Int)) : List (List Int) := if Valid xs then yss else []
theorem onVL_yes {xs : List Int} {yss : List (List Int)} (h : Valid xs) : onVL xs yss = yss := if_pos h
theorem onVL_no {xs : List Int} {yss : List (List Int)} (h : ¬ Valid xs) : onVL xs yss = [] := if_neg h

end Go.Proofs.YtaceiebmgnhdgaaGreatDoor
