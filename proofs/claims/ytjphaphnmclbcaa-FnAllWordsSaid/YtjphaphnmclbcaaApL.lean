/- append(out, lists...) for lists of lists of the call's own. No condition. -/
import Derived.Test.YtjphaphnmclbcaaBne
import Derived.Maps.AppendAt
namespace Go.Proofs.Ytjphaphnmclbcaa
open Go.RowKit

theorem ell_append_lt {yss zss : List (List Int)} {j : Nat} (h : j < yss.length) : ell (yss ++ zss) j = ell yss j := by simp [ell, List.getElem?_append_left h]
theorem ell_append_ge {yss zss : List (List Int)} {j : Nat} (h : yss.length ≤ j) : ell (yss ++ zss) j = ell zss (j - yss.length) := by simp [ell, List.getElem?_append_right h]
theorem app_lsts (w : World) {ops : Array Oper} {rest : List Oper} {o : Oper} {a : Act} {Q : Exit → Act → World → Prop}
    (hg : o.guard = none) (s x : Operand) (hop : o.op = Op.call { callee := Callee.builtin Builtin.append, args := #[s, x], argTypes := #[38, 38] })
    (B C D E : Nat) (u v : Value) (yss zss : List (List Int)) (h0 : OwnL w B C u yss) (hC : C ≤ D) (hv : OwnL w D E v zss) (hs : a.eval s = u) (hx : a.eval x = v) (hlen : yss.length + zss.length ≤ 2000000)
    (hK : ∀ u' w', OwnL w' B w'.heap.size u' (yss ++ zss) → Below B w w' → wpList Try.prog ops Q rest (a.put o.dst u') w') :
    wpList Try.prog ops Q (o :: rest) a w := by
  obtain ⟨i0, hi, hz0, hz1, hz2⟩ := info_parts infoL
  obtain ⟨vs, h1, h2, h3, h4⟩ := h0.ex
  obtain ⟨vz, k1, k2, k3, k4⟩ := hv.ex
  have hBC := h0.ge
  have hDE := hv.ge
  have hEw := hv.le
  have hvl : vs.length = yss.length := by rw [h1.1, Nat.mul_one]
  have hzl : vz.length = zss.length := by rw [k1.1, Nat.mul_one]
  rcases k1.2 with ⟨rfl, hz⟩ | ⟨g, cap, cur, rfl, hBg, hgc, r1, r2, r3, r4⟩
  · have hzn : zss = [] := List.eq_nil_of_length_eq_zero hz
    subst hzn
    refine wpList_append_own_none hg s x 38 hop B 23 i0 1 Try.underlying38 hi u yss.length _ hs h1 hx ?_
    refine hK u w ?_ (Below.refl _ _)
    rw [List.append_nil]
    exact h0.now
  · refine wpList_append_own_at (P := Try.prog) w hg s x 38 hop B 23 i0 (.slice none 0 0) 1 24 Try.underlying38 hi hz0 hz1 hz2 rfl (by decide) u yss.length vs hs h1 ⟨g, 0, none⟩ zss.length cap vz hx (by rw [hzl, Nat.mul_one]) ?_ ?_ ?_ ?_ ?_ ?_
    · intro j t hj
      have hjl : j < zss.length := by have := (List.getElem?_eq_some_iff.1 hj).1; omega
      have := World.ownsRow.cellAt k1 j (by omega)
      rw [hj] at this
      rw [Addr.add_lit, Nat.zero_add]
      exact this
    · intro t ht
      obtain ⟨j, hj, rfl⟩ := List.mem_iff_getElem.1 ht
      exact (k3 j _ (List.getElem?_eq_getElem hj)).1.oneCell
    · unfold maxLen; omega
    · omega
    · omega
    · intro u' w' hown' hgrow _ hblk
      have hsz := hgrow.size
      have hub : ∀ k, u.ownBlock = some k → B ≤ k ∧ k < C := fun k hk => ⟨(World.ownsRow.lt h1 k hk).1, (h2 k hk).1⟩
      have hmv : ∀ t, (∀ k, t.ownBlock = some k → k < w.heap.size) → Apart t u → Apart t u' := by
        intro t ht hap
        unfold Apart at *
        rcases hblk with e | e
        · rw [e]; exact hap
        · rw [e]
          cases e2 : t.ownBlock with
          | none => exact Or.inl rfl
          | some k => exact Or.inr (fun e3 => by have := ht k e2; have := Option.some.inj e3; omega)
      have hvu : ∀ j t, vz[j]? = some t → Apart t u := fun j t hj => by
        obtain ⟨p, q', -⟩ := k3 j t hj
        unfold Apart
        cases e : t.ownBlock with
        | none => exact Or.inl rfl
        | some k => exact Or.inr (fun e2 => by have a1 := (hub k e2.symm).2; have a2 := (p.blocks k e).1; omega)
      refine hK u' w' ⟨by omega, Nat.le_refl _, vs ++ vz, ?_, ?_, ?_, ?_⟩ ?_
      · rw [List.length_append]; exact hown'
      · intro k hk
        exact ⟨(World.ownsRow.lt hown' k hk).2, fun e => by cases e⟩
      · intro j t hj
        by_cases hjl : j < vs.length
        · rw [List.getElem?_append_left hjl] at hj
          obtain ⟨p, q', r⟩ := h3 j t hj
          rw [ell_append_lt (by omega)]
          exact ⟨p.kept hgrow r, fun k hk => ⟨by have := (q' k hk).1; omega, fun e => by cases e⟩, hmv t (fun k hk => by have := (q' k hk).1; omega) r⟩
        · rw [List.getElem?_append_right (by omega)] at hj
          have hap := hvu _ t hj
          obtain ⟨p, q', r⟩ := k3 _ t hj
          rw [ell_append_ge (by omega), ← hvl]
          exact ⟨(p.kept hgrow hap).mono (by omega), fun k hk => ⟨by have := (q' k hk).1; omega, fun e => by cases e⟩, hmv t (fun k hk => by have := (q' k hk).1; omega) hap⟩
      · intro i j t t' hij hti htj
        by_cases hjl : j < vs.length
        · rw [List.getElem?_append_left hjl] at htj
          rw [List.getElem?_append_left (by omega)] at hti
          exact h4 i j t t' hij hti htj
        · rw [List.getElem?_append_right (by omega)] at htj
          by_cases hil : i < vs.length
          · rw [List.getElem?_append_left hil] at hti
            unfold Apart
            cases e : t.ownBlock with
            | none => exact Or.inl rfl
            | some k => exact Or.inr (fun e2 => by have a1 := ((h3 i t hti).2.1 k e).1; have a2 := ((k3 _ t' htj).1.blocks k e2.symm).1; omega)
          · rw [List.getElem?_append_right (by omega)] at hti
            exact k4 _ _ t t' (by omega) hti htj
      · exact below_of_grown hgrow (by omega) (fun k hk => (hub k hk).1)

end Go.Proofs.Ytjphaphnmclbcaa
