/- The sign of a product of orders is the product of their signs; its inverse is the product of the inverses, turned. No condition. -/
import Derived.Test.YtagfmimaaedolaaFinSign
namespace Go.Proofs.Ytagfmimaaedolaa

theorem comp_len (xs ys : List Int) : (comp xs ys).length = ys.length := map_range_len _
theorem el_comp {xs ys : List Int} {k : Nat} (h : k < ys.length) : el (comp xs ys) k = el xs (el ys k).toNat := el_map h

theorem comp_valid {xs ys : List Int} (h : Mat xs ys) : Valid (comp xs ys) := by
  obtain ⟨hx, hy, hl⟩ := h
  have key : ∀ k, k < ys.length → (el ys k).toNat < xs.length := fun k hk => by have := hy.lo k hk; have := hy.hi k hk; omega
  refine ⟨by rw [comp_len]; exact hy.len, fun j hj => ?_, fun j hj => ?_, fun i j hij hj => ?_⟩
  · rw [comp_len] at hj; rw [el_comp hj]; exact hx.lo _ (key j hj)
  · rw [comp_len] at hj ⊢; rw [el_comp hj, ← hl]; exact hx.hi _ (key j hj)
  · rw [comp_len] at hj
    rw [el_comp hj, el_comp (by omega)]
    have e := hy.ne i j hij hj
    have a1 := hy.lo i (by omega)
    have a2 := hy.lo j hj
    rcases Nat.lt_or_ge (el ys i).toNat (el ys j).toNat with a | a
    · exact hx.ne _ _ a (key j hj)
    · exact fun e2 => hx.ne (el ys j).toNat (el ys i).toNat (by omega) (key i (by omega)) e2.symm

theorem inv_comp {xs ys : List Int} (h : Mat xs ys) : comp (inv ys) (inv xs) = inv (comp xs ys) := by
  have hc := comp_valid h
  obtain ⟨hx, hy, hl⟩ := h
  refine ext_el (by rw [comp_len, inv_length, inv_length, comp_len, hl]) (fun v hv => ?_)
  rw [comp_len, inv_length] at hv
  obtain ⟨k, hk, e1, e2⟩ := inv_at hc (v := v) (by rw [comp_len]; omega)
  rw [comp_len] at hk
  rw [e2, el_comp (by rw [inv_length]; exact hv)]
  rw [el_comp hk] at e1
  have a1 := hy.lo k hk
  have a2 := hy.hi k hk
  have h1 := inv_el hx (k := (el ys k).toNat) (by omega)
  rw [e1] at h1
  have h2 : el (inv xs) v = ((el ys k).toNat : Nat) := h1
  rw [h2]
  exact inv_el hy hk

def SS (n : Nat) (f : Nat → Nat → Int) : Int := S (fun i => S (fun t => f i t) n) n
theorem SS_congr {n : Nat} {f g : Nat → Nat → Int} (h : ∀ i t, i < n → t < n → f i t = g i t) : SS n f = SS n g :=
  S_congr n (fun i hi => S_congr n (fun t ht => h i t hi ht))
theorem SS_add (n : Nat) (f g : Nat → Nat → Int) : SS n (fun i t => f i t + g i t) = SS n f + SS n g := by
  unfold SS
  rw [← S_add]
  exact S_congr n (fun i _ => S_add _ _ n)
theorem SS_swap (n : Nat) (f : Nat → Nat → Int) : SS n (fun i t => f t i) = SS n f := S_swap (fun a b => f b a) n n
theorem SS_perm {ys : List Int} (h : Valid ys) (f : Nat → Nat → Int) : SS ys.length (fun i t => f (el ys i).toNat (el ys t).toNat) = SS ys.length f := by
  unfold SS
  rw [← S_perm h (fun i => S (fun t => f i t) ys.length)]
  exact S_congr _ (fun i _ => S_perm h (fun t => f (el ys i).toNat t))

/-- Whether two places are an inversion, in one order or the other. -/
def sy (xs : List Int) (u v : Nat) : Int := pr xs u v + pr xs v u
theorem sy_self (xs : List Int) (u : Nat) : sy xs u u = 0 := by unfold sy pr; rw [if_neg (by omega)]; rfl
theorem sy_comm (xs : List Int) (u v : Nat) : sy xs u v = sy xs v u := by unfold sy; omega

theorem half {xs ys : List Int} (h : Mat xs ys) : SS ys.length (fun i t => if t < i then sy xs (el ys i).toNat (el ys t).toNat else 0) = sumL (table xs) := by
  obtain ⟨hx, hy, hl⟩ := h
  have h1 : SS ys.length (fun i t => sy xs (el ys i).toNat (el ys t).toNat) = SS ys.length (sy xs) := SS_perm hy (sy xs)
  have h2 : SS ys.length (sy xs) = SS ys.length (pr xs) + SS ys.length (pr xs) := by
    have a : SS ys.length (sy xs) = SS ys.length (fun i t => pr xs i t + (fun i t => pr xs t i) i t) := rfl
    rw [a, SS_add, SS_swap]
  have h3 : SS ys.length (fun i t => sy xs (el ys i).toNat (el ys t).toNat) = SS ys.length (fun i t => (if t < i then sy xs (el ys i).toNat (el ys t).toNat else 0) + (fun i t => if i < t then sy xs (el ys t).toNat (el ys i).toNat else 0) i t) := by
    refine SS_congr (fun i t _ _ => ?_)
    show sy xs (el ys i).toNat (el ys t).toNat = (if t < i then sy xs (el ys i).toNat (el ys t).toNat else 0) + (if i < t then sy xs (el ys t).toNat (el ys i).toNat else 0)
    rcases Nat.lt_trichotomy t i with a | a | a
    · rw [if_pos a, if_neg (by omega)]; omega
    · subst a; rw [sy_self, if_neg (by omega)]; rfl
    · rw [if_neg (by omega), if_pos a, sy_comm]; omega
  have h4 : SS ys.length (fun i t => if i < t then sy xs (el ys t).toNat (el ys i).toNat else 0) = SS ys.length (fun i t => if t < i then sy xs (el ys i).toNat (el ys t).toNat else 0) :=
    SS_swap ys.length (fun i t => if t < i then sy xs (el ys i).toNat (el ys t).toNat else 0)
  have h5 := SS_add ys.length (fun i t => if t < i then sy xs (el ys i).toNat (el ys t).toNat else 0) (fun i t => if i < t then sy xs (el ys t).toNat (el ys i).toNat else 0)
  rw [h4] at h5
  have h6 : SS ys.length (pr xs) = sumL (table xs) := by rw [invs_pr, hl]; rfl
  have h7 := h3.trans h5
  rw [h1, h2, h6] at h7
  omega

theorem pr_01 (xs : List Int) (i t : Nat) : pr xs i t = 0 ∨ pr xs i t = 1 := by
  unfold pr
  split
  · split <;> simp
  · simp

theorem invs_comp {xs ys : List Int} (h : Mat xs ys) : ∃ z : Int, sumL (table (comp xs ys)) + 2 * z = sumL (table ys) + sumL (table xs) := by
  have hh := half h
  obtain ⟨hx, hy, hl⟩ := h
  refine ⟨SS ys.length (fun i t => if pr ys i t = 1 then sy xs (el ys i).toNat (el ys t).toNat else 0), ?_⟩
  obtain ⟨Z, hZ⟩ : ∃ Z : Nat → Nat → Int, Z = fun i t => if pr ys i t = 1 then sy xs (el ys i).toNat (el ys t).toNat else 0 := ⟨_, rfl⟩
  rw [← hZ, ← hh, invs_pr, comp_len, invs_pr]
  have e : SS ys.length (fun i t => pr (comp xs ys) i t + (fun i t => Z i t + Z i t) i t) = SS ys.length (fun i t => pr ys i t + (fun i t => if t < i then sy xs (el ys i).toNat (el ys t).toNat else 0) i t) := by
    refine SS_congr (fun i t hi ht => ?_)
    show pr (comp xs ys) i t + (Z i t + Z i t) = pr ys i t + (if t < i then sy xs (el ys i).toNat (el ys t).toNat else 0)
    rw [hZ]
    show pr (comp xs ys) i t + ((if pr ys i t = 1 then sy xs (el ys i).toNat (el ys t).toNat else 0) + (if pr ys i t = 1 then sy xs (el ys i).toNat (el ys t).toNat else 0)) = _
    have i0 := hy.lo i hi
    have t0 := hy.lo t ht
    have i1 := hy.hi i hi
    have t1 := hy.hi t ht
    by_cases a : t < i
    · have hne := hy.ne t i a hi
      have c1 : pr (comp xs ys) i t = if el xs (el ys i).toNat < el xs (el ys t).toNat then 1 else 0 := by unfold pr; rw [if_pos a, el_comp hi, el_comp ht]
      have c2 : pr ys i t = if el ys i < el ys t then 1 else 0 := by unfold pr; rw [if_pos a]
      rw [if_pos a, c1, c2]
      by_cases b : el ys i < el ys t
      · have s1 : sy xs (el ys i).toNat (el ys t).toNat = if el xs (el ys t).toNat < el xs (el ys i).toNat then 1 else 0 := by
          unfold sy pr; rw [if_neg (by omega), if_pos (by omega)]; omega
        have hx2 := hx.ne (el ys i).toNat (el ys t).toNat (by omega) (by omega)
        rw [if_pos b, if_pos rfl, s1]
        by_cases c : el xs (el ys t).toNat < el xs (el ys i).toNat
        · rw [if_pos c, if_neg (by omega)]; rfl
        · rw [if_neg c, if_pos (by omega)]; rfl
      · have s1 : sy xs (el ys i).toNat (el ys t).toNat = if el xs (el ys i).toNat < el xs (el ys t).toNat then 1 else 0 := by
          have q1 : (el ys t).toNat < (el ys i).toNat := by omega
          have q2 : ¬ (el ys i).toNat < (el ys t).toNat := by omega
          unfold sy pr; rw [if_pos q1, if_neg q2]; omega
        have q3 : ¬ ((0 : Int) = 1) := by omega
        rw [if_neg b, s1, if_neg q3]
        by_cases c : el xs (el ys i).toNat < el xs (el ys t).toNat
        · rw [if_pos c]; rfl
        · rw [if_neg c]; rfl
    · have c1 : pr (comp xs ys) i t = 0 := by unfold pr; rw [if_neg a]
      have c2 : pr ys i t = 0 := by unfold pr; rw [if_neg a]
      rw [c1, c2, if_neg a, if_neg (by omega)]; rfl
  have l : SS ys.length (fun i t => pr (comp xs ys) i t + (Z i t + Z i t)) = SS ys.length (pr (comp xs ys)) + (SS ys.length Z + SS ys.length Z) :=
    (SS_add ys.length (pr (comp xs ys)) (fun i t => Z i t + Z i t)).trans (congrArg (SS ys.length (pr (comp xs ys)) + ·) (SS_add ys.length Z Z))
  have r := SS_add ys.length (pr ys) (fun i t => if t < i then sy xs (el ys i).toNat (el ys t).toNat else 0)
  have e6 := l.symm.trans (e.trans r)
  show SS ys.length (pr (comp xs ys)) + 2 * SS ys.length Z = SS ys.length (pr ys) + SS ys.length (fun i t => if t < i then sy xs (el ys i).toNat (el ys t).toNat else 0)
  omega

theorem sgn_comp {xs ys : List Int} (h : Mat xs ys) : sgn (comp xs ys) = sgn xs * sgn ys := by
  obtain ⟨z, hz⟩ := invs_comp h
  unfold sgn
  rcases (by omega : sumL (table xs) % 2 = 0 ∨ sumL (table xs) % 2 = 1) with a | a <;>
    rcases (by omega : sumL (table ys) % 2 = 0 ∨ sumL (table ys) % 2 = 1) with b | b
  · rw [a, b, show sumL (table (comp xs ys)) % 2 = 0 by omega]; rfl
  · rw [a, b, show sumL (table (comp xs ys)) % 2 = 1 by omega]; rfl
  · rw [a, b, show sumL (table (comp xs ys)) % 2 = 1 by omega]; rfl
  · rw [a, b, show sumL (table (comp xs ys)) % 2 = 0 by omega]; rfl

theorem sgn_pm (xs : List Int) : sgn xs = 1 ∨ sgn xs = -1 := by unfold sgn; omega

end Go.Proofs.Ytagfmimaaedolaa
