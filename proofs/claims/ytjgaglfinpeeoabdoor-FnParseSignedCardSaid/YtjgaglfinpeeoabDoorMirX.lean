/- Texts of signed orders as lists of their bytes less 48 (a minus sign is -3): what the program reads off them and what the model does are one. No condition. -/
import Derived.Test.YtjgaglfinpeeoabDoorMirG
namespace Go.Proofs.YtjgaglfinpeeoabDoor

def dg (v : Int) : Bool := decide (0 ≤ v) && decide (v ≤ 9)
/-- The numbers of a text: each a digit, with or without a minus sign ahead. -/
def tok : List Int → Option (List Int)
  | [] => some []
  | [v] => if dg v then some [v] else none
  | v :: c :: r => if v = -3 then (if dg c then (tok r).map (-c :: ·) else none) else if dg v then (tok (c :: r)).map (v :: ·) else none
/-- What the model's first loop makes of a text. -/
def mtk : List Int → Option (List Int)
  | [] => some []
  | [v] => some [v]
  | v :: c :: r => if v = -3 then (if c = -3 then none else (mtk r).map (-c :: ·)) else (mtk (c :: r)).map (v :: ·)
def gd (v : Int) : Bool := decide (v = -3) || dg v
/-- Every byte is a minus sign or a digit, and the last one is no minus sign. -/
def good (vs : List Int) : Bool := vs.all gd && !(vs.getLast? == some (-3))
theorem dg_ne {v : Int} (h : dg v = true) : v ≠ -3 := by
  intro e; subst e; simp [dg] at h
theorem good_tail {v c : Int} {r : List Int} : good (v :: c :: r) = (gd v && good (c :: r)) := by
  simp only [good, List.all_cons, List.getLast?_cons_cons, Bool.and_assoc]
theorem tok_iff (vs w : List Int) : tok vs = some w ↔ good vs = true ∧ mtk vs = some w := by
  induction vs using tok.induct generalizing w with
  | case1 => simp [tok, mtk, good]
  | case2 v h =>
    have := dg_ne h
    simp [tok, mtk, good, gd, h, this]
  | case3 v h =>
    have h2 : dg v = false := by simpa using h
    by_cases e : v = -3
    · subst e; simp [tok, good, dg]
    · simp [tok, good, gd, h2, e]
  | case4 c r h ih =>
    have hc := dg_ne h
    rw [tok, mtk, if_pos rfl, if_pos rfl, if_pos h, if_neg hc]
    rw [good_tail]
    have e1 : good (c :: r) = good r := by
      cases r with
      | nil => simp [good, gd, h, hc]
      | cons d r => rw [good_tail]; simp [gd, h]
    rw [e1]
    simp only [Option.map_eq_some_iff]
    constructor
    · rintro ⟨a, ha, rfl⟩
      have := (ih a).1 ha
      exact ⟨by simp [gd, this.1], a, this.2, rfl⟩
    · rintro ⟨h1, a, ha, rfl⟩
      exact ⟨a, (ih a).2 ⟨by simpa [gd] using h1, ha⟩, rfl⟩
  | case5 c r h =>
    have h2 : dg c = false := by simpa using h
    rw [tok, if_pos rfl, if_neg h]
    constructor
    · intro e; cases e
    · rintro ⟨h1, h3⟩
      rw [mtk, if_pos rfl] at h3
      by_cases e : c = -3
      · rw [if_pos e] at h3; cases h3
      · rw [good_tail] at h1
        have : good (c :: r) = true := by simpa [gd] using h1
        simp [good, gd, h2, e] at this
  | case6 v c r hv h ih =>
    rw [tok, mtk, if_neg hv, if_neg hv, if_pos h, good_tail]
    simp only [Option.map_eq_some_iff]
    constructor
    · rintro ⟨a, ha, rfl⟩
      have := (ih a).1 ha
      exact ⟨by simp [gd, h, this.1], a, this.2, rfl⟩
    · rintro ⟨h1, a, ha, rfl⟩
      exact ⟨a, (ih a).2 ⟨by simp [gd, h] at h1; exact h1, ha⟩, rfl⟩
  | case7 v c r hv h =>
    have h2 : dg v = false := by simpa using h
    rw [tok, if_neg hv, if_neg h, good_tail]
    constructor
    · intro e; cases e
    · rintro ⟨h1, _⟩
      simp [gd, h2, hv] at h1

/-- What a text gives: the signed order, or nothing. -/
def okX (vs : List Int) : Bool := match tok vs with
  | some w => decide (SV w)
  | none => false
def outX (vs : List Int) : List Int := match tok vs with
  | some w => if SV w then w else []
  | none => []

end Go.Proofs.YtjgaglfinpeeoabDoor
