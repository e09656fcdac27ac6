/- Signed orders written as texts, and read back. No condition. -/
import Derived.Test.YtjgaglfinpeeoabDoorMirX
namespace Go.Proofs.YtjgaglfinpeeoabDoor

/-- The text of a number of one digit. -/
def dgT (x : Int) : List UInt8 := if x < 0 then [45, UInt8.ofNat (48 + x.natAbs)] else [UInt8.ofNat (48 + x.toNat)]
/-- A byte less 48. -/
def toI (c : UInt8) : Int := (c.toNat : Int) - 48
theorem toI_inj {c d : UInt8} (h : toI c = toI d) : c = d := by
  apply UInt8.toNat_inj.1
  unfold toI at h
  omega
theorem toI_dg (k : Nat) (h : k ≤ 9) : toI (UInt8.ofNat (48 + k)) = k := by
  have : ∀ k : Nat, k < 10 → toI (UInt8.ofNat (48 + k)) = k := by decide
  exact this k (by omega)
theorem dgT_neg {x : Int} (h : x < 0) (h9 : -9 ≤ x) : (dgT x).map toI = [-3, -x] := by
  rw [dgT, if_pos h, List.map_cons, List.map_cons, List.map_nil, toI_dg _ (by omega)]
  have : (x.natAbs : Int) = -x := by omega
  rw [this]
  rfl
theorem dgT_pos {x : Int} (h : 0 ≤ x) (h9 : x ≤ 9) : (dgT x).map toI = [x] := by
  rw [dgT, if_neg (by omega), List.map_cons, List.map_nil, toI_dg _ (by omega)]
  have : (x.toNat : Int) = x := by omega
  rw [this]
theorem dgT_len (x : Int) : (dgT x).length = if x < 0 then 2 else 1 := by
  unfold dgT; split <;> rfl
theorem tok_dg {v : Int} (h : dg v = true) (r : List Int) : tok (v :: r) = (tok r).map (v :: ·) := by
  cases r with
  | nil => simp [tok, h]
  | cons c r => rw [tok, if_neg (dg_ne h), if_pos h]
theorem dg_of {v : Int} (h : 0 ≤ v ∧ v ≤ 9) : dg v = true := by simp [dg, h.1, h.2]
theorem tok_txt (xs : List Int) (h : ∀ x ∈ xs, -9 ≤ x ∧ x ≤ 9) : tok ((xs.flatMap dgT).map toI) = some xs := by
  induction xs with
  | nil => rfl
  | cons x xs ih =>
    have hx := h x (by simp)
    have i2 := ih (fun y hy => h y (by simp [hy]))
    rw [List.flatMap_cons, List.map_append]
    by_cases h0 : x < 0
    · rw [dgT_neg h0 hx.1, List.cons_append, List.cons_append, List.nil_append, tok, if_pos rfl, if_pos (dg_of (by omega)), i2]
      simp
    · rw [dgT_pos (by omega) hx.2, List.cons_append, List.nil_append, tok_dg (dg_of (by omega)), i2]
      rfl
theorem txt_tok (vs : List Int) : ∀ zs, tok vs = some zs → (∀ x ∈ zs, x ≠ 0) → (zs.flatMap dgT).map toI = vs := by
  induction vs using tok.induct with
  | case1 => intro zs h _; simp [tok] at h; subst h; rfl
  | case2 v h =>
    intro zs h2 _
    simp only [tok, h, if_true, Option.some.injEq] at h2
    subst h2
    simp only [dg, Bool.and_eq_true, decide_eq_true_eq] at h
    simp [dgT_pos h.1 h.2]
  | case3 v h =>
    intro zs h2
    simp [tok, h] at h2
  | case4 c r h ih =>
    intro zs h2 hz
    rw [tok, if_pos rfl, if_pos h, Option.map_eq_some_iff] at h2
    obtain ⟨a, ha, rfl⟩ := h2
    simp only [dg, Bool.and_eq_true, decide_eq_true_eq] at h
    have hc := hz (-c) (by simp)
    rw [List.flatMap_cons, List.map_append, dgT_neg (by omega) (by omega), ih a ha (fun x hx => hz x (by simp [hx])), Int.neg_neg]
    rfl
  | case5 c r h =>
    intro zs h2
    rw [tok, if_pos rfl, if_neg h] at h2
    cases h2
  | case6 v c r hv h ih =>
    intro zs h2 hz
    rw [tok, if_neg hv, if_pos h, Option.map_eq_some_iff] at h2
    obtain ⟨a, ha, rfl⟩ := h2
    simp only [dg, Bool.and_eq_true, decide_eq_true_eq] at h
    rw [List.flatMap_cons, List.map_append, dgT_pos h.1 h.2, ih a ha (fun x hx => hz x (by simp [hx]))]
    rfl
  | case7 v c r hv h =>
    intro zs h2
    rw [tok, if_neg hv, if_neg h] at h2
    cases h2

/-- The text of a signed order; of other numbers the empty one. -/
def txW (xs : List Int) : List UInt8 := if SV xs then xs.flatMap dgT else []
theorem txW_yes {xs : List Int} (h : SV xs) : txW xs = xs.flatMap dgT := if_pos h
theorem txW_no {xs : List Int} (h : ¬ SV xs) : txW xs = [] := if_neg h
theorem sv_bd {xs : List Int} (h : SV xs) : ∀ x ∈ xs, -5 ≤ x ∧ x ≤ 5 ∧ x ≠ 0 := by
  intro x hx
  obtain ⟨j, hj, rfl⟩ := List.mem_iff_getElem.1 hx
  have h1 := h.lo hj
  rw [el_lt hj] at h1
  have := h.len
  omega
theorem flat_len (xs : List Int) : (xs.flatMap dgT).length ≤ 2 * xs.length := by
  induction xs with
  | nil => simp
  | cons x xs ih =>
    rw [List.flatMap_cons, List.length_append, List.length_cons, dgT_len]
    split <;> omega
theorem txW_len (xs : List Int) : (txW xs).length ≤ 10 := by
  unfold txW; split
  · rename_i h
    have := flat_len xs
    have := h.len
    omega
  · simp
theorem flat_succ {xs : List Int} {k : Nat} (h : k < xs.length) : (xs.take (k + 1)).flatMap dgT = (xs.take k).flatMap dgT ++ dgT (el xs k) := by
  rw [take_el h, List.flatMap_append]
  simp

/-- Bytes as a text. -/
def BA (l : List UInt8) : ByteArray := ⟨l.toArray⟩
theorem BA_app (l m : List UInt8) : BA l ++ BA m = BA (l ++ m) := by
  apply ByteArray.ext
  simp [BA, ByteArray.data_append]
theorem BA_size (l : List UInt8) : (BA l).size = l.length := by
  show l.toArray.size = _
  simp
theorem BA_list (l : List UInt8) : (BA l).data.toList = l := by simp [BA]
theorem BA_inj {l m : List UInt8} (h : BA l = BA m) : l = m := by rw [← BA_list l, h, BA_list]
theorem BA_of (s : ByteArray) : BA s.data.toList = s := by cases s; simp [BA]
theorem map_inj {l m : List UInt8} (h : l.map toI = m.map toI) : l = m := by
  induction l generalizing m with
  | nil => cases m with
    | nil => rfl
    | cons d m => simp at h
  | cons c l ih => cases m with
    | nil => simp at h
    | cons d m =>
      rw [List.map_cons, List.map_cons, List.cons.injEq] at h
      rw [toI_inj h.1, ih h.2]
theorem BA_ext {l : List UInt8} {s : ByteArray} (h : l.map toI = s.data.toList.map toI) : BA l = s := by
  rw [← BA_of s]
  congr 1
  exact map_inj h

/-- What is written is read back. -/
theorem read_txt {xs : List Int} (h : SV xs) : okX ((txW xs).map toI) = true ∧ outX ((txW xs).map toI) = xs := by
  have := tok_txt xs (fun x hx => by have := sv_bd h x hx; omega)
  rw [txW_yes h]
  simp [okX, outX, this, h]
/-- What is read is written back. -/
theorem txt_read {vs : List Int} (h : okX vs = true) : (txW (outX vs)).map toI = vs ∧ SV (outX vs) := by
  cases ht : tok vs with
  | none => simp [okX, ht] at h
  | some zs =>
    have hv : SV zs := by simpa [okX, ht] using h
    have e : outX vs = zs := by simp [outX, ht, hv]
    rw [e, txW_yes hv]
    exact ⟨txt_tok vs zs ht (fun x hx => (sv_bd hv x hx).2.2), hv⟩
theorem flat_neg (xs : List Int) : ∀ k, k ≤ xs.length → (((xs.take k).flatMap dgT).length : Int) = k + cntP (ngF xs) k := by
  intro k
  induction k with
  | zero => intro _; rfl
  | succ k ih =>
    intro h
    have := ih (by omega)
    rw [flat_succ (by omega), List.length_append, dgT_len]
    unfold cntP
    by_cases h0 : el xs k < 0
    · rw [if_pos h0, if_pos (show ngF xs k = true from decide_eq_true h0)]; omega
    · rw [if_neg h0, if_neg (by simpa [ngF] using h0)]; omega
theorem txW_neg {xs : List Int} (h : SV xs) : ((txW xs).length : Int) = xs.length + ngN xs := by
  have := flat_neg xs xs.length (Nat.le_refl _)
  rw [List.take_length] at this
  rw [txW_yes h, this]
  rfl

end Go.Proofs.YtjgaglfinpeeoabDoor
