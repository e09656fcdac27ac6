/- Products of signed orders: they are signed orders, their sizes are products of orders, their inverses are products of inverses, and their lengths are at most added and even with them. No condition. -/
import Derived.Test.YtjgaglfinpeeoabFinG
namespace Go.Proofs.Ytjgaglfinpeeoab

set_option maxRecDepth 100000 in
theorem okB_all : (allSg 5).all okB = true := by decide +kernel

theorem ab_sgl (x y : Int) : ab (sgl x y) = ab y := by
  unfold sgl; split
  · exact ab_flip y
  · rfl
theorem el_mulS {vs ws : List Int} {k : Nat} (h : k < ws.length) : el (mulS vs ws) k = sgl (el ws k) (el vs (ab (el ws k) - 1).toNat) := el_map h
/-- The place that a number of a signed order names. -/
theorem SV.at {ws : List Int} (h : SV ws) {k : Nat} (hk : k < ws.length) : (ab (el ws k) - 1).toNat < ws.length ∧ (((ab (el ws k) - 1).toNat : Nat) : Int) = ab (el ws k) - 1 := by
  have := h.bd hk
  omega
theorem SM.szs {vs ws : List Int} (h : SM vs ws) : szL (mulS vs ws) = comp (szL vs) (szL ws) := by
  obtain ⟨hv, hw, hl⟩ := h
  refine ext_el (by rw [szL_len, mulS_len, comp, map_range_len, szL_len]) (fun j hj => ?_)
  rw [szL_len, mulS_len] at hj
  have h1 := hw.at hj
  rw [el_szL (by rw [mulS_len]; exact hj), el_mulS hj, ab_sgl, comp, el_map (by rw [szL_len]; exact hj), el_szL hj, el_szL (by omega)]
theorem SM.sv {vs ws : List Int} (h : SM vs ws) : SV (mulS vs ws) := by
  have hs := h.szs
  obtain ⟨hv, hw, hl⟩ := h
  refine SV.of (by rw [mulS_len]; exact hw.len) (fun j hj => ?_)
  rw [mulS_len] at hj ⊢
  have h1 := hw.at hj
  have h2 := hv.bd (j := (ab (el ws j) - 1).toNat) (by omega)
  have h3 : ab (el (mulS vs ws) j) = ab (el vs (ab (el ws j) - 1).toNat) := by rw [el_mulS hj, ab_sgl]
  have h4 := ab_le (x := el (mulS vs ws) j) (n := ws.length) (by rw [h3]; omega)
  refine ⟨h4.1, h4.2, fun e => ?_, fun t ht => ?_⟩
  · rw [e, ab_pos (Int.le_refl _)] at h3; omega
  · rw [h3, el_mulS (by omega), ab_sgl]
    have h5 := hw.at (k := t) (by omega)
    have h6 := hw.ne ht hj
    rcases Nat.lt_trichotomy (ab (el ws t) - 1).toNat (ab (el ws j) - 1).toNat with hc | hc | hc
    · exact hv.ne hc (by omega)
    · omega
    · exact fun e => hv.ne hc (by omega) e.symm

/-! Neighbours. -/
theorem mulS_cons (vs : List Int) (x : Int) (ws : List Int) : mulS vs (x :: ws) = sgl x (el vs (ab x - 1).toNat) :: mulS vs ws := by rw [mulS_map, mulS_map, List.map_cons]
theorem mulS_nil (vs : List Int) : mulS vs [] = [] := rfl
theorem swp_mul (vs : List Int) (k : Nat) (ws : List Int) : mulS vs (swp k ws) = swp k (mulS vs ws) := by
  induction k generalizing ws with
  | zero =>
    cases ws with
    | nil => rfl
    | cons x ws =>
      cases ws with
      | nil => rfl
      | cons y ws => rw [swp, mulS_cons, mulS_cons, mulS_cons, mulS_cons, swp]
  | succ k ih =>
    cases ws with
    | nil => rfl
    | cons x ws => rw [swp, mulS_cons, mulS_cons, swp, ih]
theorem nx_mul (vs : List Int) (k : Nat) {ws : List Int} (h : ∀ x ∈ ws, x ≠ 0) : mulS vs (nx k ws) = nx k (mulS vs ws) := by
  cases k with
  | succ k => exact swp_mul vs k ws
  | zero =>
    cases ws with
    | nil => rfl
    | cons x ws =>
      have hx := h x (by simp)
      rw [nx, mulS_cons, mulS_cons, nx, ab_flip]
      congr 1
      unfold sgl
      split <;> split <;> omega
theorem swp_swp (k : Nat) (ws : List Int) : swp k (swp k ws) = ws := by
  induction k generalizing ws with
  | zero =>
    cases ws with
    | nil => rfl
    | cons x ws => cases ws <;> rfl
  | succ k ih =>
    cases ws with
    | nil => rfl
    | cons x ws => rw [swp, swp, ih]
theorem nx_nx (k : Nat) (ws : List Int) : nx k (nx k ws) = ws := by
  cases k with
  | succ k => exact swp_swp k ws
  | zero =>
    cases ws with
    | nil => rfl
    | cons x ws => rw [nx, nx, Int.neg_neg]
theorem swp_perm (k : Nat) (ws : List Int) : (swp k ws).Perm ws := by
  induction k generalizing ws with
  | zero =>
    cases ws with
    | nil => exact List.Perm.refl _
    | cons x ws =>
      cases ws with
      | nil => exact List.Perm.refl _
      | cons y ws => exact List.Perm.swap x y ws
  | succ k ih =>
    cases ws with
    | nil => exact List.Perm.refl _
    | cons x ws => exact (ih ws).cons x
theorem swp_len (k : Nat) (ws : List Int) : (swp k ws).length = ws.length := (swp_perm k ws).length_eq
theorem nx_len (k : Nat) (ws : List Int) : (nx k ws).length = ws.length := by
  cases k with
  | succ k => exact swp_len k ws
  | zero => cases ws <;> rfl
theorem nx_szs (k : Nat) (ws : List Int) : (szL (nx k ws)).Perm (szL ws) := by
  cases k with
  | succ k => rw [szL_map, szL_map]; exact (swp_perm k ws).map _
  | zero =>
    cases ws with
    | nil => exact List.Perm.refl _
    | cons x ws => rw [szL_map, szL_map, nx, List.map_cons, List.map_cons, ab_flip]
theorem SV.nx {ws : List Int} (h : SV ws) (k : Nat) : SV (nx k ws) := ⟨by rw [nx_len]; exact h.len, h.ord.perm (nx_szs k ws)⟩
theorem SV.nz {ws : List Int} (h : SV ws) : ∀ x ∈ ws, x ≠ 0 := fun x hx => by
  obtain ⟨j, hj, rfl⟩ := List.mem_iff_getElem.1 hx
  rw [← el_lt hj]
  exact (h.lo hj).2.2
theorem SV.step {ws : List Int} (h : SV ws) {k : Nat} (hk : k < ws.length) : lenS (Go.Proofs.Ytjgaglfinpeeoab.nx k ws) = lenS ws + 1 ∨ lenS ws = lenS (Go.Proofs.Ytjgaglfinpeeoab.nx k ws) + 1 := by
  have e := h.all okB_all
  simp only [okB, Bool.and_eq_true] at e
  have := allN_of e.1 hk
  simp only [Bool.or_eq_true, Nat.beq_eq] at this
  rw [← lnF_eq, ← lnF_eq]
  omega
theorem SV.down {ws : List Int} (h : SV ws) : (lenS ws = 0 ∧ ws = unit1 1 ws.length) ∨ ∃ k, k < ws.length ∧ lenS ws = lenS (Go.Proofs.Ytjgaglfinpeeoab.nx k ws) + 1 := by
  have e := h.all okB_all
  simp only [okB, Bool.and_eq_true] at e
  have e2 := e.2
  cases hl : lnF ws with
  | zero =>
    rw [hl] at e2
    exact Or.inl ⟨by rw [← lnF_eq, hl]; rfl, eqs_eq e2⟩
  | succ m =>
    rw [hl] at e2
    obtain ⟨k, hk, e3⟩ := anyN_of e2
    simp only [Nat.beq_eq] at e3
    refine Or.inr ⟨k, hk, ?_⟩
    rw [← lnF_eq, ← lnF_eq, hl]
    omega
theorem unit1_map (f : Int → Int) (n : Nat) (m : Int) : (unit1 m n).map f = (List.range n).map fun j => f (m + (j : Nat)) := by
  induction n generalizing m with
  | zero => rfl
  | succ n ih =>
    rw [unit1, List.map_cons, ih, List.range_succ_eq_map, List.map_cons, List.map_map]
    congr 1
    · simp
    · refine List.map_congr_left (fun j _ => ?_)
      show f _ = f _
      congr 1
      simp; omega
theorem mulS_one (vs : List Int) : mulS vs (unit1 1 vs.length) = vs := by
  rw [mulS_map, unit1_map]
  refine ext_el (by simp) (fun j hj => ?_)
  have hj2 : j < vs.length := by simpa using hj
  rw [el_map hj2]
  have e : ab (1 + (j : Nat) : Int) = 1 + (j : Nat) := ab_pos (by omega)
  rw [e, sgl_no (by omega), show (1 + (j : Int) - 1).toNat = j by omega]
/-- Lengths of products: at most added, and even with them. -/
theorem SM.lens_n {vs : List Int} (hv : SV vs) : ∀ (m : Nat) (ws : List Int), SV ws → ws.length = vs.length → lenS ws = (m : Nat) → ∃ d : Nat, lenS (mulS vs ws) + 2 * d = lenS vs + lenS ws := by
  intro m
  induction m with
  | zero =>
    intro ws hw hl hm
    rcases hw.down with ⟨_, e⟩ | ⟨k, hk, e⟩
    · refine ⟨0, ?_⟩
      have : mulS vs ws = vs := by rw [e, hl]; exact mulS_one vs
      rw [this, hm]; simp
    · have := lnF_eq (nx k ws)
      omega
  | succ m ih =>
    intro ws hw hl hm
    rcases hw.down with ⟨e, _⟩ | ⟨k, hk, e⟩
    · omega
    · obtain ⟨d, hd⟩ := ih (nx k ws) (hw.nx k) (by rw [nx_len, hl]) (by omega)
      have hsm : SM vs (nx k ws) := ⟨hv, hw.nx k, by rw [nx_len, hl]⟩
      have e2 : mulS vs ws = nx k (mulS vs (nx k ws)) := by rw [← nx_mul vs k (hw.nx k).nz, nx_nx]
      have hst := hsm.sv.step (k := k) (by rw [mulS_len, nx_len]; exact hk)
      rw [← e2] at hst
      rcases hst with h1 | h1
      · exact ⟨d, by omega⟩
      · exact ⟨d + 1, by omega⟩
theorem SM.lens {vs ws : List Int} (h : SM vs ws) : ∃ d : Nat, lenS (mulS vs ws) + 2 * d = lenS vs + lenS ws :=
  SM.lens_n h.1 (lnF ws) ws h.2.1 h.2.2.symm (lnF_eq ws).symm

/-! Inverses of products. -/
theorem mulS_assoc {us vs ws : List Int} (hv : SV vs) (hw : SV ws) (hl : vs.length = ws.length) : mulS (mulS us vs) ws = mulS us (mulS vs ws) := by
  refine ext_el (by rw [mulS_len, mulS_len, mulS_len]) (fun j hj => ?_)
  rw [mulS_len] at hj
  have h1 := hw.at hj
  have h2 : (ab (el ws j) - 1).toNat < vs.length := by omega
  rw [el_mulS hj, el_mulS h2, el_mulS (by rw [mulS_len]; exact hj), el_mulS hj, ab_sgl]
  have h3 := (hv.lo h2).2.2
  have h4 := (hw.lo hj).2.2
  generalize el vs (ab (el ws j) - 1).toNat = a at *
  unfold sgl
  split <;> split <;> first | rfl | omega | (split <;> omega)
theorem mulS_unitL {ws : List Int} (h : SV ws) : mulS (unit1 1 ws.length) ws = ws := by
  refine ext_el (by rw [mulS_len]) (fun j hj => ?_)
  rw [mulS_len] at hj
  have h1 := h.at hj
  have e : ∀ k, k < ws.length → el (unit1 1 ws.length) k = 1 + (k : Nat) := fun k hk => by
    have := unit1_map id ws.length 1
    rw [List.map_id] at this
    rw [this, el_map hk]; rfl
  rw [el_mulS hj, e _ h1.1, h1.2]
  unfold sgl ab
  split <;> omega
/-- What undoes a signed order from the right is its inverse. -/
theorem inv_uniq {us zs : List Int} (hu : SV us) (hz : SV zs) (hl : us.length = zs.length) (h : mulS us zs = unit1 1 us.length) : zs = invS us := by
  have hi := hu.inv
  have e1 : mulS (invS us) us = unit1 1 us.length := by
    have := hi.okC.2.2
    rw [hu.okC.2.1, invS_len] at this
    exact this
  have e2 := mulS_assoc (us := invS us) hu hz hl
  rw [e1, h, hl, mulS_unitL hz] at e2
  have e3 := mulS_one (invS us)
  rw [invS_len, hl] at e3
  rw [e2, e3]
theorem SM.invs {vs ws : List Int} (h : SM vs ws) : mulS (invS ws) (invS vs) = invS (mulS vs ws) := by
  have hs := h.sv
  obtain ⟨hv, hw, hl⟩ := h
  have hiv := hv.inv
  have hiw := hw.inv
  have hm : SM (invS ws) (invS vs) := ⟨hiw, hiv, by rw [invS_len, invS_len]; exact hl.symm⟩
  refine inv_uniq hs hm.sv (by rw [mulS_len, mulS_len, invS_len]; exact hl.symm) ?_
  have a1 := mulS_assoc (us := vs) hw hm.sv (by rw [mulS_len, invS_len]; exact hl.symm)
  have a2 := mulS_assoc (us := ws) hiw hiv (by rw [invS_len, invS_len]; exact hl.symm)
  have h1 : mulS (mulS ws (invS ws)) (invS vs) = invS vs := by
    rw [hw.okC.2.2, ← hl]
    have := mulS_unitL hiv
    rwa [invS_len] at this
  rw [a1, ← a2, h1, hv.okC.2.2, mulS_len, hl]

end Go.Proofs.Ytjgaglfinpeeoab
