/- Inverses of orders: they are orders, and their products rise. No condition. -/
import Derived.Test.YtjphaphnmclbcaaBnf
namespace Go.Proofs.Ytjphaphnmclbcaa

theorem inv_length (xs : List Int) : (inv xs).length = xs.length := inv_len xs xs.length

/-- Each value has a place. -/
theorem Valid.place {xs : List Int} (h : Valid xs) {v : Nat} (hv : v < xs.length) : ∃ k, k < xs.length ∧ el xs k = v := by
  have hc := (count_valid h.len (fun j hj => ⟨h.lo j hj, h.hi j hj⟩)).2 h v (by have := h.len; omega)
  rw [if_pos hv] at hc
  have hm : (v : Int) ∈ xs := List.count_pos_iff.1 (by omega)
  obtain ⟨k, hk, he⟩ := List.mem_iff_getElem.1 hm
  exact ⟨k, hk, by rw [el_lt hk]; exact he⟩

/-- The inverse at a value is its place. -/
theorem inv_el {xs : List Int} (h : Valid xs) {k : Nat} (hk : k < xs.length) : el (inv xs) (el xs k).toNat = k := by
  have key : ∀ m, m ≤ xs.length → ∀ j, j < m → el (iter (fun (a : List Int) k => a.set (el xs k).toNat (k : Int)) (List.replicate xs.length 0) m) (el xs j).toNat = j := by
    intro m
    induction m with
    | zero => intro _ j hj; omega
    | succ m ih =>
      intro hm j hj
      have hmlo := h.lo m (by omega)
      have hmhi := h.hi m (by omega)
      rw [iter]
      by_cases e : j = m
      · rw [e, el_set_same (by rw [inv_len]; omega)]
      · have hjlo := h.lo j (by omega)
        have := h.ne j m (by omega) (by omega)
        rw [el_set_ne (by omega), ih (by omega) j (by omega)]
  exact key xs.length (Nat.le_refl _) k hk

theorem inv_at {xs : List Int} (h : Valid xs) {v : Nat} (hv : v < xs.length) : ∃ k, k < xs.length ∧ el xs k = v ∧ el (inv xs) v = k := by
  obtain ⟨k, hk, he⟩ := h.place hv
  have := inv_el h hk
  rw [he, Int.toNat_natCast] at this
  exact ⟨k, hk, he, this⟩

theorem inv_valid {xs : List Int} (h : Valid xs) : Valid (inv xs) := by
  refine ⟨by rw [inv_length]; exact h.len, fun j hj => ?_, fun j hj => ?_, fun i j hij hj => ?_⟩
  · rw [inv_length] at hj
    obtain ⟨k, hk, _, he⟩ := inv_at h hj
    rw [he]; omega
  · rw [inv_length] at hj ⊢
    obtain ⟨k, hk, _, he⟩ := inv_at h hj
    rw [he]; omega
  · rw [inv_length] at hj
    obtain ⟨k, hk, h1, he⟩ := inv_at h hj
    obtain ⟨k2, hk2, h2, he2⟩ := inv_at h (show i < xs.length by omega)
    rw [he, he2]
    intro e
    have : k2 = k := by omega
    rw [this] at h2
    omega

theorem comp_inv {xs : List Int} (h : Valid xs) : comp xs (inv xs) = rise xs.length := by
  refine ext_el (by rw [comp, map_range_len, inv_length, rise_len]) (fun j hj => ?_)
  rw [comp, map_range_len, inv_length] at hj
  obtain ⟨k, hk, h1, he⟩ := inv_at h hj
  rw [comp, el_map (by rw [inv_length]; exact hj), he, Int.toNat_natCast, h1, rise, el_map hj]

theorem inv_inv {xs : List Int} (h : Valid xs) : inv (inv xs) = xs := by
  refine ext_el (by rw [inv_length, inv_length]) (fun j hj => ?_)
  rw [inv_length, inv_length] at hj
  have hlo := h.lo j hj
  have hhi := h.hi j hj
  obtain ⟨v, hv⟩ := Int.eq_ofNat_of_zero_le hlo
  have h1 := inv_el h hj
  rw [hv, Int.toNat_natCast] at h1
  have h2 := inv_el (inv_valid h) (k := v) (by rw [inv_length]; omega)
  rw [h1, Int.toNat_natCast] at h2
  rw [h2, hv]

end Go.Proofs.Ytjphaphnmclbcaa
