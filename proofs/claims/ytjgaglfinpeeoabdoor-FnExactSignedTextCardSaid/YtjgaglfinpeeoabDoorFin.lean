/- What a reckoning over all orders of at most seven values shows. No condition. -/
import Derived.Test.YtjgaglfinpeeoabDoorPure
namespace Go.Proofs.YtjgaglfinpeeoabDoor

set_option maxRecDepth 100000 in
theorem count_all : (allUpTo 7).all (fun xs => (List.range 7).all fun v => xs.count (v : Int) == if v < xs.length then 1 else 0) = true := by decide +kernel

theorem count_valid {xs : List Int} (hn : xs.length ≤ 7) (hr : ∀ j, j < xs.length → 0 ≤ el xs j ∧ el xs j < xs.length) :
    (∀ v : Nat, v < 7 → xs.count (v : Int) = if v < xs.length then 1 else 0) ↔ Valid xs := by
  constructor
  · intro h
    refine ⟨hn, fun j hj => (hr j hj).1, fun j hj => (hr j hj).2, fun i j hij hj e => ?_⟩
    have h2 := count_two hij hj e
    obtain ⟨v, hv⟩ := Int.eq_ofNat_of_zero_le (hr j hj).1
    have h3 := (hr j hj).2
    rw [hv] at h2 h3
    have := h v (by omega)
    rw [this] at h2
    split at h2 <;> omega
  · intro h v hv
    have := h.all count_all
    rw [List.all_eq_true] at this
    simpa using this v (by simpa using hv)

end Go.Proofs.YtjgaglfinpeeoabDoor
