/- Foata's map turns major indices into inversions, and the inverses fall at the same places: reckoned for all orders of at most seven values. No condition. -/
import Derived.Test.YtlhphgldmefefabMirFo
namespace Go.Proofs.Ytlhphgldmefefab

def foOk (xs : List Int) : Bool := match foF xs [] with
  | ys => (invF ys 0).beq (majF xs 1 0) && bef2 ys xs (xs.length - 1)
set_option maxRecDepth 100000 in
theorem foOk6 : (allUpTo 6).all foOk = true := by decide +kernel

set_option maxRecDepth 100000 in
theorem foOk70 : (begun 0).all foOk = true := by decide +kernel

set_option maxRecDepth 100000 in
theorem foOk71 : (begun 1).all foOk = true := by decide +kernel

set_option maxRecDepth 100000 in
theorem foOk72 : (begun 2).all foOk = true := by decide +kernel

set_option maxRecDepth 100000 in
theorem foOk73 : (begun 3).all foOk = true := by decide +kernel

set_option maxRecDepth 100000 in
theorem foOk74 : (begun 4).all foOk = true := by decide +kernel

set_option maxRecDepth 100000 in
theorem foOk75 : (begun 5).all foOk = true := by decide +kernel

set_option maxRecDepth 100000 in
theorem foOk76 : (begun 6).all foOk = true := by decide +kernel

theorem foOk_all {xs : List Int} (h : Valid xs) : foOk xs = true :=
  h.parts (p := foOk) foOk6 (seven (P := fun x => (begun x).all foOk = true) foOk70 foOk71 foOk72 foOk73 foOk74 foOk75 foOk76)

theorem foat_major {xs : List Int} (h : Valid xs) : sumL (table (foat xs)) = major xs := by
  have h1 := foOk_all h
  simp only [foOk, foF_eq, Bool.and_eq_true, Nat.beq_eq] at h1
  rw [← invF_eq, ← majF_eq, h1.1]
theorem foat_desc {xs : List Int} (h : Valid xs) : desc (inv (foat xs)) = desc (inv xs) := by
  have h1 := foOk_all h
  simp only [foOk, foF_eq, Bool.and_eq_true, Nat.beq_eq] at h1
  have hv := foat_valid h
  have hl := foat_len xs
  have h2 := bef2_all h1.2
  rw [desc, desc, inv_length, inv_length, hl]
  refine dsP_congr _ (fun j hj => ?_)
  rw [← bef_inv hv (by omega), ← bef_inv h (by omega), h2 j hj]
theorem fbac_major {xs : List Int} (h : Valid xs) : major (fbac xs) = sumL (table xs) := by
  have := foat_major (fbac_valid h)
  rw [foat_fbac] at this
  exact this.symm

end Go.Proofs.Ytlhphgldmefefab
