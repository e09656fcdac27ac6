/- Above places of the orders that lines become. No condition. -/
import Derived.Test.YtlhphgldmefefabFinL
import Derived.Test.YtlhphgldmefefabFinSign
import Derived.Test.YtlhphgldmefefabFinCnt
import Derived.Test.YtlhphgldmefefabFinCy
namespace Go.Proofs.Ytlhphgldmefefab

theorem above_exc {ws : List Int} (h : Valid ws) : (above (inv (frL ws))).length = (desc ws).length := by
  obtain ⟨h1, _, h3, _⟩ := ln_facts h
  have e1 := plP_cnt upF (inv (frL ws)) (inv (frL ws)).length
  have e2 := S_perm h1 (ind fun j => upF j (el (inv (frL ws)) j))
  rw [frL_len] at e2
  rw [inv_length, frL_len, cntP_S, ← e2] at e1
  rw [cntP_S] at h3
  have e3 : S (fun a => ind (fun j => upF j (el (inv (frL ws)) j)) (el (frL ws) a).toNat) ws.length = S (ind fun j => decide (el (frL ws) j < (j : Int))) ws.length := by
    refine S_congr _ (fun j hj => ?_)
    have hj2 : j < (frL ws).length := by rw [frL_len]; exact hj
    have a1 := inv_el h1 hj2
    have a2 := h1.lo j hj2
    simp only [ind, upF, a1, Int.toNat_of_nonneg a2]
  rw [e3, h3] at e1
  have e4 : (above (inv (frL ws))).length = (plP upF (inv (frL ws)) (inv (frL ws)).length).length := rfl
  rw [e4, inv_length, frL_len]
  omega

end Go.Proofs.Ytlhphgldmefefab
