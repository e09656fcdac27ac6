/- How often each number stands in a list: the model's tally. Condition: the list's cells can be read. -/
import Derived.Test.YtjphaphnmclbcaaBng
import Derived.Test.YtjphaphnmclbcaaBnd
namespace Go.Proofs.Ytjphaphnmclbcaa
open Go.RowKit

theorem chg_app {lo hi : Nat} {a b c : World} {row : Option Nat} (h : Chg lo hi a b) (g : b.grownBy c row) (hr : ∀ k, row = some k → (lo ≤ k ∧ k < hi) ∨ a.heap.size ≤ k) : Chg lo hi a c :=
  ⟨g.os.trans h.os, g.tape.trans h.tape, g.output.trans h.output, Nat.le_trans h.size g.size, fun i hi' hr' => (g.block i (Nat.lt_of_lt_of_le hi' h.size) (fun e => by have := hr i e.symm; omega)).trans (h.block i hi' hr')⟩
theorem ownL_read {w : World} {B C : Nat} {ao : Option Addr} {n cap : Nat} {yss : List (List Int)} (h : OwnL w B C (.slice ao n cap) yss) : SlL w ao n cap yss := by
  obtain ⟨a, c, e, hs⟩ := h.sl
  simp only [Value.slice.injEq] at e
  obtain ⟨rfl, rfl, rfl⟩ := e
  exact hs
/-- How often each number below L stands in a list. -/
def cntL (L : Nat) (l : List Int) : List Int := (List.range L).map fun v : Nat => ((l.count (v : Int) : Nat) : Int)
theorem cntL_len (L : Nat) (l : List Int) : (cntL L l).length = L := by simp [cntL]
theorem el_cntL {L : Nat} {l : List Int} {v : Nat} (h : v < L) : el (cntL L l) v = ((l.count (v : Int) : Nat) : Int) := by
  rw [el_lt (by rw [cntL_len]; exact h)]; simp [cntL]
theorem cntL_nil (L : Nat) : cntL L [] = List.replicate L 0 := by
  refine List.ext_getElem (by simp [cntL]) fun j h1 h2 => ?_
  simp [cntL]
theorem cntL_bump {L : Nat} {l : List Int} {v : Nat} (_ : v < L) : (cntL L l).set v (((l.count (v : Int) : Nat) : Int) + 1) = cntL L (l ++ [(v : Int)]) := by
  refine List.ext_getElem (by simp [cntL]) fun j h1 h2 => ?_
  rw [List.getElem_set]
  split
  · rename_i e
    subst e
    simp [cntL, List.count_append]
  · rename_i e
    have : ¬ ((v : Int) = (j : Int)) := by omega
    simp [cntL, List.count_append, List.count_cons, this]
theorem cntL_grow {L : Nat} {l : List Int} (h : ∀ x ∈ l, x < (L : Int)) : cntL L l ++ [0] = cntL (L + 1) l := by
  have : l.count (L : Int) = 0 := List.count_eq_zero.2 (fun hm => by have := h _ hm; omega)
  simp [cntL, List.range_succ, this]
/-- One more than the greatest of the first k numbers. -/
def mxK (l : List Int) : Nat → Nat
  | 0 => 0
  | k + 1 => max (mxK l k) ((el l k).toNat + 1)
theorem mxK_le {l : List Int} (h : ∀ j, 0 ≤ el l j ∧ el l j ≤ 100) : ∀ k, mxK l k ≤ 101 := by
  intro k
  induction k with
  | zero => simp [mxK]
  | succ k ih => have := h k; rw [mxK]; omega
theorem mxK_gt {l : List Int} : ∀ k j, j < k → (el l j).toNat < mxK l k := by
  intro k
  induction k with
  | zero => intro j hj; omega
  | succ k ih =>
    intro j hj
    rw [mxK]
    by_cases e : j = k
    · subst e; omega
    · have := ih j (by omega); omega
theorem mxK_mem {l : List Int} (h : ∀ j, 0 ≤ el l j ∧ el l j ≤ 100) (k : Nat) : ∀ x ∈ l.take k, x < ((mxK l k : Nat) : Int) := by
  intro x hx
  obtain ⟨j, hj, e⟩ := List.mem_iff_getElem.1 hx
  rw [List.length_take] at hj
  rw [List.getElem_take] at e
  have h1 := mxK_gt (l := l) k j (by omega)
  have h2 := h j
  rw [el_lt (by omega), e] at h1 h2
  omega
/-- The greatest of the first k + 1 numbers. -/
def mxJ (zs : List Int) : Nat → Int
  | 0 => el zs 0
  | k + 1 => if mxJ zs k < el zs (k + 1) then el zs (k + 1) else mxJ zs k
theorem mxJ_mxK {l : List Int} (h : ∀ j, 0 ≤ el l j ∧ el l j ≤ 100) : ∀ k, mxJ l k + 1 = ((mxK l (k + 1) : Nat) : Int) := by
  intro k
  induction k with
  | zero => have := h 0; simp only [mxJ, mxK]; omega
  | succ k ih => have := h (k + 1); rw [mxJ, mxK]; split <;> omega
/-- How often each number stands in a list, up to the greatest one. -/
def tal (l : List Int) : List Int := cntL (mxK l l.length) l
theorem tal_len (l : List Int) : (tal l).length = mxK l l.length := cntL_len _ _

def slN : Value → Nat
  | .slice _ n _ => n
  | _ => 0

set_option maxRecDepth 20000 in
set_option maxHeartbeats 4000000 in
theorem tallyS_any (ao : Option Addr) (n cap : Nat) (xs : List Int) (w : World) (h : Sl w ao n cap xs) (hb : Hid (∀ j, 0 ≤ el xs j ∧ el xs j ≤ 100)) (hn : n ≤ 1000) :
    Calls Try.prog 69 #[.slice ao n cap] w (Made w (tal xs)) := by
  have hlen := hid h.len
  go_enter Try.func69, Try.ntmps69
  go_wp2
  go_loopw [3, 4] (fun v i wr => ∃ (k : Nat) (ao' : Option Addr) (cap' : Nat), k ≤ n ∧ v = .slice ao' (mxK xs k) cap' ∧ i = .int .i64 k ∧ Below w.heap.size w wr ∧ Own wr w.heap.size (.slice ao' (mxK xs k) cap') (cntL (mxK xs k) (xs.take k)))
    (fun _ i _ => n - (intOf i).toNat)
  case atStart => exact ⟨0, _, _, Nat.zero_le _, rfl, rfl, (Below.refl _ _).alloc (Nat.le_refl _) _, own_lit w⟩
  case round =>
    obtain ⟨k, ao', cap', hk, rfl, rfl, hbr, ho⟩ := hrel
    have hsz := hbr.size
    by_cases hlt : k < n
    · have hi1 : (k : Int) < n := by omega
      obtain ⟨b, off, rfl, hblt, hc⟩ := h.row (by omega)
      obtain ⟨v, hv⟩ : ∃ v : Nat, el xs k = (v : Int) := ⟨(el xs k).toNat, by have := hb.out k; omega⟩
      have hv100 : v ≤ 100 := by have := hb.out k; omega
      have hck := hc k hlt
      rw [hv] at hck
      have Hmk := hid (mxK_le hb.out k)
      have Hm1 : Hid (mxK xs (k + 1) = max (mxK xs k) (v + 1)) := hid (by rw [mxK, hv]; rfl)
      have Hin : Hid (∀ x ∈ xs.take k, x < ((mxK xs k : Nat) : Int)) := hid (mxK_mem hb.out k)
      have Hll : Hid ((xs.take k).length ≤ 1000) := hid (by rw [List.length_take]; omega)
      obtain ⟨m, hm⟩ : ∃ m, m = mxK xs k := ⟨_, rfl⟩
      rw [← hm] at Hmk Hm1 Hin ho ⊢
      obtain ⟨l, hl⟩ : ∃ l, l = xs.take k := ⟨_, rfl⟩
      rw [← hl] at ho Hin Hll
      have Hl : Hid (xs.take (k + 1) = l ++ [(v : Int)]) := hid (by rw [hl, ← hv, take_el (by rw [hlen.out]; exact hlt)])
      clear hc hm hl hv
      go_wp2
      go_loopw [3] (fun v' wq => ∃ (L : Nat) (ao' : Option Addr) (cap' : Nat), m ≤ L ∧ (L ≤ m ∨ L ≤ v + 1) ∧ v' = .slice ao' L cap' ∧ Below w.heap.size w wq ∧ Own wq w.heap.size (.slice ao' L cap') (cntL L l))
        (fun v' _ => 200 - slN v')
      case atStart => exact ⟨m, _, _, Nat.le_refl _, Or.inl (Nat.le_refl _), rfl, hbr, ho⟩
      case round =>
        obtain ⟨L, ao2, cap2, hmL, hLv, rfl, hbq, ho2⟩ := hrel
        have hcell := (hbq.cell (p := ⟨b, off + k, none⟩) hblt).trans hck
        have hL1 : L ≤ 101 := by have := Hmk.out; omega
        have hszq := hbq.size
        by_cases hLt : L ≤ v
        · have hLi : (L : Int) ≤ v := by omega
          have hll : (cntL L l).length ≤ 2000000 := by rw [cntL_len]; omega
          have He := hid (cntL_grow (l := l) (L := L) (fun x hx => by have := Hin.out x hx; omega))
          go_wp2_with (at_builtin; refine app_int _ _ rfl _ _ rfl w.heap.size _ _ rfl ho2 rfl hll hszq ?_)
          intro u' w' ho' hg'
          have hb' := below_app hbq ho2 hg'
          rw [He.out] at ho'
          obtain ⟨ao5, cp5, rfl, -⟩ := ho'.sl
          rw [cntL_len] at ho' ⊢
          clear ho2 hg' hbq hcell
          go_wp2
          go_roundw
          case rel => exact ⟨L + 1, _, _, by omega, by omega, rfl, hb', ho'⟩
          case measure => simp [slN]; omega
        · have hLi : ¬ (L : Int) ≤ v := by omega
          have E : Hid (mxK xs (k + 1) = L) := hid (by have := Hm1.out; omega)
          rcases ho2.place with ⟨e1, e2⟩ | ⟨g, cp, e1, hs⟩
          · have := cntL_len L l
            rw [e2] at this
            simp at this
            omega
          · rw [cntL_len] at e1 hs
            simp only [Value.slice.injEq, true_and] at e1
            obtain ⟨rfl, rfl⟩ := e1
            have hcc := hs.cell (j := v) (by omega)
            rw [el_cntL (by omega)] at hcc
            have hcl : l.count (v : Int) ≤ 1000 := Nat.le_trans List.count_le_length Hll.out
            obtain ⟨c, hc⟩ : ∃ c : Nat, c = l.count (v : Int) := ⟨_, rfl⟩
            rw [← hc] at hcc hcl
            have hfr := hs.frozen v
            have hs2 := hs.set v ((c : Int) + 1)
            have Hset : Hid ((cntL L l).set v ((c : Int) + 1) = cntL L (l ++ [(v : Int)])) := hid (by rw [hc]; exact cntL_bump (by omega))
            have hvL : (v : Int) < L := by omega
            have hc0 : (c : Int) ≤ 1000 := by omega
            have hgB := hs.lt.1
            clear hc
            go_wp2_with fail
            refine wp_region_still_tail 14 (by kernel_rfl) (by kernel_rfl) ?_
            simp only [List.take_succ_cons, List.take_zero, List.drop_succ_cons, List.drop_zero]
            change wpStill _ _ (World.drew _) _ _ _
            repeat still_step
            refine wpStill_nil ?_
            change wpList _ _ _ _ _ (World.drew _)
            go_wp2
            go_roundw
            case rel =>
              refine ⟨k + 1, some ⟨g, 0, none⟩, cap2, by omega, by rw [E.out], by go_num, drewN_below (hbq.setCell hgB _) 1, ?_⟩
              rw [E.out, Hl.out, ← Hset.out]
              exact (hs2.drewN 1).own
            case measure => simp [intOf]; omega
    · obtain rfl : k = n := by omega
      go_wp2
      go_ret
      refine ⟨_, rfl, ?_, hbr⟩
      rw [tal, hlen.out]
      rw [List.take_of_length_le (by rw [hlen.out]; exact Nat.le_refl _)] at ho
      exact ho

end Go.Proofs.Ytjphaphnmclbcaa
