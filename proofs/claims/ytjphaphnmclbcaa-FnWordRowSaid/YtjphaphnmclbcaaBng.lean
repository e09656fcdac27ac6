/- Texts of this claim put into one: RowC, TalG, TlT, ChW, MirC, MirF, FinAll, Fast. -/
import Derived.Test.YtjphaphnmclbcaaBnf
import Derived.Test.YtjphaphnmclbcaaBne
import Derived.Test.YtjphaphnmclbcaaBnd
import Derived.Orders
/- The rows of circles and of descents, in the program and in its model. No condition. -/
namespace Go.Proofs.Ytjphaphnmclbcaa
open Go.RowKit

theorem Own.alloc' {w : World} {B : Nat} {u : Value} {ys : List Int} (h : Own w B u ys) (o : Obj) : Own (w.alloc o) B u ys := World.ownsRow.alloc h o
theorem Own.slAt {w : World} {B : Nat} {ao : Option Addr} {n cap : Nat} {ys : List Int} (h : Own w B (.slice ao n cap) ys) : Sl w ao n cap ys := h.read

set_option maxHeartbeats 1000000 in
theorem inRange_any (n lo hi : Int) (w : World) : Calls Try.prog 85 #[.int .i64 n, .int .i64 lo, .int .i64 hi] w fun e w' => e = .returned (.bool (decide (lo ≤ n ∧ n ≤ hi))) ∧ w = w' := by
  go_enter Try.func85, Try.ntmps85
  by_cases h1 : lo ≤ n <;> by_cases h2 : n ≤ hi
  all_goals go_wp2
  all_goals go_ret
  all_goals exact ⟨ret_eq (congrArg Value.bool (by simp [h1, h2])), rfl⟩

end Go.Proofs.Ytjphaphnmclbcaa

/- How often each number stands in a list: the model's tally. Condition: the list's cells can be read. -/
namespace Go.Proofs.Ytjphaphnmclbcaa
open Go.RowKit

theorem chg_app {lo hi : Nat} {a b c : World} {row : Option Nat} (h : Chg lo hi a b) (g : b.grownBy c row) (hr : ∀ k, row = some k → (lo ≤ k ∧ k < hi) ∨ a.heap.size ≤ k) : Chg lo hi a c :=
  ⟨g.os.trans h.os, g.tape.trans h.tape, g.output.trans h.output, Nat.le_trans h.size g.size, fun i hi' hr' => (g.block i (Nat.lt_of_lt_of_le hi' h.size) (fun e => by have := hr i e.symm; omega)).trans (h.block i hi' hr')⟩
theorem ownL_read {w : World} {B C : Nat} {ao : Option Addr} {n cap : Nat} {yss : List (List Int)} (h : OwnL w B C (.slice ao n cap) yss) : SlL w ao n cap yss := by
  obtain ⟨a, c, e, hs⟩ := h.sl
  simp only [Value.slice.injEq] at e
  obtain ⟨rfl, rfl, rfl⟩ := e
  exact hs
/-- How often each number below L stands in a list. -/
def cntL (L : Nat) (l : List Int) : List Int := (List.range L).map fun v : Nat => ((l.count (v : Int) : Nat) : Int)
theorem cntL_len (L : Nat) (l : List Int) : (cntL L l).length = L := by simp [cntL]
theorem el_cntL {L : Nat} {l : List Int} {v : Nat} (h : v < L) : el (cntL L l) v = ((l.count (v : Int) : Nat) : Int) := by
  rw [el_lt (by rw [cntL_len]; exact h)]; simp [cntL]
theorem cntL_nil (L : Nat) : cntL L [] = List.replicate L 0 := by
  refine List.ext_getElem (by simp [cntL]) fun j h1 h2 => ?_
  simp [cntL]
theorem cntL_bump {L : Nat} {l : List Int} {v : Nat} (_ : v < L) : (cntL L l).set v (((l.count (v : Int) : Nat) : Int) + 1) = cntL L (l ++ [(v : Int)]) := by
  refine List.ext_getElem (by simp [cntL]) fun j h1 h2 => ?_
  rw [List.getElem_set]
  split
  · rename_i e
    subst e
    simp [cntL, List.count_append]
  · rename_i e
    have : ¬ ((v : Int) = (j : Int)) := by omega
    simp [cntL, List.count_append, List.count_cons, this]
theorem cntL_grow {L : Nat} {l : List Int} (h : ∀ x ∈ l, x < (L : Int)) : cntL L l ++ [0] = cntL (L + 1) l := by
  have : l.count (L : Int) = 0 := List.count_eq_zero.2 (fun hm => by have := h _ hm; omega)
  simp [cntL, List.range_succ, this]
/-- One more than the greatest of the first k numbers. -/
def mxK (l : List Int) : Nat → Nat
  | 0 => 0
  | k + 1 => max (mxK l k) ((el l k).toNat + 1)
theorem mxK_le {l : List Int} (h : ∀ j, 0 ≤ el l j ∧ el l j ≤ 100) : ∀ k, mxK l k ≤ 101 := by
  intro k
  induction k with
  | zero => simp [mxK]
  | succ k ih => have := h k; rw [mxK]; omega
theorem mxK_gt {l : List Int} : ∀ k j, j < k → (el l j).toNat < mxK l k := by
  intro k
  induction k with
  | zero => intro j hj; omega
  | succ k ih =>
    intro j hj
    rw [mxK]
    by_cases e : j = k
    · subst e; omega
    · have := ih j (by omega); omega
theorem mxK_mem {l : List Int} (h : ∀ j, 0 ≤ el l j ∧ el l j ≤ 100) (k : Nat) : ∀ x ∈ l.take k, x < ((mxK l k : Nat) : Int) := by
  intro x hx
  obtain ⟨j, hj, e⟩ := List.mem_iff_getElem.1 hx
  rw [List.length_take] at hj
  rw [List.getElem_take] at e
  have h1 := mxK_gt (l := l) k j (by omega)
  have h2 := h j
  rw [el_lt (by omega), e] at h1 h2
  omega
/-- The greatest of the first k + 1 numbers. -/
def mxJ (zs : List Int) : Nat → Int
  | 0 => el zs 0
  | k + 1 => if mxJ zs k < el zs (k + 1) then el zs (k + 1) else mxJ zs k
theorem mxJ_mxK {l : List Int} (h : ∀ j, 0 ≤ el l j ∧ el l j ≤ 100) : ∀ k, mxJ l k + 1 = ((mxK l (k + 1) : Nat) : Int) := by
  intro k
  induction k with
  | zero => have := h 0; simp only [mxJ, mxK]; omega
  | succ k ih => have := h (k + 1); rw [mxJ, mxK]; split <;> omega
/-- How often each number stands in a list, up to the greatest one. -/
def tal (l : List Int) : List Int := cntL (mxK l l.length) l
theorem tal_len (l : List Int) : (tal l).length = mxK l l.length := cntL_len _ _

def slN : Value → Nat
  | .slice _ n _ => n
  | _ => 0

set_option maxRecDepth 20000 in
set_option maxHeartbeats 4000000 in
theorem tallyS_any (ao : Option Addr) (n cap : Nat) (xs : List Int) (w : World) (h : Sl w ao n cap xs) (hb : Hid (∀ j, 0 ≤ el xs j ∧ el xs j ≤ 100)) (hn : n ≤ 1000) :
    Calls Try.prog 69 #[.slice ao n cap] w (Made w (tal xs)) := by
  have hlen := hid h.len
  go_enter Try.func69, Try.ntmps69
  go_wp2
  go_loopw [3, 4] (fun v i wr => ∃ (k : Nat) (ao' : Option Addr) (cap' : Nat), k ≤ n ∧ v = .slice ao' (mxK xs k) cap' ∧ i = .int .i64 k ∧ Below w.heap.size w wr ∧ Own wr w.heap.size (.slice ao' (mxK xs k) cap') (cntL (mxK xs k) (xs.take k)))
    (fun _ i _ => n - (intOf i).toNat)
  case atStart => exact ⟨0, _, _, Nat.zero_le _, rfl, rfl, (Below.refl _ _).alloc (Nat.le_refl _) _, own_lit w⟩
  case round =>
    obtain ⟨k, ao', cap', hk, rfl, rfl, hbr, ho⟩ := hrel
    have hsz := hbr.size
    by_cases hlt : k < n
    · have hi1 : (k : Int) < n := by omega
      obtain ⟨b, off, rfl, hblt, hc⟩ := h.row (by omega)
      obtain ⟨v, hv⟩ : ∃ v : Nat, el xs k = (v : Int) := ⟨(el xs k).toNat, by have := hb.out k; omega⟩
      have hv100 : v ≤ 100 := by have := hb.out k; omega
      have hck := hc k hlt
      rw [hv] at hck
      have Hmk := hid (mxK_le hb.out k)
      have Hm1 : Hid (mxK xs (k + 1) = max (mxK xs k) (v + 1)) := hid (by rw [mxK, hv]; rfl)
      have Hin : Hid (∀ x ∈ xs.take k, x < ((mxK xs k : Nat) : Int)) := hid (mxK_mem hb.out k)
      have Hll : Hid ((xs.take k).length ≤ 1000) := hid (by rw [List.length_take]; omega)
      obtain ⟨m, hm⟩ : ∃ m, m = mxK xs k := ⟨_, rfl⟩
      rw [← hm] at Hmk Hm1 Hin ho ⊢
      obtain ⟨l, hl⟩ : ∃ l, l = xs.take k := ⟨_, rfl⟩
      rw [← hl] at ho Hin Hll
      have Hl : Hid (xs.take (k + 1) = l ++ [(v : Int)]) := hid (by rw [hl, ← hv, take_el (by rw [hlen.out]; exact hlt)])
      clear hc hm hl hv
      go_wp2
      go_loopw [3] (fun v' wq => ∃ (L : Nat) (ao' : Option Addr) (cap' : Nat), m ≤ L ∧ (L ≤ m ∨ L ≤ v + 1) ∧ v' = .slice ao' L cap' ∧ Below w.heap.size w wq ∧ Own wq w.heap.size (.slice ao' L cap') (cntL L l))
        (fun v' _ => 200 - slN v')
      case atStart => exact ⟨m, _, _, Nat.le_refl _, Or.inl (Nat.le_refl _), rfl, hbr, ho⟩
      case round =>
        obtain ⟨L, ao2, cap2, hmL, hLv, rfl, hbq, ho2⟩ := hrel
        have hcell := (hbq.cell (p := ⟨b, off + k, none⟩) hblt).trans hck
        have hL1 : L ≤ 101 := by have := Hmk.out; omega
        have hszq := hbq.size
        by_cases hLt : L ≤ v
        · have hLi : (L : Int) ≤ v := by omega
          have hll : (cntL L l).length ≤ 2000000 := by rw [cntL_len]; omega
          have He := hid (cntL_grow (l := l) (L := L) (fun x hx => by have := Hin.out x hx; omega))
          go_wp2_with (at_builtin; refine app_int _ _ rfl _ _ rfl w.heap.size _ _ rfl ho2 rfl hll hszq ?_)
          intro u' w' ho' hg'
          have hb' := below_app hbq ho2 hg'
          rw [He.out] at ho'
          obtain ⟨ao5, cp5, rfl, -⟩ := ho'.sl
          rw [cntL_len] at ho' ⊢
          clear ho2 hg' hbq hcell
          go_wp2
          go_roundw
          case rel => exact ⟨L + 1, _, _, by omega, by omega, rfl, hb', ho'⟩
          case measure => simp [slN]; omega
        · have hLi : ¬ (L : Int) ≤ v := by omega
          have E : Hid (mxK xs (k + 1) = L) := hid (by have := Hm1.out; omega)
          rcases ho2.place with ⟨e1, e2⟩ | ⟨g, cp, e1, hs⟩
          · have := cntL_len L l
            rw [e2] at this
            simp at this
            omega
          · rw [cntL_len] at e1 hs
            simp only [Value.slice.injEq, true_and] at e1
            obtain ⟨rfl, rfl⟩ := e1
            have hcc := hs.cell (j := v) (by omega)
            rw [el_cntL (by omega)] at hcc
            have hcl : l.count (v : Int) ≤ 1000 := Nat.le_trans List.count_le_length Hll.out
            obtain ⟨c, hc⟩ : ∃ c : Nat, c = l.count (v : Int) := ⟨_, rfl⟩
            rw [← hc] at hcc hcl
            have hfr := hs.frozen v
            have hs2 := hs.set v ((c : Int) + 1)
            have Hset : Hid ((cntL L l).set v ((c : Int) + 1) = cntL L (l ++ [(v : Int)])) := hid (by rw [hc]; exact cntL_bump (by omega))
            have hvL : (v : Int) < L := by omega
            have hc0 : (c : Int) ≤ 1000 := by omega
            have hgB := hs.lt.1
            clear hc
            go_wp2_with fail
            refine wp_region_still_tail 14 (by kernel_rfl) (by kernel_rfl) ?_
            simp only [List.take_succ_cons, List.take_zero, List.drop_succ_cons, List.drop_zero]
            change wpStill _ _ (World.drew _) _ _ _
            repeat still_step
            refine wpStill_nil ?_
            change wpList _ _ _ _ _ (World.drew _)
            go_wp2
            go_roundw
            case rel =>
              refine ⟨k + 1, some ⟨g, 0, none⟩, cap2, by omega, by rw [E.out], by go_num, drewN_below (hbq.setCell hgB _) 1, ?_⟩
              rw [E.out, Hl.out, ← Hset.out]
              exact (hs2.drewN 1).own
            case measure => simp [intOf]; omega
    · obtain rfl : k = n := by omega
      go_wp2
      go_ret
      refine ⟨_, rfl, ?_, hbr⟩
      rw [tal, hlen.out]
      rw [List.take_of_length_le (by rw [hlen.out]; exact Nat.le_refl _)] at ho
      exact ho

end Go.Proofs.Ytjphaphnmclbcaa

/- tally of the program over a function's value, beside leavers. Condition: the numbers lie from 0 to 100. -/
namespace Go.Proofs.Ytjphaphnmclbcaa
open Go Go.Conc Go.RowKit

theorem only_grown {w w₁ w' : World} {row : Option Nat} (o : Only w w₁) (hg : w₁.grownBy w' row) (hr : ∀ k, row = some k → w.heap.size ≤ k) : Only w w' :=
  ⟨hg.os.trans o.os, hg.output.trans o.output, Nat.le_trans o.size hg.size, fun k hk => (hg.block k (Nat.lt_of_lt_of_le hk o.size) fun e => by have := hr k e.symm; omega).trans (o.keep k hk)⟩
theorem only_alloc {w w₁ : World} (o : Only w w₁) (ob : Obj) : Only w (w₁.alloc ob) := only_grown (row := none) o (World.grownBy_alloc w₁ ob none) fun k h => by cases h
theorem ows_heap {w w' : World} {B g n cap : Nat} {ys : List Int} (h : OwS w B g n cap ys) (e : w'.heap = w.heap) : OwS w' B g n cap ys := by
  unfold OwS World.ownsRow at *
  rw [e]
  exact h
theorem fill1' (f : Nat → Value) (v : Value) (hv : v.cells = #[v]) : Instr.fill (fun i => some (i * 1, 1)) ((Array.range (1 * 1)).map f) [(0, v)] = some #[v] := by
  simp [Instr.fill, hv]
  apply Array.ext'
  simp [List.range, List.range.loop]

set_option linter.unusedSimpArgs false in
set_option maxHeartbeats 4000000 in
theorem tallyT {Stop : Goroutine → World → Prop} (f : FuncId) (fd : Func) (hf : Try.prog.funcs[f]? = some fd) (hname : (fd.name == "runtime.NumGoroutine") = false) (hb : fd.body.isNone = false) (ao : Option Addr) (n cap : Nat) (yss : List (List Int)) (l : List Int) (w : World) (h : SlL w ao n cap yss) (hn : n ≤ 100000)
    (Hl : Hid (l.length = n)) (Hv : Hid (∀ j, 0 ≤ el l j ∧ el l j ≤ 100)) (hc : ∀ (j : Nat) (ai : Option Addr) (m ci : Nat) (w₁ : World), j < n → Sl w₁ ai m ci (ell yss j) → CallsC Try.prog (TF Try.prog Stop) f #[.slice ai m ci] w₁ M00 (fun r w' M' => M' = M00 ∧ r = .int .i64 (el l j) ∧ Only w₁ w')) :
    CallsC Try.prog (TF Try.prog Stop) 63 #[.slice ao n cap, .func (.func f) #[] #[]] w M00 (fun r w' M' => M' = M00 ∧ ∃ u, r = .tuple #[u, .bool (decide (0 < n))] ∧ Own w' w.heap.size u (tal l) ∧ Only w w') := by
  have hS : Fam Try.prog true (fun _ => True) (TF Try.prog Stop) := fam_T
  refine callsC_of_wpC hS Try.func63 rfl ?_
  simp only [Try.ntmps63, List.size_toArray, List.length_cons, List.length_nil, Nat.reduceAdd, Nat.reduceSub, Array.replicate_succ,
     Array.replicate_zero, List.push_toArray, List.append_toArray, List.nil_append, List.cons_append]
  repeat refine wpC_seq hS ?_
  refine wpC_region hS ?_
  simp only [List.size_toArray, List.length_cons, List.length_nil, Nat.reduceAdd, Nat.zero_add, List.range, List.range.loop]
  repeat first
    | refine opsC_moveA hS rfl rfl (.inl rfl) ?_
    | refine opsC_moveA hS rfl rfl (.inr rfl) ?_
    | refine opsC_binA hS rfl rfl rfl rfl rfl rfl ?_
    | refine opsC_lenA hS rfl rfl rfl (by kernel_rfl) rfl ?_
    | (refine opsC_plain hS rfl rfl fun _ K hK => ?_; go_simp; refine hK _ (by simp [go_sem, events_cap_slice, events_slice_hi, *]) ?_; clear hK K; try walk_nrm)
  refine opsC_nil hS ?_
  show WpC _ _ _ _ _ _ _
  repeat refine wpC_seq hS ?_
  refine wpC_region hS ?_
  simp only [List.size_toArray, List.length_cons, List.length_nil, Nat.reduceAdd, Nat.zero_add, List.range, List.range.loop]
  repeat first
    | refine opsC_moveA hS rfl rfl (.inl rfl) ?_
    | refine opsC_moveA hS rfl rfl (.inr rfl) ?_
    | refine opsC_binA hS rfl rfl rfl rfl rfl rfl ?_
    | refine opsC_lenA hS rfl rfl rfl (by kernel_rfl) rfl ?_
    | (refine opsC_plain hS rfl rfl fun _ K hK => ?_; go_simp; refine hK _ (by simp [go_sem, events_cap_slice, events_slice_hi, *]) ?_; clear hK K; try walk_nrm)
  refine opsC_nil hS ?_
  show WpC _ _ _ _ _ _ _
  repeat refine wpC_seq hS ?_
  refine wpC_region hS ?_
  simp only [List.size_toArray, List.length_cons, List.length_nil, Nat.reduceAdd, Nat.zero_add, List.range, List.range.loop]
  repeat first
    | refine opsC_moveA hS rfl rfl (.inl rfl) ?_
    | refine opsC_moveA hS rfl rfl (.inr rfl) ?_
    | refine opsC_binA hS rfl rfl rfl rfl rfl rfl ?_
    | refine opsC_lenA hS rfl rfl rfl (by kernel_rfl) rfl ?_
    | (refine opsC_plain hS rfl rfl fun _ K hK => ?_; go_simp; refine hK _ (by simp [go_sem, events_cap_slice, events_slice_hi, *]) ?_; clear hK K; try walk_nrm)
  refine opsC_nil hS ?_
  show WpC _ _ _ _ _ _ _
  repeat refine wpC_seq hS ?_
  refine wpC_block hS ?_
  refine wpC_loop_of hS ?_
  refine loopC_count (fun k a wr M => M = M00 ∧ ∃ (ao' : Option Addr) (cap' : Nat) (x2 x3 x4 x5 x7 x8 x9 x13 x14 x15 x16 x17 x18 x19 x20 x21 x22 x23 x24 x25 x26 x27 x28 x29 x30 x31 x32 x33 x34 x35 x36 : Value), a = { tmps := #[.slice ao n cap, .func (.func f) #[] #[], x2, x3, x4, x5, .slice ao' (mxK l k) cap', x7, x8, x9, .slice ao n cap, .int .i64 (n : Int), .int .i64 (k : Int), x13, x14, x15, x16, x17, x18, x19, x20, x21, x22, x23, x24, x25, x26, x27, x28, x29, x30, x31, x32, x33, x34, x35, x36], defers := [] } ∧ Only w wr ∧ Own wr w.heap.size (.slice ao' (mxK l k) cap') (cntL (mxK l k) (l.take k))) n ?_ ?_ 0 (Nat.zero_le _) _ _ _ ⟨rfl, none, 0, _, _, _, _, _, _, _, _, _, _, _, _, _, _, _, _, _, _, _, _, _, _, _, _, _, _, _, _, _, _, _, rfl, Only.refl w, Own.nil⟩
  · rintro k _ wr _ hk ⟨rfl, ao', cap', x2, x3, x4, x5, x7, x8, x9, x13, x14, x15, x16, x17, x18, x19, x20, x21, x22, x23, x24, x25, x26, x27, x28, x29, x30, x31, x32, x33, x34, x35, x36, rfl, hbr, ho⟩ hN
    have hki : (k : Int) < n := by omega
    obtain ⟨b, off, rfl, hblt, hcr⟩ := (h.only hbr).row (by omega)
    obtain ⟨ai, ci, hcell, hsi⟩ := hcr k hk
    have hsi0 := hsi
    obtain ⟨v, hv⟩ : ∃ v : Nat, el l k = (v : Int) := ⟨(el l k).toNat, by have := Hv.out k; omega⟩
    have hv100 : v ≤ 100 := by have := Hv.out k; omega
    have hc' := fun w₁ => hc k ai (ell yss k).length ci w₁ hk
    rw [hv] at hc'
    have Hmk : mxK l k ≤ 101 := mxK_le Hv.out k
    have Hm1 : mxK l (k + 1) = max (mxK l k) (v + 1) := by rw [mxK, hv]; rfl
    have Hin : ∀ x ∈ l.take k, x < ((mxK l k : Nat) : Int) := mxK_mem Hv.out k
    have Hll : (l.take k).length ≤ 100000 := by rw [List.length_take]; omega
    have Hlt : l.take (k + 1) = l.take k ++ [(v : Int)] := by rw [← hv, take_el (by rw [Hl.out]; exact hk)]
    rw [Hm1, Hlt] at hN
    obtain ⟨m, hm⟩ : ∃ m, m = mxK l k := ⟨_, rfl⟩
    rw [← hm] at Hmk Hin ho hN ⊢
    obtain ⟨t, ht⟩ : ∃ t, t = l.take k := ⟨_, rfl⟩
    rw [← ht] at ho Hin Hll hN
    clear Hm1 Hlt hm ht hv hcr
    refine loopC_round hS ?_
    repeat refine wpC_seq hS ?_
    refine wpC_region hS ?_
    simp only [List.size_toArray, List.length_cons, List.length_nil, Nat.reduceAdd, Nat.zero_add, List.range, List.range.loop]
    refine opsC_binA (v := .bool true) hS rfl rfl rfl rfl rfl (by simp [int2]; omega) ?_
    refine opsC_nil hS ?_
    show WpC _ _ _ _ _ _ _
    repeat refine wpC_seq hS ?_
    refine wpC_cond (t := true) hS rfl ?_
    simp only [if_true, if_false, Bool.false_eq_true]
    refine wpC_skip hS ?_
    show WpC _ _ _ _ _ _ _
    repeat refine wpC_seq hS ?_
    refine wpC_block hS ?_
    repeat refine wpC_seq hS ?_
    refine wpC_region hS ?_
    simp only [List.size_toArray, List.length_cons, List.length_nil, Nat.reduceAdd, Nat.zero_add, List.range, List.range.loop]
    (refine opsC_plain hS rfl rfl fun _ K hK => ?_; go_simp; refine hK _ (by simp [go_sem, events_cap_slice, events_slice_hi, *]) ?_; clear hK K; try walk_nrm)
    refine opsC_load hS rfl rfl rfl (by kernel_rfl) rfl (.inl trivial) hcell ?_
    repeat first
      | refine opsC_moveA hS rfl rfl (.inl rfl) ?_
      | refine opsC_moveA hS rfl rfl (.inr rfl) ?_
      | refine opsC_binA hS rfl rfl rfl rfl rfl rfl ?_
      | refine opsC_lenA hS rfl rfl rfl (by kernel_rfl) rfl ?_
      | (refine opsC_plain hS rfl rfl fun _ K hK => ?_; go_simp; refine hK _ (by simp [go_sem, events_cap_slice, events_slice_hi, *]) ?_; clear hK K; try walk_nrm)
    refine opsC_nil hS ?_
    show WpC _ _ _ _ _ _ _
    repeat refine wpC_seq hS ?_
    refine wpC_region hS ?_
    simp only [List.size_toArray, List.length_cons, List.length_nil, Nat.reduceAdd, Nat.zero_add, List.range, List.range.loop]
    first
      | refine opsC_moveA hS rfl rfl (.inl rfl) ?_
      | refine opsC_moveA hS rfl rfl (.inr rfl) ?_
      | refine opsC_binA hS rfl rfl rfl rfl rfl rfl ?_
      | refine opsC_lenA hS rfl rfl rfl (by kernel_rfl) rfl ?_
      | (refine opsC_plain hS rfl rfl fun _ K hK => ?_; go_simp; refine hK _ (by simp [go_sem, events_cap_slice, events_slice_hi, *]) ?_; clear hK K; try walk_nrm)
    first
      | refine opsC_moveA hS rfl rfl (.inl rfl) ?_
      | refine opsC_moveA hS rfl rfl (.inr rfl) ?_
      | refine opsC_binA hS rfl rfl rfl rfl rfl rfl ?_
      | refine opsC_lenA hS rfl rfl rfl (by kernel_rfl) rfl ?_
      | (refine opsC_plain hS rfl rfl fun _ K hK => ?_; go_simp; refine hK _ (by simp [go_sem, events_cap_slice, events_slice_hi, *]) ?_; clear hK K; try walk_nrm)
    refine opsC_callV (f := f) (fd := fd) hS rfl rfl rfl rfl hf hname hb (by simp only [List.map_toArray, List.map_cons, List.map_nil]; rfl) (hc' _ hsi) ?_
    rintro _ wc _ ⟨rfl, rfl, oc⟩
    have hbc := hbr.trans oc
    have hoc := ho.only oc
    repeat first
      | refine opsC_moveA hS rfl rfl (.inl rfl) ?_
      | refine opsC_moveA hS rfl rfl (.inr rfl) ?_
      | refine opsC_binA hS rfl rfl rfl rfl rfl rfl ?_
      | refine opsC_lenA hS rfl rfl rfl (by kernel_rfl) rfl ?_
      | (refine opsC_plain hS rfl rfl fun _ K hK => ?_; go_simp; refine hK _ (by simp [go_sem, events_cap_slice, events_slice_hi, *]) ?_; clear hK K; try walk_nrm)
    refine opsC_nil hS ?_
    show WpC _ _ _ _ _ _ _
    repeat refine wpC_seq hS ?_
    refine wpC_block hS ?_
    refine wpC_loop_of hS ?_
    refine loopC_count (fun L a wq M => M = M00 ∧ m ≤ L ∧ ∃ (ao2 : Option Addr) (cap2 : Nat) (x2 x3 x4 x5 x7 x8 x13 x14 x15 x16 x17 x18 x19 x20 x21 x22 x23 x24 x25 x26 x27 x28 x29 x30 x31 x32 x33 x34 x35 x36 : Value), a = { tmps := #[.slice (some ⟨b, off, none⟩) n cap, .func (.func f) #[] #[], x2, x3, x4, x5, .slice ao2 L cap2, x7, x8, .int .i64 (v : Int), .slice (some ⟨b, off, none⟩) n cap, .int .i64 (n : Int), .int .i64 (k : Int), x13, x14, x15, x16, x17, x18, x19, x20, x21, x22, x23, x24, x25, x26, x27, x28, x29, x30, x31, x32, x33, x34, x35, x36], defers := [] } ∧ Only w wq ∧ Own wq w.heap.size (.slice ao2 L cap2) (cntL L t)) (max m (v + 1)) ?_ ?_ m (by omega) _ _ _ ⟨rfl, Nat.le_refl _, ao', cap', _, _, _, _, _, _, _, _, _, _, _, _, _, _, _, _, _, _, _, _, _, _, _, _, _, _, _, _, _, _, rfl, hbc, hoc⟩
    · rintro L _ wq _ hLm ⟨rfl, hmL, ao2, cap2, x2, x3, x4, x5, x7, x8, x13, x14, x15, x16, x17, x18, x19, x20, x21, x22, x23, x24, x25, x26, x27, x28, x29, x30, x31, x32, x33, x34, x35, x36, rfl, hbq, ho2⟩ hN2
      have hLv : (L : Int) ≤ v := by omega
      have hgr := cntL_grow (l := t) (L := L) (fun x hx => by have := Hin x hx; omega)
      refine loopC_round hS ?_
      repeat refine wpC_seq hS ?_
      refine wpC_region hS ?_
      simp only [List.size_toArray, List.length_cons, List.length_nil, Nat.reduceAdd, Nat.zero_add, List.range, List.range.loop]
      first
        | refine opsC_moveA hS rfl rfl (.inl rfl) ?_
        | refine opsC_moveA hS rfl rfl (.inr rfl) ?_
        | refine opsC_binA hS rfl rfl rfl rfl rfl rfl ?_
        | refine opsC_lenA hS rfl rfl rfl (by kernel_rfl) rfl ?_
        | (refine opsC_plain hS rfl rfl fun _ K hK => ?_; go_simp; refine hK _ (by simp [go_sem, events_cap_slice, events_slice_hi, *]) ?_; clear hK K; try walk_nrm)
      first
        | refine opsC_moveA hS rfl rfl (.inl rfl) ?_
        | refine opsC_moveA hS rfl rfl (.inr rfl) ?_
        | refine opsC_binA hS rfl rfl rfl rfl rfl rfl ?_
        | refine opsC_lenA hS rfl rfl rfl (by kernel_rfl) rfl ?_
        | (refine opsC_plain hS rfl rfl fun _ K hK => ?_; go_simp; refine hK _ (by simp [go_sem, events_cap_slice, events_slice_hi, *]) ?_; clear hK K; try walk_nrm)
      first
        | refine opsC_moveA hS rfl rfl (.inl rfl) ?_
        | refine opsC_moveA hS rfl rfl (.inr rfl) ?_
        | refine opsC_binA hS rfl rfl rfl rfl rfl rfl ?_
        | refine opsC_lenA hS rfl rfl rfl (by kernel_rfl) rfl ?_
        | (refine opsC_plain hS rfl rfl fun _ K hK => ?_; go_simp; refine hK _ (by simp [go_sem, events_cap_slice, events_slice_hi, *]) ?_; clear hK K; try walk_nrm)
      refine opsC_binA (v := .bool true) hS rfl rfl rfl rfl rfl (by simp [int2]; omega) ?_
      refine opsC_nil hS ?_
      show WpC _ _ _ _ _ _ _
      repeat refine wpC_seq hS ?_
      refine wpC_cond (t := true) hS rfl ?_
      simp only [if_true, if_false, Bool.false_eq_true]
      refine wpC_skip hS ?_
      show WpC _ _ _ _ _ _ _
      refine wpC_block hS ?_
      repeat refine wpC_seq hS ?_
      refine wpC_region hS ?_
      simp only [List.size_toArray, List.length_cons, List.length_nil, Nat.reduceAdd, Nat.zero_add, List.range, List.range.loop]
      first
        | refine opsC_moveA hS rfl rfl (.inl rfl) ?_
        | refine opsC_moveA hS rfl rfl (.inr rfl) ?_
        | refine opsC_binA hS rfl rfl rfl rfl rfl rfl ?_
        | refine opsC_lenA hS rfl rfl rfl (by kernel_rfl) rfl ?_
        | (refine opsC_plain hS rfl rfl fun _ K hK => ?_; go_simp; refine hK _ (by simp [go_sem, events_cap_slice, events_slice_hi, *]) ?_; clear hK K; try walk_nrm)
      obtain ⟨iI, hiI, zI0, zI1, zI2⟩ := info_parts infoI
      refine opsC_M (M1 := Mall) ?_
      refine opsC_buildSlice (cells := #[.int .i64 0]) hS rfl rfl rfl Try.underlying23 hiI zI0 zI1 (by omega) ?_ fun wa ha => ?_
      · refine (congrArg (Instr.fill _ _) (show _ = [(0, Value.int .i64 0)] from ?_)).trans (fill1' _ (.int .i64 0) rfl)
        simp only [List.map_toArray, List.map_cons, List.map_nil]
        rfl
      have oa : Only wq (wa.alloc (.cells #[.int .i64 0] 3)) := only_alloc (Only.re (rl_all ha)) _
      obtain ⟨wb, hwb⟩ : ∃ wb, wb = wa.alloc (.cells #[.int .i64 0] 3) := ⟨_, rfl⟩
      have hcb : wb.heap[wa.heap.size]? = some (.cells #[.int .i64 0] 3 (0, 0)) := by rw [hwb]; exact heap_alloc_new _ _
      rw [← hwb] at oa ⊢
      have hob := ho2.only oa
      have hwb2 := hbq.trans oa
      clear hwb
      refine opsC_M (M1 := Mall) ?_
      refine opsC_append hS rfl rfl _ _ 23 rfl w.heap.size 3 iI (.int .i64 0) Try.underlying23 hiI zI0 zI1 (by rw [zI2]; decide) rfl (.slice ao2 L cap2) (cntL L t).length ((cntL L t).map (Value.int .i64)) rfl hob (fun _ _ => trivial) ⟨wa.heap.size, 0, none⟩ 1 1 [.int .i64 0] rfl (.inl trivial) rfl
        (fun j y hj => ?_) (by intro y hy; simp at hy; subst hy; rfl) (by rw [cntL_len]; omega) hwb2.size ?_
      · match j, hj with
        | 0, hj => simp at hj; subst hj; rw [show (⟨wa.heap.size, 0, none⟩ : Addr).add 0 = ⟨wa.heap.size, 0, none⟩ from rfl, cell_of_row wb _ 0 _ _ _ hcb]; rfl
      intro w₁ u' w' h₁ hown _ hg _
      refine opsC_M (M1 := M00) ?_
      have ow : Only w w' := only_grown (hwb2.trans (Only.re (rl_all h₁))) hg fun k hk => (hob.blocks k hk).1
      have ho3 : Own w' w.heap.size u' (cntL (L + 1) t) := by
        rw [← hgr]
        unfold Own
        rw [List.length_append, List.map_append]
        exact hown
      obtain ⟨ao5, cp5, rfl, -⟩ := ho3.sl
      rw [cntL_len] at ho3 ⊢
      repeat first
        | refine opsC_moveA hS rfl rfl (.inl rfl) ?_
        | refine opsC_moveA hS rfl rfl (.inr rfl) ?_
        | refine opsC_binA hS rfl rfl rfl rfl rfl rfl ?_
        | refine opsC_lenA hS rfl rfl rfl (by kernel_rfl) rfl ?_
        | (refine opsC_plain hS rfl rfl fun _ K hK => ?_; go_simp; refine hK _ (by simp [go_sem, events_cap_slice, events_slice_hi, *]) ?_; clear hK K; try walk_nrm)
      refine opsC_nil hS ?_
      show LoopC _ _ _ _ _ _ _
      exact hN2 _ _ _ ⟨rfl, by omega, ao5, cp5, _, _, _, _, _, _, _, _, _, _, _, _, _, _, _, _, _, _, _, _, _, _, _, _, _, _, _, _, _, _, rfl, ow, ho3⟩
    · rintro _ wq _ ⟨rfl, hmL, ao2, cap2, x2, x3, x4, x5, x7, x8, x13, x14, x15, x16, x17, x18, x19, x20, x21, x22, x23, x24, x25, x26, x27, x28, x29, x30, x31, x32, x33, x34, x35, x36, rfl, hbq, ho2⟩
      have hLi : ¬ (((max m (v + 1) : Nat) : Int) ≤ v) := by omega
      obtain ⟨L, hL⟩ : ∃ L, L = max m (v + 1) := ⟨_, rfl⟩
      have hvL1 : v < L := by omega
      rw [← hL] at ho2 hN hLi hmL ⊢
      clear hL
      refine loopC_round hS ?_
      repeat refine wpC_seq hS ?_
      refine wpC_region hS ?_
      simp only [List.size_toArray, List.length_cons, List.length_nil, Nat.reduceAdd, Nat.zero_add, List.range, List.range.loop]
      first
        | refine opsC_moveA hS rfl rfl (.inl rfl) ?_
        | refine opsC_moveA hS rfl rfl (.inr rfl) ?_
        | refine opsC_binA hS rfl rfl rfl rfl rfl rfl ?_
        | refine opsC_lenA hS rfl rfl rfl (by kernel_rfl) rfl ?_
        | (refine opsC_plain hS rfl rfl fun _ K hK => ?_; go_simp; refine hK _ (by simp [go_sem, events_cap_slice, events_slice_hi, *]) ?_; clear hK K; try walk_nrm)
      first
        | refine opsC_moveA hS rfl rfl (.inl rfl) ?_
        | refine opsC_moveA hS rfl rfl (.inr rfl) ?_
        | refine opsC_binA hS rfl rfl rfl rfl rfl rfl ?_
        | refine opsC_lenA hS rfl rfl rfl (by kernel_rfl) rfl ?_
        | (refine opsC_plain hS rfl rfl fun _ K hK => ?_; go_simp; refine hK _ (by simp [go_sem, events_cap_slice, events_slice_hi, *]) ?_; clear hK K; try walk_nrm)
      first
        | refine opsC_moveA hS rfl rfl (.inl rfl) ?_
        | refine opsC_moveA hS rfl rfl (.inr rfl) ?_
        | refine opsC_binA hS rfl rfl rfl rfl rfl rfl ?_
        | refine opsC_lenA hS rfl rfl rfl (by kernel_rfl) rfl ?_
        | (refine opsC_plain hS rfl rfl fun _ K hK => ?_; go_simp; refine hK _ (by simp [go_sem, events_cap_slice, events_slice_hi, *]) ?_; clear hK K; try walk_nrm)
      refine opsC_binA (v := .bool false) hS rfl rfl rfl rfl rfl (by simp [int2]; omega) ?_
      refine opsC_nil hS ?_
      show WpC _ _ _ _ _ _ _
      repeat refine wpC_seq hS ?_
      refine wpC_cond (t := false) hS rfl ?_
      simp only [if_true, if_false, Bool.false_eq_true]
      refine wpC_exit hS ?_
      show WpC _ _ _ _ _ _ _
      rcases ho2.place with ⟨e1, e2⟩ | ⟨g, cp, e1, hs⟩
      · have := cntL_len L t
        rw [e2] at this
        simp at this
        omega
      rw [cntL_len] at e1 hs
      simp only [Value.slice.injEq, true_and] at e1
      obtain ⟨rfl, rfl⟩ := e1
      have hcc := hs.cell (j := v) (by omega)
      rw [el_cntL (by omega)] at hcc
      have hcl : t.count (v : Int) ≤ 100000 := Nat.le_trans List.count_le_length Hll
      obtain ⟨c, hc0⟩ : ∃ c : Nat, c = t.count (v : Int) := ⟨_, rfl⟩
      rw [← hc0] at hcc hcl
      have hfr := hs.frozen v
      have hset : (cntL L t).set v ((c : Int) + 1) = cntL L (t ++ [(v : Int)]) := by rw [hc0]; exact cntL_bump (by omega)
      clear hc0
      have hvL : (v : Int) < L := by omega
      have hwrap : IntKind.i64.wrap ((c : Int) + 1) = (c : Int) + 1 := by rw [IntKind.wrap_i64]; omega
      have hgB := hs.lt.1
      have hkw : IntKind.i64.wrap ((k : Int) + 1) = ((k + 1 : Nat) : Int) := by rw [IntKind.wrap_i64]; omega
      repeat refine wpC_seq hS ?_
      refine wpC_region hS ?_
      simp only [List.size_toArray, List.length_cons, List.length_nil, Nat.reduceAdd, Nat.zero_add, List.range, List.range.loop]
      first
        | refine opsC_moveA hS rfl rfl (.inl rfl) ?_
        | refine opsC_moveA hS rfl rfl (.inr rfl) ?_
        | refine opsC_binA hS rfl rfl rfl rfl rfl rfl ?_
        | refine opsC_lenA hS rfl rfl rfl (by kernel_rfl) rfl ?_
        | (refine opsC_plain hS rfl rfl fun _ K hK => ?_; go_simp; refine hK _ (by simp [go_sem, events_cap_slice, events_slice_hi, *]) ?_; clear hK K; try walk_nrm)
      first
        | refine opsC_moveA hS rfl rfl (.inl rfl) ?_
        | refine opsC_moveA hS rfl rfl (.inr rfl) ?_
        | refine opsC_binA hS rfl rfl rfl rfl rfl rfl ?_
        | refine opsC_lenA hS rfl rfl rfl (by kernel_rfl) rfl ?_
        | (refine opsC_plain hS rfl rfl fun _ K hK => ?_; go_simp; refine hK _ (by simp [go_sem, events_cap_slice, events_slice_hi, *]) ?_; clear hK K; try walk_nrm)
      (refine opsC_plain hS rfl rfl fun _ K hK => ?_; go_simp; refine hK _ (by simp [go_sem, events_cap_slice, events_slice_hi, *]) ?_; clear hK K; try walk_nrm)
      refine opsC_load hS rfl rfl rfl (by kernel_rfl) rfl (.inl trivial) hcc ?_
      refine opsC_binA (v := .int .i64 ((c : Int) + 1)) hS rfl rfl rfl rfl rfl (by simp [int2, hwrap]) ?_
      (refine opsC_plain hS rfl rfl fun _ K hK => ?_; go_simp; refine hK _ (by simp [go_sem, events_cap_slice, events_slice_hi, *]) ?_; clear hK K; try walk_nrm)
      refine opsC_M (M1 := Mall) ?_
      refine opsC_store (ad := ⟨g, v, none⟩) (v := .int .i64 ((c : Int) + 1)) (u := .int .i64 (c : Int)) hS rfl rfl rfl (by kernel_rfl) rfl rfl rfl rfl trivial hcc hfr fun wz hz => ?_
      refine opsC_M (M1 := M00) ?_
      have oz : Only wq wz := Only.re (rl_all hz)
      have hsz := ows_heap hs (re_heap (rl_all hz))
      have hs2 := hsz.set v ((c : Int) + 1)
      rw [hset] at hs2
      have oz2 : Only w (wz.setCell ⟨g, v, none⟩ (.int .i64 ((c : Int) + 1))) := only_grown (hbq.trans oz) (grownBy_setCell _ _ _) fun k hk => by cases hk; exact hgB
      repeat first
        | refine opsC_moveA hS rfl rfl (.inl rfl) ?_
        | refine opsC_moveA hS rfl rfl (.inr rfl) ?_
        | refine opsC_binA hS rfl rfl rfl rfl rfl rfl ?_
        | refine opsC_lenA hS rfl rfl rfl (by kernel_rfl) rfl ?_
        | (refine opsC_plain hS rfl rfl fun _ K hK => ?_; go_simp; refine hK _ (by simp [go_sem, events_cap_slice, events_slice_hi, *]) ?_; clear hK K; try walk_nrm)
      refine opsC_nil hS ?_
      show WpC _ _ _ _ _ _ _
      repeat refine wpC_seq hS ?_
      refine wpC_region hS ?_
      simp only [List.size_toArray, List.length_cons, List.length_nil, Nat.reduceAdd, Nat.zero_add, List.range, List.range.loop]
      refine opsC_binA (v := .int .i64 ((k + 1 : Nat) : Int)) hS rfl rfl rfl rfl rfl (by simp [int2, hkw]) ?_
      repeat first
        | refine opsC_moveA hS rfl rfl (.inl rfl) ?_
        | refine opsC_moveA hS rfl rfl (.inr rfl) ?_
        | refine opsC_binA hS rfl rfl rfl rfl rfl rfl ?_
        | refine opsC_lenA hS rfl rfl rfl (by kernel_rfl) rfl ?_
        | (refine opsC_plain hS rfl rfl fun _ K hK => ?_; go_simp; refine hK _ (by simp [go_sem, events_cap_slice, events_slice_hi, *]) ?_; clear hK K; try walk_nrm)
      refine opsC_nil hS ?_
      show LoopC _ _ _ _ _ _ _
      exact hN _ _ _ ⟨rfl, _, _, _, _, _, _, _, _, _, _, _, _, _, _, _, _, _, _, _, _, _, _, _, _, _, _, _, _, _, _, _, _, _, rfl, oz2, hs2.own⟩
  · rintro _ wr _ ⟨rfl, ao', cap', x2, x3, x4, x5, x7, x8, x9, x13, x14, x15, x16, x17, x18, x19, x20, x21, x22, x23, x24, x25, x26, x27, x28, x29, x30, x31, x32, x33, x34, x35, x36, rfl, hbr, ho⟩
    refine loopC_round hS ?_
    repeat refine wpC_seq hS ?_
    refine wpC_region hS ?_
    simp only [List.size_toArray, List.length_cons, List.length_nil, Nat.reduceAdd, Nat.zero_add, List.range, List.range.loop]
    refine opsC_binA (v := .bool false) hS rfl rfl rfl rfl rfl (by simp [int2]) ?_
    refine opsC_nil hS ?_
    show WpC _ _ _ _ _ _ _
    repeat refine wpC_seq hS ?_
    refine wpC_cond (t := false) hS rfl ?_
    simp only [if_true, if_false, Bool.false_eq_true]
    refine wpC_exit hS ?_
    show WpC _ _ _ _ _ _ _
    repeat refine wpC_seq hS ?_
    repeat refine wpC_seq hS ?_
    refine wpC_region hS ?_
    simp only [List.size_toArray, List.length_cons, List.length_nil, Nat.reduceAdd, Nat.zero_add, List.range, List.range.loop]
    first
      | refine opsC_moveA hS rfl rfl (.inl rfl) ?_
      | refine opsC_moveA hS rfl rfl (.inr rfl) ?_
      | refine opsC_binA hS rfl rfl rfl rfl rfl rfl ?_
      | refine opsC_lenA hS rfl rfl rfl (by kernel_rfl) rfl ?_
      | (refine opsC_plain hS rfl rfl fun _ K hK => ?_; go_simp; refine hK _ (by simp [go_sem, events_cap_slice, events_slice_hi, *]) ?_; clear hK K; try walk_nrm)
    first
      | refine opsC_moveA hS rfl rfl (.inl rfl) ?_
      | refine opsC_moveA hS rfl rfl (.inr rfl) ?_
      | refine opsC_binA hS rfl rfl rfl rfl rfl rfl ?_
      | refine opsC_lenA hS rfl rfl rfl (by kernel_rfl) rfl ?_
      | (refine opsC_plain hS rfl rfl fun _ K hK => ?_; go_simp; refine hK _ (by simp [go_sem, events_cap_slice, events_slice_hi, *]) ?_; clear hK K; try walk_nrm)
    first
      | refine opsC_moveA hS rfl rfl (.inl rfl) ?_
      | refine opsC_moveA hS rfl rfl (.inr rfl) ?_
      | refine opsC_binA hS rfl rfl rfl rfl rfl rfl ?_
      | refine opsC_lenA hS rfl rfl rfl (by kernel_rfl) rfl ?_
      | (refine opsC_plain hS rfl rfl fun _ K hK => ?_; go_simp; refine hK _ (by simp [go_sem, events_cap_slice, events_slice_hi, *]) ?_; clear hK K; try walk_nrm)
    refine opsC_binA (v := .bool (decide (0 < n))) hS rfl rfl rfl rfl rfl (by simp [int2]) ?_
    repeat first
      | refine opsC_moveA hS rfl rfl (.inl rfl) ?_
      | refine opsC_moveA hS rfl rfl (.inr rfl) ?_
      | refine opsC_binA hS rfl rfl rfl rfl rfl rfl ?_
      | refine opsC_lenA hS rfl rfl rfl (by kernel_rfl) rfl ?_
      | (refine opsC_plain hS rfl rfl fun _ K hK => ?_; go_simp; refine hK _ (by simp [go_sem, events_cap_slice, events_slice_hi, *]) ?_; clear hK K; try walk_nrm)
    refine opsC_nil hS ?_
    show WpC _ _ _ _ _ _ _
    refine wpC_ret hS ⟨rfl, _, resultsC_tmp2 rfl _, ?_⟩
    refine ⟨rfl, _, rfl, ?_, hbr⟩
    rw [tal, Hl.out]
    rw [List.take_of_length_le (by rw [Hl.out]; exact Nat.le_refl _)] at ho
    exact ho

end Go.Proofs.Ytjphaphnmclbcaa

/- A region that draws its order, for one of the two goroutines under way: a state that every order keeps. No condition. -/
namespace Go.Proofs.Ytjphaphnmclbcaa
open Go Go.Conc

section
variable {P : Program} {main : Bool} {Sh : Nat → Prop} {ι : Type} {C : Gh ι → Goroutine → World → Prop} {fn : FuncId} {Q : Exit → Act → World → Gh ι → Prop}

theorem opsC_lin (hS : Fam P main Sh C) {md : Region.Mode} {ops : Array Oper} (St : Array Bool → Act → World → Gh ι → Prop)
    (step : ∀ L a w M i, L.size = ops.size → St L a w M → i ∈ Region.ready md ops L → ∀ rest Q, (∀ a' w' M', St (L.setIfInBounds i true) a' w' M' → OpsC C fn ops rest Q a' w' M') → OpsC C fn ops (i :: rest) Q a w M)
    (fin : ∀ L a w M, L.size = ops.size → St L a w M → Region.ready md ops L = [] → Q .normal a w M) :
    ∀ (fuel t : Nat) (L : Array Bool) (a : Act) (w : World) (M : Gh ι), L.size = ops.size → L.count false ≤ fuel → St L a w M → OpsC C fn ops (Region.linearise.go md ops fuel t L []) Q a w M := by
  intro fuel
  induction fuel with
  | zero =>
    intro t L a w M hL hc h
    have hnil : Region.ready md ops L = [] := by
      rw [List.eq_nil_iff_forall_not_mem]
      intro j hj
      obtain ⟨h1, o, ho, _⟩ := mem_ready.1 hj
      have hlt : j < L.size := by rw [hL]; exact (Array.getElem?_eq_some_iff.1 ho).1
      have hz : L.count false = 0 := by omega
      rw [Array.count_eq_zero] at hz
      refine hz ?_
      have : L[j] = false := by simpa [Array.getD, hlt] using h1
      rw [← this]
      exact Array.getElem_mem hlt
    simpa [Region.linearise.go] using opsC_nil hS (fin L a w M hL h hnil)
  | succ fuel ih =>
    intro t L a w M hL hc h
    simp only [Region.linearise.go]
    change OpsC C fn ops (match (Region.ready md ops L)[t % (Region.ready md ops L).length]? with
      | some i => Region.linearise.go md ops fuel (t / (Region.ready md ops L).length) (L.setIfInBounds i true) [i]
      | none => [].reverse) Q a w M
    cases hi : (Region.ready md ops L)[t % (Region.ready md ops L).length]? with
    | none =>
      have hnil : Region.ready md ops L = [] := by
        cases hr : Region.ready md ops L with
        | nil => rfl
        | cons x xs =>
          rw [hr] at hi
          have hlt : t % (x :: xs).length < (x :: xs).length := Nat.mod_lt _ (by simp)
          simp at hi
          simp at hlt
          omega
      simpa using opsC_nil hS (fin L a w M hL h hnil)
    | some i =>
      simp only []
      rw [linearise_go_acc, List.reverse_singleton, List.singleton_append]
      have hm := List.mem_of_getElem? hi
      refine step L a w M i hL h hm _ _ fun a' w' M' h' => ih _ _ _ _ _ (by simpa using hL) ?_ h'
      obtain ⟨h1, o, ho, _⟩ := mem_ready.1 hm
      have hlt : i < L.size := by rw [hL]; exact (Array.getElem?_eq_some_iff.1 ho).1
      have hli : L[i] = false := by simpa [Array.getD, hlt] using h1
      have e : L.setIfInBounds i true = L.set i true hlt := by simp [Array.setIfInBounds, hlt]
      rw [e, Array.count_set hlt]
      simp [hli]
      have hpos : 0 < L.count false := by
        rw [Array.count_pos_iff, ← hli]
        exact Array.getElem_mem hlt
      omega

/-- A region that draws its order. -/
theorem wpC_region_draw (hS : Fam P main Sh C) (hm : P.follows .mixedOrders = true) {id : Nat} {ops : Array Oper} {a : Act} {w : World} {M : Gh ι}
    (h : ∀ w₁, Rl Sh M.2 w w₁ → ∀ t, OpsC C fn ops (Region.linearise.go .any ops ops.size t (Array.replicate ops.size false) []) Q a w₁ M) : WpC C fn (.region id ops true) Q a w M := by
  intro b k cs hb hk hc
  have hst : ∀ w, stepG P main (G (b.at a (.code (.region id ops true) :: k)) cs) w =
      .go (G (b.at a (.inRegion ops (Region.linearise .any ops (w.tape w.drawn (.order b.fn id))) :: k)) cs) { w with drawn := w.drawn + 1 } := by
    intro w
    have : Region.linearise .any ops (w.tape w.drawn (.order b.fn id)) = Region.schedule (P.follows .mixedOrders) ops (w.tape w.drawn (.order b.fn id)) := by simp [Region.schedule, hm]
    rw [this]
    simp [G, stepG, stepG.exec, Frame.at, choose, Sem.run, Question.forced, Question.cut]
  refine hS.step rfl (fun w₁ _ => ⟨_, _, _, hst w₁, rfl, rfl, Nat.le_refl _, fun _ _ _ => rfl, by simp⟩) fun w₁ g' w' es h₁ hs => ?_
  rw [hst w₁] at hs
  cases hs
  rw [grow_self M.2 w₁ { w₁ with drawn := w₁.drawn + 1 } rfl]
  refine hS.rely (h w₁ h₁ _ b k cs hb hk hc) ⟨rfl, rfl, Nat.le_refl _, fun _ _ => rfl⟩

end

end Go.Proofs.Ytjphaphnmclbcaa

/- The lists and numbers of the second chapter, as plain functions of lists. No condition. -/
namespace Go.Proofs.Ytjphaphnmclbcaa

/-- The places among the first k that fit with their numbers. -/
def plP (f : Int → Int → Bool) (xs : List Int) : Nat → List Int
  | 0 => []
  | k + 1 => if f k (el xs k) then plP f xs k ++ [(k : Int)] else plP f xs k
theorem plP_yes {f : Int → Int → Bool} {xs : List Int} {k : Nat} (h : f k (el xs k) = true) : plP f xs (k + 1) = plP f xs k ++ [(k : Int)] := by rw [plP, if_pos h]
theorem plP_no {f : Int → Int → Bool} {xs : List Int} {k : Nat} (h : f k (el xs k) = false) : plP f xs (k + 1) = plP f xs k := by rw [plP, h]; simp
theorem plP_len (f : Int → Int → Bool) (xs : List Int) (k : Nat) : (plP f xs k).length ≤ k := by
  induction k with
  | zero => simp [plP]
  | succ k ih =>
    rw [plP]
    split
    · rw [List.length_append, List.length_singleton]; omega
    · omega
theorem plP_mem (f : Int → Int → Bool) (xs : List Int) (k : Nat) : ∀ x ∈ plP f xs k, 0 ≤ x ∧ x < k := by
  induction k with
  | zero => intro x hx; simp [plP] at hx
  | succ k ih =>
    intro x hx
    rw [plP] at hx
    split at hx
    · rw [List.mem_append, List.mem_singleton] at hx
      rcases hx with hx | hx
      · have := ih x hx; omega
      · omega
    · have := ih x hx; omega
def upF (i u : Int) : Bool := decide (i < u)
def fixF (i u : Int) : Bool := decide (u = i)
def above (xs : List Int) : List Int := plP upF xs xs.length
def fixed (xs : List Int) : List Int := plP fixF xs xs.length
theorem above_len (xs : List Int) : (above xs).length ≤ xs.length := plP_len _ _ _
theorem fixed_len (xs : List Int) : (fixed xs).length ≤ xs.length := plP_len _ _ _

/-- The greatest of the first k numbers, or -1; the places of those that are greater than all ahead. -/
def mxP (xs : List Int) : Nat → Int
  | 0 => -1
  | k + 1 => if mxP xs k < el xs k then el xs k else mxP xs k
def rcP (xs : List Int) : Nat → List Int
  | 0 => []
  | k + 1 => if mxP xs k < el xs k then rcP xs k ++ [(k : Int)] else rcP xs k
theorem mxP_yes {xs : List Int} {k : Nat} (h : mxP xs k < el xs k) : mxP xs (k + 1) = el xs k := by rw [mxP, if_pos h]
theorem mxP_no {xs : List Int} {k : Nat} (h : el xs k ≤ mxP xs k) : mxP xs (k + 1) = mxP xs k := by rw [mxP, if_neg (by omega)]
theorem rcP_yes {xs : List Int} {k : Nat} (h : mxP xs k < el xs k) : rcP xs (k + 1) = rcP xs k ++ [(k : Int)] := by rw [rcP, if_pos h]
theorem rcP_no {xs : List Int} {k : Nat} (h : el xs k ≤ mxP xs k) : rcP xs (k + 1) = rcP xs k := by rw [rcP, if_neg (by omega)]
theorem rcP_len (xs : List Int) (k : Nat) : (rcP xs k).length ≤ k := by
  induction k with
  | zero => simp [rcP]
  | succ k ih =>
    rw [rcP]
    split
    · rw [List.length_append, List.length_singleton]; omega
    · omega
def records (xs : List Int) : List Int := rcP xs xs.length
theorem records_len (xs : List Int) : (records xs).length ≤ xs.length := rcP_len _ _

/-- How far the first k numbers are from their places. -/
def shP (xs : List Int) : Nat → Int
  | 0 => 0
  | k + 1 => shP xs k + max (el xs k - k) (k - el xs k)
def shift (xs : List Int) : Int := shP xs xs.length
theorem shP_bd {xs : List Int} (h : Valid xs) : ∀ k, k ≤ xs.length → 0 ≤ shP xs k ∧ shP xs k ≤ 7 * k := by
  intro k
  induction k with
  | zero => intro _; simp [shP]
  | succ k ih =>
    intro hk
    have h1 := ih (by omega)
    have h2 := h.lo k (by omega)
    have h3 := h.hi k (by omega)
    have h4 := h.len
    rw [shP]
    omega

/-- How many pairs of places i < k, k among the first ones, fit with their numbers. -/
def inP (f : Int → Int → Int → Int → Bool) (xs : List Int) (k t : Nat) : Int := cntP (fun i => f i (el xs i) k (el xs k)) t
def prP (f : Int → Int → Int → Int → Bool) (xs : List Int) : Nat → Int
  | 0 => 0
  | k + 1 => prP f xs k + inP f xs k k
def pairs (f : Int → Int → Int → Int → Bool) (xs : List Int) : Int := prP f xs xs.length
theorem inP_bd (f : Int → Int → Int → Int → Bool) (xs : List Int) (k t : Nat) : 0 ≤ inP f xs k t ∧ inP f xs k t ≤ t := cntP_bd _ _
theorem inP_yes {f : Int → Int → Int → Int → Bool} {xs : List Int} {k t : Nat} (h : f t (el xs t) k (el xs k) = true) : inP f xs k (t + 1) = inP f xs k t + 1 := cntP_yes h
theorem inP_no {f : Int → Int → Int → Int → Bool} {xs : List Int} {k t : Nat} (h : f t (el xs t) k (el xs k) = false) : inP f xs k (t + 1) = inP f xs k t := cntP_no h
theorem prP_bd (f : Int → Int → Int → Int → Bool) (xs : List Int) (k : Nat) : 0 ≤ prP f xs k ∧ prP f xs k ≤ k * k := by
  induction k with
  | zero => simp [prP]
  | succ k ih =>
    have := inP_bd f xs k k
    rw [prP]
    have e : ((k + 1 : Nat) : Int) * (k + 1 : Nat) = k * k + k + k + 1 := by rw [Int.natCast_add, Int.add_mul, Int.mul_add]; simp; omega
    omega
def crossF (i u k v : Int) : Bool := decide (k ≤ u) && decide (u < v) || decide (u < v) && decide (v < i)
def nestF (i u k v : Int) : Bool := decide (k ≤ v) && decide (v < u) || decide (v < u) && decide (u < i)
def denF (i u k v : Int) : Bool := decide (v < u) && (decide (i < u) == decide (k < v))

end Go.Proofs.Ytjphaphnmclbcaa

/- Foata's map and its way back, as plain functions of lists. No condition. -/
namespace Go.Proofs.Ytjphaphnmclbcaa

/-- Does z lie on the side of x that low names? -/
def sid (low : Bool) (x z : Int) : Bool := decide (z < x) == low
/-- The first i numbers of v, cut behind those of the side: the pieces that are turned, and the one that is open. -/
def tbP (low : Bool) (x : Int) (v : List Int) : Nat → List Int × List Int
  | 0 => ([], [])
  | i + 1 => if sid low x (el v i) then ((tbP low x v i).1 ++ [el v i] ++ (tbP low x v i).2, []) else ((tbP low x v i).1, (tbP low x v i).2 ++ [el v i])
theorem tbP_yes {low : Bool} {x : Int} {v : List Int} {i : Nat} (h : sid low x (el v i) = true) : tbP low x v (i + 1) = ((tbP low x v i).1 ++ [el v i] ++ (tbP low x v i).2, []) := by rw [tbP, if_pos h]
theorem tbP_no {low : Bool} {x : Int} {v : List Int} {i : Nat} (h : sid low x (el v i) = false) : tbP low x v (i + 1) = ((tbP low x v i).1, (tbP low x v i).2 ++ [el v i]) := by rw [tbP, h]; simp
theorem tbP_len (low : Bool) (x : Int) (v : List Int) (i : Nat) : (tbP low x v i).1.length + (tbP low x v i).2.length = i := by
  induction i with
  | zero => rfl
  | succ i ih =>
    rw [tbP]
    split
    · simp; omega
    · simp; omega
/-- The open piece is the end of what was looked at. -/
theorem tbP_run (low : Bool) (x : Int) (v : List Int) (i : Nat) (hi : i ≤ v.length) : (tbP low x v i).2 = (v.take i).drop (tbP low x v i).1.length := by
  induction i with
  | zero => simp [tbP]
  | succ i ih =>
    have hl := tbP_len low x v i
    rw [tbP]
    split
    · rw [List.drop_eq_nil_of_le]
      simp; omega
    · show _ = (v.take (i + 1)).drop _
      rw [take_el (by omega), List.drop_append_of_le_length (by simp; omega), ← ih (by omega)]
def lowOf (v : List Int) (x : Int) : Bool := decide (0 < v.length) && decide (el v (v.length - 1) < x)
def turnB (v : List Int) (x : Int) : List Int := (tbP (lowOf v x) x v v.length).1 ++ (tbP (lowOf v x) x v v.length).2
theorem turnB_len (v : List Int) (x : Int) : (turnB v x).length = v.length := by rw [turnB, List.length_append, tbP_len]
def foP (xs : List Int) : Nat → List Int
  | 0 => []
  | k + 1 => turnB (foP xs k) (el xs k) ++ [el xs k]
theorem foP_len (xs : List Int) (k : Nat) : (foP xs k).length = k := by
  induction k with
  | zero => rfl
  | succ k ih => rw [foP, List.length_append, turnB_len, ih]; rfl
def foat (xs : List Int) : List Int := foP xs xs.length
theorem foat_len (xs : List Int) : (foat xs).length = xs.length := foP_len _ _

/-- Numbers from the last one on, cut ahead of those of the side: the open piece at the beginning, and the pieces that are turned back. -/
def bkS (low : Bool) (x : Int) : List Int → List Int × List Int
  | [] => ([], [])
  | y :: v => if sid low x y then ([], (bkS low x v).1 ++ [y] ++ (bkS low x v).2) else (y :: (bkS low x v).1, (bkS low x v).2)
theorem bkS_len (low : Bool) (x : Int) (v : List Int) : (bkS low x v).1.length + (bkS low x v).2.length = v.length := by
  induction v with
  | nil => rfl
  | cons y v ih =>
    rw [bkS]
    split
    · simp; omega
    · simp; omega
theorem bkS_run (low : Bool) (x : Int) (v : List Int) : (bkS low x v).1 = v.take (bkS low x v).1.length := by
  induction v with
  | nil => rfl
  | cons y v ih =>
    rw [bkS]
    split
    · simp
    · simp only [List.length_cons, List.take_succ_cons]
      rw [← ih]
/-- From place j on. -/
theorem drop_cons {v : List Int} {j : Nat} (h : j < v.length) : v.drop j = el v j :: v.drop (j + 1) := by
  rw [el_lt h]; exact List.drop_eq_getElem_cons h
theorem bkS_yes {low : Bool} {x : Int} {v : List Int} {j : Nat} (hj : j < v.length) (h : sid low x (el v j) = true) : bkS low x (v.drop j) = ([], (bkS low x (v.drop (j + 1))).1 ++ [el v j] ++ (bkS low x (v.drop (j + 1))).2) := by
  rw [drop_cons hj, bkS, if_pos h]
theorem bkS_no {low : Bool} {x : Int} {v : List Int} {j : Nat} (hj : j < v.length) (h : sid low x (el v j) = false) : bkS low x (v.drop j) = (el v j :: (bkS low x (v.drop (j + 1))).1, (bkS low x (v.drop (j + 1))).2) := by
  rw [drop_cons hj, bkS, h]; simp
def lowB (v : List Int) (x : Int) : Bool := decide (0 < v.length) && decide (el v 0 < x)
def backB (v : List Int) (x : Int) : List Int := (bkS (lowB v x) x v).1 ++ (bkS (lowB v x) x v).2
theorem backB_len (v : List Int) (x : Int) : (backB v x).length = v.length := by rw [backB, List.length_append, bkS_len]
/-- The first n - t numbers after t steps back; what stands behind them is done. -/
def fbP (xs : List Int) : Nat → List Int
  | 0 => xs
  | t + 1 => backB ((fbP xs t).take ((fbP xs t).length - 1)) (el (fbP xs t) ((fbP xs t).length - 1))
def fbT (xs : List Int) : Nat → List Int
  | 0 => []
  | t + 1 => el (fbP xs t) ((fbP xs t).length - 1) :: fbT xs t
theorem fbP_len (xs : List Int) (t : Nat) : (fbP xs t).length = xs.length - t := by
  induction t with
  | zero => rfl
  | succ t ih => rw [fbP, backB_len, List.length_take, ih]; omega
theorem fbT_len (xs : List Int) (t : Nat) : (fbT xs t).length = t := by
  induction t with
  | zero => rfl
  | succ t ih => rw [fbT, List.length_cons, ih]
def fbac (xs : List Int) : List Int := fbT xs xs.length
theorem fbac_len (xs : List Int) : (fbac xs).length = xs.length := fbT_len _ _

end Go.Proofs.Ytjphaphnmclbcaa

/- A reckoning over all orders, in eight parts: those of at most six values, and those of seven by their first values. No condition. -/
namespace Go.Proofs.Ytjphaphnmclbcaa

/-- All orders of seven values that begin with x. -/
def begun (x : Int) : List (List Int) := (perms 6 ((rng 7).erase x)).map (x :: ·)
theorem Valid.parts {xs : List Int} (h : Valid xs) {p : List Int → Bool} (h6 : (allUpTo 6).all p = true) (h7 : ∀ x ∈ rng 7, (begun x).all p = true) : p xs = true := by
  by_cases e : xs.length ≤ 6
  · exact h.all' e h6
  · have e7 : xs.length = 7 := by have := h.len; omega
    have hm := h.in_orders
    rw [e7, orders] at hm
    simp only [perms, List.mem_flatMap] at hm
    obtain ⟨x, hx, hm⟩ := hm
    exact List.all_eq_true.1 (h7 x hx) xs hm
theorem seven {P : Int → Prop} (h0 : P 0) (h1 : P 1) (h2 : P 2) (h3 : P 3) (h4 : P 4) (h5 : P 5) (h6 : P 6) : ∀ x ∈ rng 7, P x := by
  intro x hx
  have := (mem_rng 7 x).1 hx
  obtain ⟨v, rfl⟩ := Int.eq_ofNat_of_zero_le this.1
  match v, this.2 with
  | 0, _ => exact h0
  | 1, _ => exact h1
  | 2, _ => exact h2
  | 3, _ => exact h3
  | 4, _ => exact h4
  | 5, _ => exact h5
  | 6, _ => exact h6
  | v + 7, h => exact absurd h (by omega)

end Go.Proofs.Ytjphaphnmclbcaa

/- Counts of orders, reckoned fast: for what the kernel reckons over all orders. No condition. -/
namespace Go.Proofs.Ytjphaphnmclbcaa

def ltb : Int → Int → Bool
  | .ofNat m, .ofNat n => Nat.blt m n
  | .ofNat _, .negSucc _ => false
  | .negSucc _, .ofNat _ => true
  | .negSucc m, .negSucc n => Nat.blt n m
theorem ltb_eq (a b : Int) : ltb a b = decide (a < b) := by
  cases a with
  | ofNat m => cases b with
    | ofNat n => rw [ltb, Bool.eq_iff_iff, Nat.blt_eq, decide_eq_true_iff]; simp only [Int.ofNat_eq_natCast]; omega
    | negSucc n => rw [ltb, eq_comm, decide_eq_false_iff_not]; simp only [Int.ofNat_eq_natCast]; omega
  | negSucc m => cases b with
    | ofNat n => rw [ltb, eq_comm, decide_eq_true_iff]; simp only [Int.ofNat_eq_natCast]; omega
    | negSucc n => rw [ltb, Bool.eq_iff_iff, Nat.blt_eq, decide_eq_true_iff]; omega
def eqb : Int → Int → Bool
  | .ofNat m, .ofNat n => Nat.beq m n
  | .ofNat _, .negSucc _ => false
  | .negSucc _, .ofNat _ => false
  | .negSucc m, .negSucc n => Nat.beq m n
theorem eqb_eq (a b : Int) : eqb a b = decide (a = b) := by
  cases a with
  | ofNat m => cases b with
    | ofNat n => rw [eqb, Bool.eq_iff_iff, Nat.beq_eq, decide_eq_true_iff]; simp only [Int.ofNat_eq_natCast]; omega
    | negSucc n => rw [eqb, eq_comm, decide_eq_false_iff_not]; simp only [Int.ofNat_eq_natCast]; omega
  | negSucc m => cases b with
    | ofNat n => rw [eqb, eq_comm, decide_eq_false_iff_not]; simp only [Int.ofNat_eq_natCast]; omega
    | negSucc n => rw [eqb, Bool.eq_iff_iff, Nat.beq_eq, decide_eq_true_iff]; omega
def eqs : List Int → List Int → Bool
  | [], [] => true
  | x :: xs, y :: ys => match eqb x y with
    | true => eqs xs ys
    | false => false
  | _, _ => false
theorem eqs_eq {xs ys : List Int} (h : eqs xs ys = true) : xs = ys := by
  induction xs generalizing ys with
  | nil => cases ys <;> simp_all [eqs]
  | cons x xs ih =>
    cases ys with
    | nil => simp [eqs] at h
    | cons y ys =>
      rw [eqs, eqb_eq] at h
      by_cases e : x = y
      · simp only [e, decide_true] at h
        rw [e, ih h]
      · simp [e] at h
/-- How many of xs are less than x, and n. -/
def clF (x : Int) : List Int → Nat → Nat
  | [], n => n
  | y :: v, n => match ltb y x with
    | true => clF x v (n + 1)
    | false => clF x v n
def invF : List Int → Nat → Nat
  | [], n => n
  | x :: xs, n => invF xs (clF x xs n)
def majF : List Int → Nat → Nat → Nat
  | [], _, n => n
  | [_], _, n => n
  | x :: y :: xs, k, n => match ltb y x with
    | true => majF (y :: xs) (k + 1) (n + k)
    | false => majF (y :: xs) (k + 1) n

theorem clF_eq (x : Int) (v : List Int) (n : Nat) : clF x v n = v.countP (fun y => decide (y < x)) + n := by
  induction v generalizing n with
  | nil => simp [clF]
  | cons y v ih =>
    rw [clF, ltb_eq]
    by_cases e : y < x
    · simp [e, ih]; omega
    · simp [e, ih]
theorem invF_add (xs : List Int) (n : Nat) : invF xs n = invF xs 0 + n := by
  induction xs generalizing n with
  | nil => simp [invF]
  | cons x xs ih => rw [invF, invF, ih, ih (clF x xs 0), clF_eq, clF_eq]; omega
theorem majF_add (xs : List Int) (k n : Nat) : majF xs k n = majF xs k 0 + n := by
  induction xs generalizing k n with
  | nil => simp [majF]
  | cons x xs ih =>
    cases xs with
    | nil => simp [majF]
    | cons y xs =>
      rw [majF, majF, ltb_eq]
      cases decide (y < x)
      · exact ih _ _
      · show majF (y :: xs) (k + 1) (n + k) = majF (y :: xs) (k + 1) (0 + k) + n
        rw [ih (k + 1) (n + k), ih (k + 1) (0 + k)]; omega
theorem el_cons (x : Int) (xs : List Int) (k : Nat) : el (x :: xs) (k + 1) = el xs k := by simp [el]
theorem el_zero (x : Int) (xs : List Int) : el (x :: xs) 0 = x := by simp [el]
theorem cntP_front (p : Nat → Bool) (k : Nat) : cntP p (k + 1) = (if p 0 then 1 else 0) + cntP (fun j => p (j + 1)) k := by
  induction k with
  | zero => simp [cntP]
  | succ k ih => rw [cntP, ih, cntP]; split <;> split <;> omega
theorem cntP_countP (v : List Int) (f : Int → Bool) : cntP (fun j => f (el v j)) v.length = (v.countP f : Int) := by
  induction v with
  | nil => rfl
  | cons y v ih =>
    rw [List.length_cons, cntP_front, el_zero]
    have e : (fun j => f (el (y :: v) (j + 1))) = fun j => f (el v j) := by funext j; rw [el_cons]
    rw [e, ih, List.countP_cons]
    split <;> simp <;> omega
theorem lb_cons (x : Int) (xs : List Int) (k : Nat) : lb (x :: xs) (k + 1) = lb xs k := by
  unfold lb lbP
  have e : (fun j => decide (el (x :: xs) (k + 1 + 1 + j) < el (x :: xs) (k + 1))) = fun j => decide (el xs (k + 1 + j) < el xs k) := by
    funext j
    rw [show k + 1 + 1 + j = (k + 1 + j) + 1 by omega, el_cons, el_cons]
  rw [e, List.length_cons]
  congr 1
  omega
theorem lb_zero (x : Int) (xs : List Int) : lb (x :: xs) 0 = (xs.countP (fun y => decide (y < x)) : Int) := by
  unfold lb lbP
  have e : (fun j => decide (el (x :: xs) (0 + 1 + j) < el (x :: xs) 0)) = fun j => (fun y => decide (y < x)) (el xs j) := by
    funext j
    rw [show 0 + 1 + j = j + 1 by omega, el_cons, el_zero]
  rw [e, ← cntP_countP]
  congr 1
theorem table_cons (x : Int) (xs : List Int) : table (x :: xs) = (xs.countP (fun y => decide (y < x)) : Int) :: table xs := by
  rw [table, List.length_cons, List.range_succ_eq_map, List.map_cons, lb_zero, List.map_map]
  congr 1
  exact List.map_congr_left (fun k _ => lb_cons x xs k)
theorem sumTo_cons (x : Int) (xs : List Int) (k : Nat) : sumTo (x :: xs) (k + 1) = x + sumTo xs k := by
  induction k with
  | zero => simp [sumTo, el_zero]
  | succ k ih => rw [sumTo, ih, el_cons, sumTo]; omega
theorem sumL_cons (x : Int) (xs : List Int) : sumL (x :: xs) = x + sumL xs := by rw [sumL, List.length_cons, sumTo_cons, sumL]
theorem sumL_nil : sumL [] = 0 := rfl
theorem invF_eq (xs : List Int) : (invF xs 0 : Int) = sumL (table xs) := by
  induction xs with
  | nil => rfl
  | cons x xs ih => rw [invF, invF_add, clF_eq, table_cons, sumL_cons, ← ih]; omega

/-- The sum of the places, from s on, behind which a lesser number stands. -/
def mjP (xs : List Int) : Nat → Int
  | 0 => 0
  | k + 1 => if el xs (k + 1) < el xs k then mjP xs k + k + 1 else mjP xs k
theorem sumL_app (xs : List Int) (v : Int) : sumL (xs ++ [v]) = sumL xs + v := by
  induction xs with
  | nil => simp [sumL, sumTo, el]
  | cons x xs ih => rw [List.cons_append, sumL_cons, ih, sumL_cons]; omega
theorem mjP_eq (xs : List Int) : ∀ k, sumL (dsP xs k) + (dsP xs k).length = mjP xs k := by
  intro k
  induction k with
  | zero => rfl
  | succ k ih =>
    rw [dsP, mjP]
    split
    · rw [sumL_app, List.length_append, List.length_singleton]; omega
    · exact ih
theorem major_eq (xs : List Int) : major xs = mjP xs (xs.length - 1) := mjP_eq xs _
theorem majF_drop (xs : List Int) (d : Nat) : ∀ (m : Nat), m + d = xs.length → (majF (xs.drop m) (m + 1) 0 : Int) + mjP xs (m - 0) = mjP xs (m + (d - 1)) := by
  induction d with
  | zero =>
    intro m hm
    rw [List.drop_eq_nil_of_le (by omega)]
    simp [majF]
  | succ d ih =>
    intro m hm
    have h1 : m < xs.length := by omega
    have e1 : xs.drop m = el xs m :: xs.drop (m + 1) := by rw [el_lt h1]; exact List.drop_eq_getElem_cons h1
    cases d with
    | zero =>
      rw [e1, List.drop_eq_nil_of_le (by omega)]
      simp [majF]
    | succ d =>
      have h2 : m + 1 < xs.length := by omega
      have e2 : xs.drop (m + 1) = el xs (m + 1) :: xs.drop (m + 1 + 1) := by rw [el_lt h2]; exact List.drop_eq_getElem_cons h2
      have := ih (m + 1) (by omega)
      rw [e1, e2, majF, ltb_eq, ← e2]
      simp only [Nat.sub_zero] at this ⊢
      rw [show m + 1 + (d + 1 - 1) = m + (d + 1 + 1 - 1) by omega] at this
      rw [← this, mjP]
      by_cases e : el xs (m + 1) < el xs m
      · simp only [e, decide_true, if_true]
        rw [majF_add]; omega
      · simp only [e, decide_false, if_false]
theorem majF_eq (xs : List Int) : (majF xs 1 0 : Int) = major xs := by
  have := majF_drop xs xs.length 0 (by omega)
  simp only [List.drop_zero, Nat.zero_add, Nat.sub_zero] at this
  rw [major_eq, ← this, mjP]
  omega

end Go.Proofs.Ytjphaphnmclbcaa

