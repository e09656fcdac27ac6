/- The last region of the law of MixRow, whatever order the tape picks. No condition. -/
import Derived.Test.YtjphaphnmclbcaaMxO
import Derived.Test.YtjphaphnmclbcaaBne
import Derived.Test.YtjphaphnmclbcaaBnf
import Derived.Test.YtjphaphnmclbcaaRkK
import Derived.Test.YtjphaphnmclbcaaBnd
import Derived.Test.YtjphaphnmclbcaaTk
namespace Go.Proofs.Ytjphaphnmclbcaa
open Go Go.Conc Go.RowKit

/-- The fourteen operations. -/
structure R11 (ops : Array Oper) : Prop where
  n : ops.size = 14
  top : (List.range 14).all (fun j => match ops[j]? with | some o => o.after.all (fun e => decide (e.on < j)) | none => true) = true
  o0 : ∃ o, ops[0]? = some o ∧ o.guard = none ∧ o.dst = some 66 ∧ o.op = .move (.tmp 6)
  o1 : ∃ o, ops[1]? = some o ∧ o.guard = none ∧ o.dst = some 67 ∧ o.op = .move (.tmp 10)
  o2 : ∃ o, ops[2]? = some o ∧ o.guard = none ∧ o.dst = some 68 ∧ o.op = .makeSlice 23 (.tmp 67) (.tmp 67) ∧ dep 1 o
  o3 : ∃ o, ops[3]? = some o ∧ o.guard = none ∧ o.dst = some 69 ∧ o.op = .move (.tmp 3)
  o4 : ∃ o, ops[4]? = some o ∧ o.guard = none ∧ o.dst = some 70 ∧ o.op = .call { callee := .builtin .len, args := #[.tmp 69], argTypes := #[23] } ∧ dep 3 o
  o5 : ∃ o, ops[5]? = some o ∧ o.guard = none ∧ o.dst = some 71 ∧ o.op = .move (.tmp 4)
  o6 : ∃ o, ops[6]? = some o ∧ o.guard = none ∧ o.dst = some 72 ∧ o.op = .call { callee := .builtin .len, args := #[.tmp 71], argTypes := #[23] } ∧ dep 5 o
  o7 : ∃ o, ops[7]? = some o ∧ o.guard = none ∧ o.dst = some 73 ∧ o.op = .binOp .add 3 (.tmp 70) (.tmp 72) 3 ∧ dep 4 o ∧ dep 6 o
  o8 : ∃ o, ops[8]? = some o ∧ o.guard = none ∧ o.dst = some 74 ∧ o.op = .move (.tmp 3)
  o9 : ∃ o, ops[9]? = some o ∧ o.guard = none ∧ o.dst = some 75 ∧ o.op = .call { callee := .builtin .len, args := #[.tmp 74], argTypes := #[23] } ∧ dep 8 o
  o10 : ∃ o, ops[10]? = some o ∧ o.guard = none ∧ o.dst = some 76 ∧ (∃ ats, o.op = .call { callee := .value (.func 23), args := #[.tmp 73, .tmp 75], argTypes := ats }) ∧ dep 7 o ∧ dep 9 o
  o11 : ∃ o, ops[11]? = some o ∧ o.guard = none ∧ o.dst = some 77 ∧ o.op = .call { callee := .builtin .append, args := #[.tmp 68, .tmp 76], argTypes := #[23, 23] } ∧ dep 2 o ∧ dep 10 o
  o12 : ∃ o, ops[12]? = some o ∧ o.guard = none ∧ o.dst = some 78 ∧ (∃ ats, o.op = .call { callee := .value (.func 20), args := #[.tmp 66, .tmp 77], argTypes := ats }) ∧ dep 0 o ∧ dep 11 o
  o13 : ∃ o, ops[13]? = some o ∧ o.guard = none ∧ o.dst = some 2 ∧ o.op = .assign (.tmp 78) ∧ dep 12 o

section
variable (vg vp vq : Value) (f a b : Nat) (Bi : List Int) (a0 : Act) (w0 : World)

/-- What the operations answer that look at no memory. -/
def pv : Nat → Option Value
  | 0 => some vg
  | 1 => some (.int .i64 f)
  | 3 => some vp
  | 4 => some (.int .i64 a)
  | 5 => some vq
  | 6 => some (.int .i64 b)
  | 7 => some (.int .i64 ((a : Int) + b))
  | 8 => some vp
  | 9 => some (.int .i64 a)
  | 12 => some (.bool true)
  | _ => none
def slotR (j : Nat) : Nat := if j = 13 then 2 else 66 + j

structure St11 (L : Array Bool) (act : Act) (w : World) : Prop where
  sz : act.tmps.size = 79
  df : act.defers = []
  eq : ∀ s, s < 66 → s ≠ 2 → act.tmps.getD s undef = a0.tmps.getD s undef
  pvs : ∀ j v, j < 13 → pv vg vp vq f a b j = some v → L.getD j false = true → act.tmps.getD (66 + j) undef = v
  only : Only w0 w
  r2 : L.getD 2 false = true → L.getD 11 false = false → Own w w0.heap.size (act.tmps.getD 68 undef) (List.replicate f 0)
  r10 : L.getD 10 false = true → L.getD 11 false = false → Own w w0.heap.size (act.tmps.getD 76 undef) Bi
  r11 : L.getD 11 false = true → Own w w0.heap.size (act.tmps.getD 77 undef) (List.replicate f 0 ++ Bi)
  r13 : L.getD 13 false = true → act.tmps.getD 2 undef = .bool true

variable {vg vp vq f a b Bi a0 w0}
variable {L : Array Bool} {act : Act} {w : World}

theorem slotR_lt {j : Nat} (h : j < 14) : slotR j < 79 := by unfold slotR; split <;> omega
theorem St11.next (h : St11 vg vp vq f a b Bi a0 w0 L act w) (hL : L.size = 14) {i : Nat} (hi : i < 14) {v : Value} {w' : World} (ho : Only w0 w')
    (hon : Only w w' ∨ i = 11) (hp : ∀ u, pv vg vp vq f a b i = some u → v = u) (h2 : i = 2 → Own w' w0.heap.size v (List.replicate f 0)) (h10 : i = 10 → Own w' w0.heap.size v Bi)
    (h11 : i = 11 → Own w' w0.heap.size v (List.replicate f 0 ++ Bi)) (h13 : i = 13 → v = .bool true) (hn11 : i = 11 → L.getD 11 false = false) :
    St11 vg vp vq f a b Bi a0 w0 (L.setIfInBounds i true) (act.put (some (slotR i)) v) w' := by
  have hsz := h.sz
  have hs := slotR_lt hi
  have hsl : ∀ j, j < 13 → i ≠ j → slotR i ≠ 66 + j := fun j hj e => by unfold slotR; split <;> omega
  refine ⟨by rw [put_size]; exact hsz, by rw [put_defers]; exact h.df, fun s hs1 hs2 => ?_, fun j u hj hu hl => ?_, ho, fun hl hl2 => ?_, fun hl hl2 => ?_, fun hl => ?_, fun hl => ?_⟩
  · rw [put_getD (by omega), if_neg (by unfold slotR; split <;> omega)]; exact h.eq s hs1 hs2
  · rw [put_getD (by omega)]
    rw [getD_set (by omega)] at hl
    by_cases e : i = j
    · subst e
      rw [if_pos (by unfold slotR; rw [if_neg (by omega)])]
      exact hp u hu
    · rw [if_neg (hsl j hj e)]
      rw [if_neg e] at hl
      exact h.pvs j u hj hu hl
  · rw [getD_set (by omega)] at hl hl2
    by_cases e11 : i = 11
    · rw [if_pos e11] at hl2; cases hl2
    rw [if_neg e11] at hl2
    rw [put_getD (by omega)]
    by_cases e : i = 2
    · subst e; exact h2 rfl
    · rw [if_neg (hsl 2 (by omega) e)]
      rw [if_neg e] at hl
      exact (h.r2 hl hl2).only (hon.resolve_right e11)
  · rw [getD_set (by omega)] at hl hl2
    by_cases e11 : i = 11
    · rw [if_pos e11] at hl2; cases hl2
    rw [if_neg e11] at hl2
    rw [put_getD (by omega)]
    by_cases e : i = 10
    · subst e; exact h10 rfl
    · rw [if_neg (hsl 10 (by omega) e)]
      rw [if_neg e] at hl
      exact (h.r10 hl hl2).only (hon.resolve_right e11)
  · rw [getD_set (by omega)] at hl
    rw [put_getD (by omega)]
    by_cases e : i = 11
    · subst e; exact h11 rfl
    · rw [if_neg (hsl 11 (by omega) e)]
      rw [if_neg e] at hl
      exact (h.r11 hl).only (hon.resolve_right e)
  · rw [getD_set (by omega)] at hl
    rw [put_getD (by omega)]
    by_cases e : i = 13
    · subst e; exact h13 rfl
    · rw [if_neg (by unfold slotR; rw [if_neg e]; omega)]
      rw [if_neg e] at hl
      exact h.r13 hl

theorem own_of_ows {B g n cap : Nat} {w : World} {ys : List Int} (h : OwS w B g n cap ys) (hn : ys.length = n := by simp) : Own w B (.slice (some ⟨g, 0, none⟩) n cap) ys := by
  subst hn; exact h

theorem step11 {Stop : Goroutine → World → Prop} {ops : Array Oper} (h9 : R11 ops) {ag : Option Addr} {cg : Nat} {ap : Option Addr} {cp : Nat} {aq : Option Addr} {cq : Nat}
    (hg : vg = .slice ag (f + Bi.length) cg) (hp : vp = .slice ap a cp) (hq : vq = .slice aq b cq) (hs : Sl w0 ag (f + Bi.length) cg (List.replicate f 0 ++ Bi))
    (hf : f ≤ 1000) (hab : a + b ≤ 5) (hB1 : 0 < Bi.length) (hB2 : Bi.length ≤ 1000) (hBi : binL ((a : Int) + b) a = Bi)
    (f3 : a0.tmps.getD 3 undef = vp) (f4 : a0.tmps.getD 4 undef = vq) (f6 : a0.tmps.getD 6 undef = vg) (f10 : a0.tmps.getD 10 undef = .int .i64 f) {fn : FuncId} :
    ∀ (L : Array Bool) (act : Act) (w : World) (M : Gh Unit) (i : Nat), L.size = ops.size → St11 vg vp vq f a b Bi a0 w0 L act w → i ∈ Region.ready .any ops L → ∀ rest Q, (∀ a' w' (M' : Gh Unit), St11 vg vp vq f a b Bi a0 w0 (L.setIfInBounds i true) a' w' → OpsC (TF Try.prog Stop) fn ops rest Q a' w' M') →
      OpsC (TF Try.prog Stop) fn ops (i :: rest) Q act w M := by
  intro L act w M i hLs hst hi rest Q hK
  have hS : Fam Try.prog true (fun _ => True) (TF Try.prog Stop) := fam_T
  have hL : L.size = 14 := hLs.trans h9.n
  have hi8 : i < 14 := by
    obtain ⟨_, o, ho, _⟩ := mem_ready.1 hi
    have := (Array.getElem?_eq_some_iff.1 ho).1
    have := h9.n
    omega
  have hiF : L.getD i false = false := by
    have := (mem_ready.1 hi).1
    simp only [Array.getD_eq_getD_getElem?] at this ⊢
    have hlt : i < L.size := by omega
    simpa [hlt] using this
  have ev : ∀ s, act.eval (.tmp s) = act.tmps.getD s undef := fun _ => rfl
  have hsz := hst.sz
  have hon := hst.only
  have same : ∀ {v : Value}, (∀ u, pv vg vp vq f a b i = some u → v = u) → i ≠ 2 → i ≠ 10 → i ≠ 11 → i ≠ 13 → St11 vg vp vq f a b Bi a0 w0 (L.setIfInBounds i true) (act.put (some (slotR i)) v) w :=
    fun hp n2 n10 n11 n13 => hst.next hL hi8 hon (.inl (Only.refl w)) hp (fun e => absurd e n2) (fun e => absurd e n10) (fun e => absurd e n11) (fun e => absurd e n13) (fun e => absurd e n11)
  have same' : ∀ {v : Value} {w' : World}, Only w w' → (∀ u, pv vg vp vq f a b i = some u → v = u) → i ≠ 2 → i ≠ 10 → i ≠ 11 → i ≠ 13 → St11 vg vp vq f a b Bi a0 w0 (L.setIfInBounds i true) (act.put (some (slotR i)) v) w' :=
    fun ho hp n2 n10 n11 n13 => hst.next hL hi8 (hon.trans ho) (.inl ho) hp (fun e => absurd e n2) (fun e => absurd e n10) (fun e => absurd e n11) (fun e => absurd e n13) (fun e => absurd e n11)
  rcases (show i = 0 ∨ i = 1 ∨ i = 2 ∨ i = 3 ∨ i = 4 ∨ i = 5 ∨ i = 6 ∨ i = 7 ∨ i = 8 ∨ i = 9 ∨ i = 10 ∨ i = 11 ∨ i = 12 ∨ i = 13 by omega) with rfl | rfl | rfl | rfl | rfl | rfl | rfl | rfl | rfl | rfl | rfl | rfl | rfl | rfl
  · obtain ⟨o, ho, hgd, hd, hop⟩ := h9.o0
    refine opsC_move hS ho (wanted_none hgd _) (.inl hop) (by rw [hd]; rfl) (hK _ _ _ (same (fun u e => ?_) (by omega) (by omega) (by omega) (by omega)))
    cases e
    rw [ev, hst.eq 6 (by omega) (by omega)]; exact f6
  · obtain ⟨o, ho, hgd, hd, hop⟩ := h9.o1
    refine opsC_move hS ho (wanted_none hgd _) (.inl hop) (by rw [hd]; rfl) (hK _ _ _ (same (fun u e => ?_) (by omega) (by omega) (by omega) (by omega)))
    cases e
    rw [ev, hst.eq 10 (by omega) (by omega)]; exact f10
  · obtain ⟨o, ho, hgd, hd, hop, d1⟩ := h9.o2
    have l1 := dep_ready hi ho d1
    have e67 : act.eval (.tmp 67) = .int .i64 (f : Int) := (ev 67).trans (hst.pvs 1 _ (by omega) rfl l1)
    refine opsC_make_ints hS ho (wanted_none hgd _) hop f e67 e67 (by omega) fun w₁ w' hr ow hgr hlt => ?_
    have hre := rl_all hr
    have ho1 : Only w w' := (Only.re hre).trans ⟨hgr.os, hgr.output, hgr.size, fun k hk => hgr.block k hk (by simp)⟩
    have hsz1 : w0.heap.size ≤ w₁.heap.size := Nat.le_trans hon.size hr.size
    rw [hd]
    exact hK _ _ _ (hst.next hL hi8 (hon.trans ho1) (.inl ho1) (fun u e => by cases e) (fun _ => own_of_ows (ow.low hsz1)) (by omega) (by omega) (by omega) (by omega))
  · obtain ⟨o, ho, hgd, hd, hop⟩ := h9.o3
    refine opsC_move hS ho (wanted_none hgd _) (.inl hop) (by rw [hd]; rfl) (hK _ _ _ (same (fun u e => ?_) (by omega) (by omega) (by omega) (by omega)))
    cases e
    rw [ev, hst.eq 3 (by omega) (by omega)]; exact f3
  · obtain ⟨o, ho, hgd, hd, hop, d1⟩ := h9.o4
    have l1 := dep_ready hi ho d1
    have e1 : act.eval (.tmp 69) = .slice ap a cp := ((ev 69).trans (hst.pvs 3 _ (by omega) rfl l1)).trans hp
    exact opsC_len hS ho (wanted_none hgd _) hop (by kernel_rfl) e1 (by rw [hd]; rfl) (hK _ _ _ (same (fun u e => by cases e; rfl) (by omega) (by omega) (by omega) (by omega)))
  · obtain ⟨o, ho, hgd, hd, hop⟩ := h9.o5
    refine opsC_move hS ho (wanted_none hgd _) (.inl hop) (by rw [hd]; rfl) (hK _ _ _ (same (fun u e => ?_) (by omega) (by omega) (by omega) (by omega)))
    cases e
    rw [ev, hst.eq 4 (by omega) (by omega)]; exact f4
  · obtain ⟨o, ho, hgd, hd, hop, d1⟩ := h9.o6
    have l1 := dep_ready hi ho d1
    have e1 : act.eval (.tmp 71) = .slice aq b cq := ((ev 71).trans (hst.pvs 5 _ (by omega) rfl l1)).trans hq
    exact opsC_len hS ho (wanted_none hgd _) hop (by kernel_rfl) e1 (by rw [hd]; rfl) (hK _ _ _ (same (fun u e => by cases e; rfl) (by omega) (by omega) (by omega) (by omega)))
  · obtain ⟨o, ho, hgd, hd, hop, d1, d2⟩ := h9.o7
    have e1 : act.eval (.tmp 70) = .int .i64 (a : Int) := (ev 70).trans (hst.pvs 4 _ (by omega) rfl (dep_ready hi ho d1))
    have e2 : act.eval (.tmp 72) = .int .i64 (b : Int) := (ev 72).trans (hst.pvs 6 _ (by omega) rfl (dep_ready hi ho d2))
    have hw : IntKind.i64.wrap ((a : Int) + b) = (a : Int) + b := by rw [IntKind.wrap_i64]; omega
    exact opsC_bin hS ho (wanted_none hgd _) hop e1 e2 (v := .int .i64 ((a : Int) + b)) (by simp only [int2, hw]) (by rw [hd]; rfl) (hK _ _ _ (same (fun u e => by cases e; rfl) (by omega) (by omega) (by omega) (by omega)))
  · obtain ⟨o, ho, hgd, hd, hop⟩ := h9.o8
    refine opsC_move hS ho (wanted_none hgd _) (.inl hop) (by rw [hd]; rfl) (hK _ _ _ (same (fun u e => ?_) (by omega) (by omega) (by omega) (by omega)))
    cases e
    rw [ev, hst.eq 3 (by omega) (by omega)]; exact f3
  · obtain ⟨o, ho, hgd, hd, hop, d1⟩ := h9.o9
    have l1 := dep_ready hi ho d1
    have e1 : act.eval (.tmp 74) = .slice ap a cp := ((ev 74).trans (hst.pvs 8 _ (by omega) rfl l1)).trans hp
    exact opsC_len hS ho (wanted_none hgd _) hop (by kernel_rfl) e1 (by rw [hd]; rfl) (hK _ _ _ (same (fun u e => by cases e; rfl) (by omega) (by omega) (by omega) (by omega)))
  · obtain ⟨o, ho, hgd, hd, ⟨ats, hop⟩, d1, d2⟩ := h9.o10
    have e1 : act.eval (.tmp 73) = .int .i64 ((a : Int) + b) := (ev 73).trans (hst.pvs 7 _ (by omega) rfl (dep_ready hi ho d1))
    have e2 : act.eval (.tmp 75) = .int .i64 (a : Int) := (ev 75).trans (hst.pvs 9 _ (by omega) rfl (dep_ready hi ho d2))
    refine opsC_M (M1 := M00) ?_
    refine opsC_callF hS ho (wanted_none hgd _) hop Try.func23 (by kernel_rfl) rfl (vs := #[.int .i64 ((a : Int) + b), .int .i64 (a : Int)]) (by simp only [List.map_toArray, List.map_cons, List.map_nil, e1, e2]) (binT _ _ w) ?_
    rintro v w' M' ⟨rfl, own, ho1⟩
    rw [hBi] at own
    rw [hd]
    exact hK _ _ _ (hst.next hL hi8 (hon.trans ho1) (.inl ho1) (fun u e => by cases e) (by omega) (fun _ => own.mono hon.size) (by omega) (by omega) (by omega))
  · obtain ⟨o, ho, hgd, hd, hop, d1, d2⟩ := h9.o11
    have s2 := hst.r2 (dep_ready hi ho d1) hiF
    have s10 := hst.r10 (dep_ready hi ho d2) hiF
    obtain ⟨i0, hii, hz0, hz1, hz2⟩ := info_parts infoI
    obtain ⟨g10, c10, e10⟩ : ∃ g c, act.tmps.getD 76 undef = .slice (some ⟨g, 0, none⟩) Bi.length c := by
      rcases s10.2 with ⟨_, h2⟩ | ⟨g, cap, cur, hv, r⟩
      · omega
      · exact ⟨g, cap, hv⟩
    have hlen : (List.replicate f (0 : Int)).length = f := List.length_replicate
    have s2' : w.ownsRow w0.heap.size 3 1 (act.tmps.getD 68 undef) f ((List.replicate f (0 : Int)).map (Value.int .i64)) := by
      have := s2
      unfold Own at this
      rw [hlen] at this
      exact this
    have hcells : ∀ (j : Nat) (u : Value), (Bi.map (Value.int .i64))[j]? = some u → w.cell? ((⟨g10, 0, none⟩ : Addr).add j) = some u := fun j u hj => World.ownsRow.cells (g := g10) s10 (by rw [e10]; rfl) j u hj
    refine opsC_M (M1 := Mall) ?_
    refine opsC_append hS ho (wanted_none hgd _) _ _ 23 hop w0.heap.size 3 i0 (.int .i64 0) Try.underlying23 hii hz0 hz1 (by rw [hz2]; decide) rfl (act.tmps.getD 68 undef) f _ (ev 68) s2' (fun _ _ => trivial) ⟨g10, 0, none⟩ Bi.length c10 (Bi.map (Value.int .i64)) ((ev 76).trans e10) (.inl trivial) (by simp) hcells (fun u hu => by simp only [List.mem_map] at hu; obtain ⟨x, _, rfl⟩ := hu; rfl) (by omega) hon.size ?_
    intro w₁ v' w' hr hown hblk hgr _
    have hre := rl_all hr
    have hb := s2.blocks
    have ho1 : Only w0 w' := by
      have h1 := hon.trans (Only.re hre)
      exact ⟨hgr.os.trans h1.os, hgr.output.trans h1.output, Nat.le_trans h1.size hgr.size, fun k hk => (hgr.block k (Nat.lt_of_lt_of_le hk h1.size) (fun e => by have := (hb k e.symm).1; omega)).trans (h1.keep k hk)⟩
    have hown' : Own w' w0.heap.size v' (List.replicate f 0 ++ Bi) := by
      unfold Own
      rw [List.length_append, List.map_append, hlen]
      exact hown
    rw [hd]
    exact hK _ _ _ (hst.next hL hi8 ho1 (.inr rfl) (fun u e => by cases e) (by omega) (by omega) (fun _ => hown') (by omega) (fun _ => hiF))
  · obtain ⟨o, ho, hgd, hd, ⟨ats, hop⟩, d1, d2⟩ := h9.o12
    have e1 : act.eval (.tmp 66) = .slice ag (f + Bi.length) cg := ((ev 66).trans (hst.pvs 0 _ (by omega) rfl (dep_ready hi ho d1))).trans hg
    have s11 := hst.r11 (dep_ready hi ho d2)
    obtain ⟨a7, c7, e7, sl7⟩ := s11.sl
    have hsg := hs.only hon
    refine opsC_M (M1 := M00) ?_
    refine opsC_callF hS ho (wanted_none hgd _) hop Try.func20 (by kernel_rfl) rfl (vs := #[.slice ag (f + Bi.length) cg, .slice a7 (List.replicate f (0 : Int) ++ Bi).length c7]) (by simp only [List.map_toArray, List.map_cons, List.map_nil, e1, ev 77, e7])
      (saysC (v := .bool true) (by kernel_rfl) fun w₁ o => says_tob (equalInts_any _ _ _ _ _ _ _ _ w₁ (hsg.only o) (sl7.only o)) (decide_eq_true rfl)) ?_
    rintro v w' M' ⟨rfl, rfl, ho1⟩
    rw [hd]
    exact hK _ _ _ (same' ho1 (fun u e => by cases e; rfl) (by omega) (by omega) (by omega) (by omega))
  · obtain ⟨o, ho, hgd, hd, hop, d1⟩ := h9.o13
    have e1 : act.eval (.tmp 78) = .bool true := (ev 78).trans (hst.pvs 12 _ (by omega) rfl (dep_ready hi ho d1))
    refine opsC_move hS ho (wanted_none hgd _) (.inr hop) (by rw [hd, e1]; rfl) (hK _ _ _ (hst.next hL hi8 hon (.inl (Only.refl w)) (fun u e => by cases e) (by omega) (by omega) (by omega) (fun _ => rfl) (by omega)))

theorem done11 {ops : Array Oper} (h9 : R11 ops) {L : Array Bool} (hL : L.size = 14) (hr : Region.ready .any ops L = []) : ∀ j, j < 14 → L.getD j false = true := by
  intro j
  induction j using Nat.strongRecOn with
  | ind j ih =>
    intro hj
    cases e : L.getD j false with
    | true => rfl
    | false =>
      exfalso
      have hlt : j < ops.size := by rw [h9.n]; exact hj
      have hm : j ∈ Region.ready .any ops L := by
        refine mem_ready.2 ⟨?_, ops[j], Array.getElem?_eq_getElem hlt, fun d hd _ => ?_⟩
        · have hl : j < L.size := by omega
          simp only [Array.getD_eq_getD_getElem?] at e ⊢
          simpa [hl] using e
        · have h := h9.top
          rw [List.all_eq_true] at h
          have h1 := h j (List.mem_range.2 hj)
          rw [Array.getElem?_eq_getElem hlt] at h1
          simp only [Array.all_eq_true', decide_eq_true_eq] at h1
          have hd2 := h1 d hd
          exact ih d.on hd2 (by omega)
      rw [hr] at hm
      cases hm

theorem reg11 {Stop : Goroutine → World → Prop} {ops : Array Oper} (h9 : R11 ops) {ag : Option Addr} {cg : Nat} {ap : Option Addr} {cp : Nat} {aq : Option Addr} {cq : Nat}
    (hg : vg = .slice ag (f + Bi.length) cg) (hp : vp = .slice ap a cp) (hq : vq = .slice aq b cq) (hs : Sl w0 ag (f + Bi.length) cg (List.replicate f 0 ++ Bi))
    (hf : f ≤ 1000) (hab : a + b ≤ 5) (hB1 : 0 < Bi.length) (hB2 : Bi.length ≤ 1000) (hBi : binL ((a : Int) + b) a = Bi) (hsz : a0.tmps.size = 79) (hdf : a0.defers = [])
    (f3 : a0.tmps.getD 3 undef = vp) (f4 : a0.tmps.getD 4 undef = vq) (f6 : a0.tmps.getD 6 undef = vg) (f10 : a0.tmps.getD 10 undef = .int .i64 f) {fn : FuncId} {id : Nat} {Q : Exit → Act → World → Gh Unit → Prop} {M : Gh Unit}
    (hQ : ∀ act w M', act.defers = [] → act.tmps.getD 2 undef = .bool true → Only w0 w → Q .normal act w M') : WpC (TF Try.prog Stop) fn (.region id ops true) Q a0 w0 M := by
  have hS : Fam Try.prog true (fun _ => True) (TF Try.prog Stop) := fam_T
  refine wpC_region_draw hS mixed_follows fun w₁ h₁ t => ?_
  have hre := rl_all h₁
  have ho := Only.re hre
  have ff : ∀ j, (Array.replicate ops.size false).getD j false = true → False := fun j h => by rw [rep_getD] at h; cases h
  refine opsC_lin hS (fun L act w _ => St11 vg vp vq f a b Bi a0 w₁ L act w) (fun L act w M' i h1 h2 h3 rest Q' hk => step11 h9 hg hp hq (hs.only ho) hf hab hB1 hB2 hBi f3 f4 f6 f10 L act w M' i h1 h2 h3 rest Q' hk) ?_ ops.size t _ _ _ _ (by simp) (by rw [Array.count_replicate]; simp) ?_
  · intro L act w M' hL hst hr
    have all := done11 h9 (hL.trans h9.n) hr
    exact hQ act w M' hst.df (hst.r13 (all 13 (by omega))) (ho.trans hst.only)
  · exact ⟨hsz, hdf, fun _ _ _ => rfl, fun j v _ _ h => (ff _ h).elim, Only.refl _, fun h => (ff _ h).elim, fun h => (ff _ h).elim, fun h => (ff _ h).elim, fun h => (ff _ h).elim⟩

end

end Go.Proofs.Ytjphaphnmclbcaa
