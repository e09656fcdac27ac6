/- The region of sendWords that makes the next beginning and calls sendWords again, whatever order the tape picks. No condition. -/
import Derived.Test.YtjphaphnmclbcaaBnf
import Derived.Test.YtjphaphnmclbcaaBng
import Derived.Test.YtjphaphnmclbcaaBnd
import Derived.Test.YtjphaphnmclbcaaMwo
namespace Go.Proofs.Ytjphaphnmclbcaa
open Go Go.Conc Go.RowKit

theorem mixed_follows : Try.prog.follows .mixedOrders = true := by kernel_rfl

def cellsOf (c : List Nat) : Array Value := (c.map fun (x : Nat) => Value.int .i64 (x : Int)).toArray

/-- What passes: a word, in one block that the call has made. -/
def PhiW (B : Nat) (x : List Int) (v : Value) (V : Nat → Prop) (w : World) : Prop := Own w B v x ∧ V = fun k => v.ownBlock = some k
theorem phiW_keeps (B : Nat) : Keeps (PhiW B) := by
  intro x v V w w₁ hk h
  obtain ⟨h1, rfl⟩ := h
  exact ⟨own_chg h1 fun k hk' _ => hk k hk', rfl⟩

/-- What is one's own stays so, and as it is. -/
structure Up (Sh : Nat → Prop) {ι : Type} (w : World) (M : Gh ι) (w' : World) (M' : Gh ι) : Prop where
  up : ∀ k, M.2 k → M'.2 k
  rl : Rl Sh M.2 w w'
theorem Up.refl (Sh : Nat → Prop) {ι : Type} (w : World) (M : Gh ι) : Up Sh w M w M := ⟨fun _ h => h, Rl.refl _ _ _⟩
theorem Up.trans {Sh : Nat → Prop} {ι : Type} {a b c : World} {M N L : Gh ι} (h : Up Sh a M b N) (k : Up Sh b N c L) : Up Sh a M c L := ⟨fun x hx => k.up x (h.up x hx), h.rl.trans (k.rl.mono h.up)⟩
theorem Fwd.to_up {Sh : Nat → Prop} {ι : Type} {w w' : World} {M M' : Gh ι} (h : Fwd Sh w M w' M') : Up Sh w M w' M' := ⟨h.up, h.rl⟩

/-- A list of one's own, in one block. -/
structure OwC {ι : Type} (B : Nat) (w : World) (M : Gh ι) (u : Value) (ys : List Int) : Prop where
  own : Own w B u ys
  mine : ∀ k, u.ownBlock = some k → M.2 k
  some_ : u ≠ .slice none 0 0
theorem OwC.up {Sh : Nat → Prop} {ι : Type} {B : Nat} {w w' : World} {M M' : Gh ι} {u : Value} {ys : List Int} (h : OwC B w M u ys) (k : Up Sh w M w' M') : OwC B w' M' u ys :=
  ⟨own_chg h.own fun j hj _ => k.rl.keep j (.inr (h.mine j hj)), fun j hj => k.up j (h.mine j hj), h.some_⟩
theorem OwC.sl {ι : Type} {Sh : Nat → Prop} {B : Nat} {w : World} {M : Gh ι} {u : Value} {ys : List Int} (h : OwC B w M u ys) : ∃ g c, u = .slice (some ⟨g, 0, none⟩) ys.length c ∧ SlC Sh w M ⟨g, 0, none⟩ ys.length ys := by
  rcases h.own.2 with ⟨h1, h2⟩ | ⟨g, cap, cur, hv, r⟩
  · exact absurd h1 h.some_
  · refine ⟨g, cap, hv, rfl, .inr (h.mine g (by rw [hv]; rfl)), fun j u hj => ?_⟩
    have := World.ownsRow.cells (g := g) h.own (by rw [hv]; rfl)
    exact this j u hj

/-- Behind a call of sendWords: the words are sent; the beginning may have gone with them, nothing else. -/
structure SentC (Sh : Nat → Prop) {α : Type} (u : Value) (xs : List α) (w : World) (M : Nat → Prop) (w' : World) (M' : Gh (List α)) : Prop where
  ix : M'.1 = xs
  up : ∀ k, M k → u.ownBlock ≠ some k → M'.2 k
  rl : Rl Sh (fun k => M k ∧ u.ownBlock ≠ some k) w w'
  there : There Sh w' M'

/-- sendWords sends the words, where t letters are left. -/
def SendOK (c B : Nat) (Sh : Nat → Prop) (t : Nat) : Prop := ∀ (b : List Int) (L : List Nat) (u : Value) (w : World) (M : Nat → Prop) (xs : List (List Int)), L.length = 4 → L.sum = t → b.length + t ≤ 100 → (∀ k, Sh k → k < B) → B ≤ w.heap.size →
  There Sh w ((wgo t b L ++ xs, M) : Gh (List (List Int))) → OwC B w ((wgo t b L ++ xs, M) : Gh (List (List Int))) u b →
  CallsC Try.prog (SndF Try.prog c Sh (PhiW B)) 105 #[.chan (some c), u, .agg (cellsOf L)] w (wgo t b L ++ xs, M) (fun _ w' M' => SentC Sh u xs w M w' M')

/-- o waits for operation j. -/
def dep (j : Nat) (o : Oper) : Prop := ∃ e ∈ o.after, e.on = j ∧ Region.binds .any e = true
theorem dep_ready {ops : Array Oper} {L : Array Bool} {i j : Nat} {o : Oper} (hi : i ∈ Region.ready .any ops L) (ho : ops[i]? = some o) (hd : dep j o) : L.getD j false = true := by
  obtain ⟨_, o', ho', h⟩ := mem_ready.1 hi
  rw [ho] at ho'
  cases ho'
  obtain ⟨e, he, rfl, hb⟩ := hd
  exact h e he hb

/-- The eight operations. -/
structure R9 (ops : Array Oper) : Prop where
  n : ops.size = 8
  o0 : ∃ o, ops[0]? = some o ∧ o.guard = none ∧ o.dst = some 27 ∧ o.op = .move (.tmp 0)
  o1 : ∃ o, ops[1]? = some o ∧ o.guard = none ∧ o.dst = some 28 ∧ o.op = .move (.tmp 1)
  o2 : ∃ o, ops[2]? = some o ∧ o.guard = none ∧ o.dst = some 29 ∧ o.op = .move (.tmp 6)
  o3 : ∃ o, ops[3]? = some o ∧ o.guard = none ∧ o.dst = some 30 ∧ o.op = .buildSlice 23 1 #[(0, .tmp 29)] ∧ dep 2 o
  o4 : ∃ o, ops[4]? = some o ∧ o.guard = none ∧ o.dst = some 31 ∧ o.op = .buildSlice 38 2 #[(0, .tmp 28), (1, .tmp 30)] ∧ dep 1 o ∧ dep 3 o
  o5 : ∃ o, ops[5]? = some o ∧ o.guard = none ∧ o.dst = some 32 ∧ o.op = .call { callee := .value (.func 111), args := #[.tmp 31], argTypes := #[38] } ∧ dep 4 o
  o6 : ∃ o, ops[6]? = some o ∧ o.guard = none ∧ o.dst = some 33 ∧ o.op = .load 63 (.tmp 8)
  o7 : ∃ o, ops[7]? = some o ∧ o.guard = none ∧ (∃ ats, o.op = .call { callee := .value (.func 105), args := #[.tmp 27, .tmp 32, .tmp 33], argTypes := ats }) ∧ dep 0 o ∧ dep 5 o ∧ dep 6 o ∧ (o.dst = none ∨ o.dst = some 34)

theorem getD_set {L : Array Bool} {i j : Nat} (h : i < L.size) : (L.setIfInBounds i true).getD j false = if i = j then true else L.getD j false := by
  simp only [Array.getD_eq_getD_getElem?, Array.getElem?_setIfInBounds]
  split
  · rename_i e; subst e; simp
  · rfl
theorem put_getD {a : Act} {d j : Nat} {v : Value} (h : d < a.tmps.size) : (a.put (some d) v).tmps.getD j undef = if d = j then v else a.tmps.getD j undef := by
  unfold Act.put
  simp only [Array.getD_eq_getD_getElem?, Array.getElem?_setIfInBounds]
  split
  · rename_i e; subst e; simp
  · rfl
theorem put_size (a : Act) (d : Option Tmp) (v : Value) : (a.put d v).tmps.size = a.tmps.size := by unfold Act.put; cases d <;> simp
theorem put_defers (a : Act) (d : Option Tmp) (v : Value) : (a.put d v).defers = a.defers := by unfold Act.put; cases d <;> rfl

section
variable (Sh : Nat → Prop) (c B : Nat) (u : Value) (b : List Int) (x : Int) (gr : Nat) (L' : List Nat) (a0 : Act) (w0 : World) (M0 : Nat → Prop) (ws xs : List (List Int))

/-- Ahead of the call of sendWords. -/
structure Pre9 (L : Array Bool) (a : Act) (w : World) (M : Gh (List (List Int))) : Prop where
  ix : M.1 = ws ++ xs
  up : Up Sh w0 ((ws ++ xs, M0) : Gh (List (List Int))) w M
  there : There Sh w M
  r3 : L.getD 3 false = true → ∃ g c', a.tmps.getD 30 undef = .slice (some ⟨g, 0, none⟩) 1 c' ∧ SlC Sh w M ⟨g, 0, none⟩ 1 [x]
  r4 : L.getD 4 false = true → ∃ g A1 A2 n1 c1 c2, a.tmps.getD 31 undef = .slice (some ⟨g, 0, none⟩) 2 2 ∧ M.2 g ∧ w.cell? ⟨g, 0, none⟩ = some (.slice (some A1) n1 c1) ∧ w.cell? ⟨g, 1, none⟩ = some (.slice (some A2) 1 c2) ∧ SlC Sh w M A1 n1 b ∧ SlC Sh w M A2 1 [x]
  r5 : L.getD 5 false = true → OwC w0.heap.size w M (a.tmps.getD 32 undef) (b ++ [x])

structure St9 (L : Array Bool) (a : Act) (w : World) (M : Gh (List (List Int))) : Prop where
  sz : a.tmps.size = 36
  df : a.defers = []
  eq : ∀ s, s < 27 → a.tmps.getD s undef = a0.tmps.getD s undef
  r0 : L.getD 0 false = true → a.tmps.getD 27 undef = .chan (some c)
  r1 : L.getD 1 false = true → a.tmps.getD 28 undef = u
  r2 : L.getD 2 false = true → a.tmps.getD 29 undef = .int .i64 x
  r6 : L.getD 6 false = true → a.tmps.getD 33 undef = .agg (cellsOf L')
  cl : (L.getD 5 false = true → L.getD 4 false = true) ∧ (L.getD 4 false = true → L.getD 1 false = true ∧ L.getD 3 false = true) ∧ (L.getD 3 false = true → L.getD 2 false = true)
  pre : L.getD 7 false = false → Pre9 Sh b x w0 M0 ws xs L a w M
  post : L.getD 7 false = true → (∀ j, j < 8 → L.getD j false = true) ∧ M.1 = xs ∧ (∀ k, M0 k → M.2 k) ∧ Rl Sh M0 w0 w ∧ There Sh w M

variable {Sh c B u b x L' a0 w0 M0 ws xs}
variable {L : Array Bool} {a : Act} {w : World} {M : Gh (List (List Int))}

theorem SlC.up {ι : Type} {w w' : World} {M M' : Gh ι} {ad : Addr} {n : Nat} {ys : List Int} (h : SlC Sh w M ad n ys) (hf : Up Sh w M w' M') : SlC Sh w' M' ad n ys :=
  ⟨h.len, h.at_.imp id (hf.up _), fun j u hj => (cell_eq (by rw [addBlock]; exact hf.rl.keep _ h.at_)).trans (h.cell j u hj)⟩

theorem Pre9.next (h : Pre9 Sh b x w0 M0 ws xs L a w M) (hL : L.size = 8) (hsz : a.tmps.size = 36) {i : Nat} (hi : i < 7) {v : Value} {w' : World} {M' : Gh (List (List Int))} (hu : Up Sh w M w' M') (hx : M'.1 = M.1) (ht : There Sh w' M')
    (h3 : i = 3 → ∃ g c', v = .slice (some ⟨g, 0, none⟩) 1 c' ∧ SlC Sh w' M' ⟨g, 0, none⟩ 1 [x])
    (h4 : i = 4 → ∃ g A1 A2 n1 c1 c2, v = .slice (some ⟨g, 0, none⟩) 2 2 ∧ M'.2 g ∧ w'.cell? ⟨g, 0, none⟩ = some (.slice (some A1) n1 c1) ∧ w'.cell? ⟨g, 1, none⟩ = some (.slice (some A2) 1 c2) ∧ SlC Sh w' M' A1 n1 b ∧ SlC Sh w' M' A2 1 [x])
    (h5 : i = 5 → OwC w0.heap.size w' M' v (b ++ [x])) : Pre9 Sh b x w0 M0 ws xs (L.setIfInBounds i true) (a.put (some (27 + i)) v) w' M' := by
  refine ⟨hx.trans h.ix, h.up.trans hu, ht, fun hl => ?_, fun hl => ?_, fun hl => ?_⟩ <;> rw [getD_set (by omega)] at hl <;> rw [put_getD (by omega)]
  · by_cases e : i = 3
    · rw [if_pos (by omega)]; exact h3 e
    · rw [if_neg e] at hl
      rw [if_neg (by omega)]
      obtain ⟨g, c', e1, e2⟩ := h.r3 hl
      exact ⟨g, c', e1, e2.up hu⟩
  · by_cases e : i = 4
    · rw [if_pos (by omega)]; exact h4 e
    · rw [if_neg e] at hl
      rw [if_neg (by omega)]
      obtain ⟨g, A1, A2, n1, c1, c2, e1, e2, e3, e4, e5, e6⟩ := h.r4 hl
      exact ⟨g, A1, A2, n1, c1, c2, e1, hu.up _ e2, (cell_eq (hu.rl.keep g (.inr e2))).trans e3, (cell_eq (hu.rl.keep g (.inr e2))).trans e4, e5.up hu, e6.up hu⟩
  · by_cases e : i = 5
    · rw [if_pos (by omega)]; exact h5 e
    · rw [if_neg e] at hl
      rw [if_neg (by omega)]
      exact (h.r5 hl).up hu

theorem St9.next (h : St9 Sh c u b x L' a0 w0 M0 ws xs L a w M) (hL : L.size = 8) (h7 : L.getD 7 false = false) {i : Nat} (hi : i < 7) {v : Value} {w' : World} {M' : Gh (List (List Int))} (hu : Up Sh w M w' M') (hx : M'.1 = M.1) (ht : There Sh w' M')
    (h0 : i = 0 → v = .chan (some c)) (h1 : i = 1 → v = u) (h2 : i = 2 → v = .int .i64 x) (h6 : i = 6 → v = .agg (cellsOf L'))
    (c3 : i = 3 → L.getD 2 false = true) (c4 : i = 4 → L.getD 1 false = true ∧ L.getD 3 false = true) (c5 : i = 5 → L.getD 4 false = true)
    (h3 : i = 3 → ∃ g c', v = .slice (some ⟨g, 0, none⟩) 1 c' ∧ SlC Sh w' M' ⟨g, 0, none⟩ 1 [x])
    (h4 : i = 4 → ∃ g A1 A2 n1 c1 c2, v = .slice (some ⟨g, 0, none⟩) 2 2 ∧ M'.2 g ∧ w'.cell? ⟨g, 0, none⟩ = some (.slice (some A1) n1 c1) ∧ w'.cell? ⟨g, 1, none⟩ = some (.slice (some A2) 1 c2) ∧ SlC Sh w' M' A1 n1 b ∧ SlC Sh w' M' A2 1 [x])
    (h5 : i = 5 → OwC w0.heap.size w' M' v (b ++ [x])) : St9 Sh c u b x L' a0 w0 M0 ws xs (L.setIfInBounds i true) (a.put (some (27 + i)) v) w' M' := by
  have hsz := h.sz
  have old : ∀ j, j < 8 → i ≠ j → (L.setIfInBounds i true).getD j false = true → L.getD j false = true := fun j _ hj hl => by rwa [getD_set (by omega), if_neg hj] at hl
  have up' : ∀ j, L.getD j false = true → (L.setIfInBounds i true).getD j false = true := fun j hl => by
    rw [getD_set (by omega)]; split
    · rfl
    · exact hl
  refine ⟨by rw [put_size]; exact hsz, by rw [put_defers]; exact h.df, fun s hs => ?_, fun hl => ?_, fun hl => ?_, fun hl => ?_, fun hl => ?_, ⟨fun hl => ?_, fun hl => ?_, fun hl => ?_⟩, fun _ => (h.pre h7).next hL hsz hi hu hx ht h3 h4 h5, fun hl => ?_⟩
  · rw [put_getD (by omega), if_neg (by omega)]; exact h.eq s hs
  · rw [put_getD (by omega)]
    by_cases e : i = 0
    · rw [if_pos (by omega)]; exact h0 e
    · rw [if_neg (by omega)]; exact h.r0 (old 0 (by omega) e hl)
  · rw [put_getD (by omega)]
    by_cases e : i = 1
    · rw [if_pos (by omega)]; exact h1 e
    · rw [if_neg (by omega)]; exact h.r1 (old 1 (by omega) e hl)
  · rw [put_getD (by omega)]
    by_cases e : i = 2
    · rw [if_pos (by omega)]; exact h2 e
    · rw [if_neg (by omega)]; exact h.r2 (old 2 (by omega) e hl)
  · rw [put_getD (by omega)]
    by_cases e : i = 6
    · rw [if_pos (by omega)]; exact h6 e
    · rw [if_neg (by omega)]; exact h.r6 (old 6 (by omega) e hl)
  · by_cases e : i = 5
    · exact up' 4 (c5 e)
    · exact up' 4 (h.cl.1 (old 5 (by omega) e hl))
  · by_cases e : i = 4
    · exact ⟨up' 1 (c4 e).1, up' 3 (c4 e).2⟩
    · have := h.cl.2.1 (old 4 (by omega) e hl)
      exact ⟨up' 1 this.1, up' 3 this.2⟩
  · by_cases e : i = 3
    · exact up' 2 (c3 e)
    · exact up' 2 (h.cl.2.2 (old 3 (by omega) e hl))
  · exact absurd (old 7 (by omega) (by omega) hl) (by rw [h7]; simp)

theorem info4 : (Try.prog.info? 63).map (·.size) = some 4 := by kernel_rfl
theorem wanted_none {o : Oper} (h : o.guard = none) (y : Nat → Option Bool) : Region.wanted o y = true := by simp [Region.wanted, h]
theorem Up.drew {ι : Type} {w w₁ : World} {M : Gh ι} (h : Rl Sh M.2 w w₁) : Up Sh w M w₁ M := ⟨fun _ h => h, h⟩

theorem step9 (hB : B ≤ w0.heap.size) (hth : There Sh w0 ((ws ++ xs, M0) : Gh (List (List Int)))) {ops : Array Oper} (h9 : R9 ops) (hb : b.length ≤ 99) (hLL : L'.length = 4)
    (hIH : ∀ (w : World) (M : Nat → Prop) (u' : Value), B ≤ w.heap.size → There Sh w ((ws ++ xs, M) : Gh (List (List Int))) → OwC B w ((ws ++ xs, M) : Gh (List (List Int))) u' (b ++ [x]) →
      CallsC Try.prog (SndF Try.prog c Sh (PhiW B)) 105 #[.chan (some c), u', .agg (cellsOf L')] w (ws ++ xs, M) (fun _ w' M' => SentC Sh u' xs w M w' M'))
    (f0 : a0.tmps.getD 0 undef = .chan (some c)) (f1 : a0.tmps.getD 1 undef = u) (f6 : a0.tmps.getD 6 undef = .int .i64 x) (f8 : a0.tmps.getD 8 undef = .pointer (some ⟨gr, 0, none⟩))
    (hu : OwC B w0 ((ws ++ xs, M0) : Gh (List (List Int))) u b) (hgr : M0 gr) (hgc : w0.heap[gr]? = some (.cells (cellsOf L') 63 (0, 0))) {fn : FuncId} :
    ∀ L a w M i, L.size = ops.size → St9 Sh c u b x L' a0 w0 M0 ws xs L a w M → i ∈ Region.ready .any ops L → ∀ rest Q, (∀ a' w' M', St9 Sh c u b x L' a0 w0 M0 ws xs (L.setIfInBounds i true) a' w' M' → OpsC (SndF Try.prog c Sh (PhiW B)) fn ops rest Q a' w' M') →
      OpsC (SndF Try.prog c Sh (PhiW B)) fn ops (i :: rest) Q a w M := by
  intro L a w M i hLs hst hi rest Q hK
  have hS : Fam Try.prog false Sh (SndF Try.prog c Sh (PhiW B)) := fam_snd (phiW_keeps B)
  have hL : L.size = 8 := hLs.trans h9.n
  have hi8 : i < 8 := by
    obtain ⟨_, o, ho, _⟩ := mem_ready.1 hi
    have := (Array.getElem?_eq_some_iff.1 ho).1
    have := h9.n
    omega
  have hiF : L.getD i false = false := by
    have := (mem_ready.1 hi).1
    simp only [Array.getD_eq_getD_getElem?] at this ⊢
    have hlt : i < L.size := by omega
    simpa [hlt] using this
  have h7 : L.getD 7 false = false := by
    cases e : L.getD 7 false with
    | false => rfl
    | true => have := (hst.post e).1 i hi8; rw [hiF] at this; exact this.symm
  have hpre := hst.pre h7
  have ev : ∀ s, a.eval (.tmp s) = a.tmps.getD s undef := fun _ => rfl
  have hsz := hst.sz
  have same : ∀ {v : Value}, (i = 0 → v = .chan (some c)) → (i = 1 → v = u) → (i = 2 → v = .int .i64 x) → (i = 6 → v = .agg (cellsOf L')) → i ≠ 3 → i ≠ 4 → i ≠ 5 → i < 7 → St9 Sh c u b x L' a0 w0 M0 ws xs (L.setIfInBounds i true) (a.put (some (27 + i)) v) w M :=
    fun h0 h1 h2 h6 n3 n4 n5 hlt => hst.next hL h7 hlt (Up.refl Sh w M) rfl hpre.there h0 h1 h2 h6 (fun e => absurd e n3) (fun e => absurd e n4) (fun e => absurd e n5) (fun e => absurd e n3) (fun e => absurd e n4) (fun e => absurd e n5)
  rcases (show i = 0 ∨ i = 1 ∨ i = 2 ∨ i = 3 ∨ i = 4 ∨ i = 5 ∨ i = 6 ∨ i = 7 by omega) with rfl | rfl | rfl | rfl | rfl | rfl | rfl | rfl
  · obtain ⟨o, ho, hg, hd, hop⟩ := h9.o0
    refine opsC_move hS ho (wanted_none hg _) (.inl hop) (by rw [hd]) (hK _ _ _ (same (fun _ => ?_) (by omega) (by omega) (by omega) (by omega) (by omega) (by omega) (by omega)))
    rw [ev, hst.eq 0 (by omega)]; exact f0
  · obtain ⟨o, ho, hg, hd, hop⟩ := h9.o1
    refine opsC_move hS ho (wanted_none hg _) (.inl hop) (by rw [hd]) (hK _ _ _ (same (by omega) (fun _ => ?_) (by omega) (by omega) (by omega) (by omega) (by omega) (by omega)))
    rw [ev, hst.eq 1 (by omega)]; exact f1
  · obtain ⟨o, ho, hg, hd, hop⟩ := h9.o2
    refine opsC_move hS ho (wanted_none hg _) (.inl hop) (by rw [hd]) (hK _ _ _ (same (by omega) (by omega) (fun _ => ?_) (by omega) (by omega) (by omega) (by omega) (by omega)))
    rw [ev, hst.eq 6 (by omega)]; exact f6
  · obtain ⟨o, ho, hg, hd, hop, d2⟩ := h9.o3
    have l2 := dep_ready hi ho d2
    obtain ⟨i0, hii, hz0, hz1, hz2⟩ := info_parts infoI
    refine opsC_buildSlice hS ho (wanted_none hg _) (cells := #[.int .i64 x]) hop Try.underlying23 hii hz0 hz1 (by omega) ?_ fun w₁ h₁ => ?_
    · have e29 : a.eval (.tmp 29) = .int .i64 x := (ev 29).trans (hst.r2 l2)
      simp [e29, Instr.fill, Value.cells]
      apply Array.ext'
      simp [List.range, List.range.loop]
    · rw [hd]
      have hgb := World.grownBy_alloc w₁ (.cells #[.int .i64 x] 3) none
      have hsz1 : w₁.heap.size < (w₁.alloc (.cells #[.int .i64 x] 3)).heap.size := by rw [World.size_alloc]; exact Nat.lt_succ_self _
      refine hK _ _ _ (hst.next hL h7 (by omega) ((Fwd.refl Sh w M).grown h₁ hgb (fun k hk => by cases hk) hpre.there).to_up rfl (hpre.there.grown h₁ (Nat.le_of_lt hsz1)) (by omega) (by omega) (by omega) (by omega) (fun _ => l2) (by omega) (by omega) (fun _ => ⟨w₁.heap.size, 1, rfl, rfl, .inr (.inr ⟨Nat.le_refl _, hsz1⟩), fun j y hj => ?_⟩) (by omega) (by omega))
      match j, hj with
      | 0, hj => simp at hj; subst hj; rw [show (⟨w₁.heap.size, 0, none⟩ : Addr).add 0 = ⟨w₁.heap.size, 0, none⟩ from rfl, World.cell?_alloc_at _ _ _ _ rfl]; rfl
  · obtain ⟨o, ho, hg, hd, hop, d1, d3⟩ := h9.o4
    have l1 := dep_ready hi ho d1
    have l3 := dep_ready hi ho d3
    obtain ⟨g3, c3', e30, sl3⟩ := hpre.r3 l3
    obtain ⟨i0, hii, hz0, hz1, hz2⟩ := info_parts infoL
    obtain ⟨gu, cu, eu, slu⟩ := (hu.up hpre.up).sl (Sh := Sh)
    have e28 : a.eval (.tmp 28) = .slice (some ⟨gu, 0, none⟩) b.length cu := ((ev 28).trans (hst.r1 l1)).trans eu
    have e30' : a.eval (.tmp 30) = .slice (some ⟨g3, 0, none⟩) 1 c3' := (ev 30).trans e30
    refine opsC_buildSlice hS ho (wanted_none hg _) (cells := #[.slice (some ⟨gu, 0, none⟩) b.length cu, .slice (some ⟨g3, 0, none⟩) 1 c3']) hop Try.underlying38 hii hz0 hz1 (by omega) ?_ fun w₁ h₁ => ?_
    · simp [e28, e30', Instr.fill, Value.cells]
      apply Array.ext'
      simp [List.range, List.range.loop]
    · rw [hd]
      have hgb := World.grownBy_alloc w₁ (.cells #[.slice (some ⟨gu, 0, none⟩) b.length cu, .slice (some ⟨g3, 0, none⟩) 1 c3'] 23) none
      have hsz1 : w₁.heap.size < (w₁.alloc (.cells #[.slice (some ⟨gu, 0, none⟩) b.length cu, .slice (some ⟨g3, 0, none⟩) 1 c3'] 23)).heap.size := by rw [World.size_alloc]; exact Nat.lt_succ_self _
      have hup := ((Fwd.refl Sh w M).grown h₁ hgb (fun k hk => by cases hk) hpre.there).to_up
      refine hK _ _ _ (hst.next hL h7 (by omega) hup rfl (hpre.there.grown h₁ (Nat.le_of_lt hsz1)) (by omega) (by omega) (by omega) (by omega) (by omega) (fun _ => ⟨l1, l3⟩) (by omega) (by omega) (fun _ => ⟨w₁.heap.size, ⟨gu, 0, none⟩, ⟨g3, 0, none⟩, b.length, cu, c3', rfl, .inr ⟨Nat.le_refl _, hsz1⟩, ?_, ?_, slu.up hup, sl3.up hup⟩) (by omega))
      · rw [World.cell?_alloc_at _ _ _ _ rfl]; rfl
      · rw [World.cell?_alloc_at _ _ _ _ rfl]; rfl
  · obtain ⟨o, ho, hg, hd, hop, d4⟩ := h9.o5
    have l4 := dep_ready hi ho d4
    obtain ⟨g, A1, A2, n1, c1, c2, e31, mg, k1, k2, s1, s2⟩ := hpre.r4 l4
    have hn1 : n1 = b.length := s1.len.symm
    refine opsC_callF hS ho (wanted_none hg _) hop Try.func111 (by kernel_rfl) rfl (vs := #[.slice (some ⟨g, 0, none⟩) 2 2]) ?_ (concatC hS w M hpre.there g mg A1 A2 n1 1 c1 c2 b [x] k1 k2 s1 s2 (by omega) (by omega) (by omega)) ?_
    · have e31' : a.eval (.tmp 31) = .slice (some ⟨g, 0, none⟩) 2 2 := (ev 31).trans e31
      simp only [List.map_toArray, List.map_cons, List.map_nil, e31']
    · intro v w' M' m
      rw [hd]
      have hs0 := hpre.up.rl.size
      refine hK _ _ _ (hst.next hL h7 (by omega) m.fwd.to_up m.fwd.ix ?_ (by omega) (by omega) (by omega) (by omega) (by omega) (by omega) (fun _ => l4) (by omega) (by omega) (fun _ => ⟨m.own.mono hs0, m.mine, fun e => ?_⟩))
      · exact m.there
      · subst e
        have := m.own.1
        rcases m.own.2 with ⟨_, h2⟩ | ⟨_, _, _, h2, _⟩
        · simp at h2
        · cases h2
  · obtain ⟨o, ho, hg, hd, hop⟩ := h9.o6
    have e8 : a.eval (.tmp 8) = .pointer (some ⟨gr, 0, none⟩) := ((ev 8).trans (hst.eq 8 (by omega))).trans f8
    have hm : M.2 gr := hpre.up.up gr hgr
    have hc' : w.heap[gr]? = some (.cells (cellsOf L') 63 (0, 0)) := (hpre.up.rl.keep gr (.inr hgr)).trans hgc
    refine opsC_loadrow hS ho (wanted_none hg _) (cs := cellsOf L') hop (by kernel_rfl) ?_ e8 (.inr hm) hc' ?_
    · have : (cellsOf L').size = 4 := by simp [cellsOf, hLL]
      rw [this]
      exact info4
    · rw [hd]
      exact hK _ _ _ (same (by omega) (by omega) (by omega) (fun _ => rfl) (by omega) (by omega) (by omega) (by omega))
  · obtain ⟨o, ho, hg, ⟨ats, hop⟩, d0, d5, d6, hd⟩ := h9.o7
    have l0 := dep_ready hi ho d0
    have l5 := dep_ready hi ho d5
    have l6 := dep_ready hi ho d6
    have l4 := hst.cl.1 l5
    obtain ⟨l1, l3⟩ := hst.cl.2.1 l4
    have l2 := hst.cl.2.2 l3
    have o5 := hpre.r5 l5
    have hs0 := hpre.up.rl.size
    obtain ⟨Mi, Mm⟩ := M
    have eix : Mi = ws ++ xs := hpre.ix
    subst eix
    refine opsC_callF hS ho (wanted_none hg _) hop Try.func105 (by kernel_rfl) rfl (vs := #[.chan (some c), a.tmps.getD 32 undef, .agg (cellsOf L')]) ?_ (hIH w Mm (a.tmps.getD 32 undef) (by omega) hpre.there ⟨o5.own.mono (by omega), o5.mine, o5.some_⟩) ?_
    · have e27 : a.eval (.tmp 27) = .chan (some c) := (ev 27).trans (hst.r0 l0)
      have e33 : a.eval (.tmp 33) = .agg (cellsOf L') := (ev 33).trans (hst.r6 l6)
      simp only [List.map_toArray, List.map_cons, List.map_nil, e27, e33, ev 32]
    · intro v w' M' m
      have old : ∀ k, M0 k → (a.tmps.getD 32 undef).ownBlock ≠ some k := fun k hk e => by
        have h1 := (World.ownsRow.lt o5.own k e).1
        have h2 := hth k (.inr hk)
        omega
      have hput : ∀ s, s ≠ 34 → (a.put o.dst v).tmps.getD s undef = a.tmps.getD s undef := fun s hs => by
        rcases hd with hd | hd
        · rw [hd]; rfl
        · rw [hd, put_getD (by omega), if_neg (by omega)]
      have all : ∀ j, j < 8 → (L.setIfInBounds 7 true).getD j false = true := fun j hj => by
        rw [getD_set (by omega)]
        split
        · rfl
        · rcases (show j = 0 ∨ j = 1 ∨ j = 2 ∨ j = 3 ∨ j = 4 ∨ j = 5 ∨ j = 6 by omega) with rfl | rfl | rfl | rfl | rfl | rfl | rfl <;> assumption
      refine hK _ _ _ ⟨by rw [put_size]; exact hsz, by rw [put_defers]; exact hst.df, fun s hs => (hput s (by omega)).trans (hst.eq s hs), fun _ => (hput 27 (by omega)).trans (hst.r0 l0), fun _ => (hput 28 (by omega)).trans (hst.r1 l1), fun _ => (hput 29 (by omega)).trans (hst.r2 l2),
        fun _ => (hput 33 (by omega)).trans (hst.r6 l6), ⟨fun _ => all 4 (by omega), fun _ => ⟨all 1 (by omega), all 3 (by omega)⟩, fun _ => all 2 (by omega)⟩, fun hl => ?_, fun _ => ⟨all, m.ix, fun k hk => m.up k (hpre.up.up k hk) (old k hk), ?_, m.there⟩⟩
      · rw [all 7 (by omega)] at hl; cases hl
      · exact hpre.up.rl.trans (m.rl.mono fun k hk => ⟨hpre.up.up k hk, old k hk⟩)


theorem rep_getD (n j : Nat) : (Array.replicate n false).getD j false = false := by
  simp only [Array.getD_eq_getD_getElem?, Array.getElem?_replicate]
  split <;> rfl

theorem reg9 (hB : B ≤ w0.heap.size) (hth : There Sh w0 ((ws ++ xs, M0) : Gh (List (List Int)))) {ops : Array Oper} (h9 : R9 ops) (hb : b.length ≤ 99) (hLL : L'.length = 4)
    (hfin : ∀ L : Array Bool, L.size = 8 → Region.ready .any ops L = [] → L.getD 7 false = true)
    (hIH : ∀ (w : World) (M : Nat → Prop) (u' : Value), B ≤ w.heap.size → There Sh w ((ws ++ xs, M) : Gh (List (List Int))) → OwC B w ((ws ++ xs, M) : Gh (List (List Int))) u' (b ++ [x]) →
      CallsC Try.prog (SndF Try.prog c Sh (PhiW B)) 105 #[.chan (some c), u', .agg (cellsOf L')] w (ws ++ xs, M) (fun _ w' M' => SentC Sh u' xs w M w' M'))
    (hsz : a0.tmps.size = 36) (hdf : a0.defers = []) (f0 : a0.tmps.getD 0 undef = .chan (some c)) (f1 : a0.tmps.getD 1 undef = u) (f6 : a0.tmps.getD 6 undef = .int .i64 x) (f8 : a0.tmps.getD 8 undef = .pointer (some ⟨gr, 0, none⟩))
    (hu : OwC B w0 ((ws ++ xs, M0) : Gh (List (List Int))) u b) (hgr : M0 gr) (hgc : w0.heap[gr]? = some (.cells (cellsOf L') 63 (0, 0))) {fn : FuncId} {id : Nat} {Q : Exit → Act → World → Gh (List (List Int)) → Prop}
    (hQ : ∀ a w M, a.tmps.size = 36 → a.defers = [] → (∀ s, s < 27 → a.tmps.getD s undef = a0.tmps.getD s undef) → M.1 = xs → (∀ k, M0 k → M.2 k) → Rl Sh M0 w0 w → There Sh w M → Q .normal a w M) :
    WpC (SndF Try.prog c Sh (PhiW B)) fn (.region id ops true) Q a0 w0 (ws ++ xs, M0) := by
  have hS : Fam Try.prog false Sh (SndF Try.prog c Sh (PhiW B)) := fam_snd (phiW_keeps B)
  refine wpC_region_draw hS mixed_follows fun w₁ h₁ t => ?_
  have hup : Up Sh w0 ((ws ++ xs, M0) : Gh (List (List Int))) w₁ ((ws ++ xs, M0) : Gh (List (List Int))) := ⟨fun _ h => h, h₁⟩
  refine opsC_lin hS (St9 Sh c u b x L' a0 w₁ M0 ws xs) (step9 _ (Nat.le_trans hB h₁.size) (hth.rely h₁) h9 hb hLL hIH f0 f1 f6 f8 (hu.up hup) hgr ((h₁.keep gr (.inr hgr)).trans hgc)) ?_ ops.size t _ _ _ _ (by simp) (by rw [Array.count_replicate]; simp) ?_
  · intro L a w M hL hst hr
    obtain ⟨_, h2, h3, h4, h5⟩ := hst.post (hfin L (hL.trans h9.n) hr)
    exact hQ a w M hst.sz hst.df hst.eq h2 h3 (h₁.trans h4) h5
  · have ff : ∀ j, (Array.replicate ops.size false).getD j false = true → False := fun j h => by rw [rep_getD] at h; cases h
    exact ⟨hsz, hdf, fun _ _ => rfl, fun h => (ff _ h).elim, fun h => (ff _ h).elim, fun h => (ff _ h).elim, fun h => (ff _ h).elim, ⟨fun h => (ff _ h).elim, fun h => (ff _ h).elim, fun h => (ff _ h).elim⟩,
      fun _ => ⟨rfl, Up.refl _ _ _, hth.rely h₁, fun h => (ff _ h).elim, fun h => (ff _ h).elim, fun h => (ff _ h).elim⟩, fun h => (ff _ h).elim⟩

end

theorem arr8 {T : Type} {l : Array T} (h : l.size = 8) : ∃ x0 x1 x2 x3 x4 x5 x6 x7, l = #[x0, x1, x2, x3, x4, x5, x6, x7] := by
  obtain ⟨l⟩ := l
  replace h : l.length = 8 := h
  obtain ⟨x0, l, rfl⟩ := List.exists_cons_of_length_eq_add_one (n := 7) h
  replace h : l.length = 7 := by simpa using h
  obtain ⟨x1, l, rfl⟩ := List.exists_cons_of_length_eq_add_one (n := 6) h
  replace h : l.length = 6 := by simpa using h
  obtain ⟨x2, l, rfl⟩ := List.exists_cons_of_length_eq_add_one (n := 5) h
  replace h : l.length = 5 := by simpa using h
  obtain ⟨x3, l, rfl⟩ := List.exists_cons_of_length_eq_add_one (n := 4) h
  replace h : l.length = 4 := by simpa using h
  obtain ⟨x4, l, rfl⟩ := List.exists_cons_of_length_eq_add_one (n := 3) h
  replace h : l.length = 3 := by simpa using h
  obtain ⟨x5, l, rfl⟩ := List.exists_cons_of_length_eq_add_one (n := 2) h
  replace h : l.length = 2 := by simpa using h
  obtain ⟨x6, l, rfl⟩ := List.exists_cons_of_length_eq_add_one (n := 1) h
  replace h : l.length = 1 := by simpa using h
  obtain ⟨x7, l, rfl⟩ := List.exists_cons_of_length_eq_add_one (n := 0) h
  replace h : l.length = 0 := by simpa using h
  obtain rfl := List.eq_nil_of_length_eq_zero h
  exact ⟨_, _, _, _, _, _, _, _, rfl⟩
theorem arr36 {T : Type} {l : Array T} (h : l.size = 36) : ∃ x0 x1 x2 x3 x4 x5 x6 x7 x8 x9 x10 x11 x12 x13 x14 x15 x16 x17 x18 x19 x20 x21 x22 x23 x24 x25 x26 x27 x28 x29 x30 x31 x32 x33 x34 x35, l = #[x0, x1, x2, x3, x4, x5, x6, x7, x8, x9, x10, x11, x12, x13, x14, x15, x16, x17, x18, x19, x20, x21, x22, x23, x24, x25, x26, x27, x28, x29, x30, x31, x32, x33, x34, x35] := by
  obtain ⟨l⟩ := l
  replace h : l.length = 36 := h
  obtain ⟨x0, l, rfl⟩ := List.exists_cons_of_length_eq_add_one (n := 35) h
  replace h : l.length = 35 := by simpa using h
  obtain ⟨x1, l, rfl⟩ := List.exists_cons_of_length_eq_add_one (n := 34) h
  replace h : l.length = 34 := by simpa using h
  obtain ⟨x2, l, rfl⟩ := List.exists_cons_of_length_eq_add_one (n := 33) h
  replace h : l.length = 33 := by simpa using h
  obtain ⟨x3, l, rfl⟩ := List.exists_cons_of_length_eq_add_one (n := 32) h
  replace h : l.length = 32 := by simpa using h
  obtain ⟨x4, l, rfl⟩ := List.exists_cons_of_length_eq_add_one (n := 31) h
  replace h : l.length = 31 := by simpa using h
  obtain ⟨x5, l, rfl⟩ := List.exists_cons_of_length_eq_add_one (n := 30) h
  replace h : l.length = 30 := by simpa using h
  obtain ⟨x6, l, rfl⟩ := List.exists_cons_of_length_eq_add_one (n := 29) h
  replace h : l.length = 29 := by simpa using h
  obtain ⟨x7, l, rfl⟩ := List.exists_cons_of_length_eq_add_one (n := 28) h
  replace h : l.length = 28 := by simpa using h
  obtain ⟨x8, l, rfl⟩ := List.exists_cons_of_length_eq_add_one (n := 27) h
  replace h : l.length = 27 := by simpa using h
  obtain ⟨x9, l, rfl⟩ := List.exists_cons_of_length_eq_add_one (n := 26) h
  replace h : l.length = 26 := by simpa using h
  obtain ⟨x10, l, rfl⟩ := List.exists_cons_of_length_eq_add_one (n := 25) h
  replace h : l.length = 25 := by simpa using h
  obtain ⟨x11, l, rfl⟩ := List.exists_cons_of_length_eq_add_one (n := 24) h
  replace h : l.length = 24 := by simpa using h
  obtain ⟨x12, l, rfl⟩ := List.exists_cons_of_length_eq_add_one (n := 23) h
  replace h : l.length = 23 := by simpa using h
  obtain ⟨x13, l, rfl⟩ := List.exists_cons_of_length_eq_add_one (n := 22) h
  replace h : l.length = 22 := by simpa using h
  obtain ⟨x14, l, rfl⟩ := List.exists_cons_of_length_eq_add_one (n := 21) h
  replace h : l.length = 21 := by simpa using h
  obtain ⟨x15, l, rfl⟩ := List.exists_cons_of_length_eq_add_one (n := 20) h
  replace h : l.length = 20 := by simpa using h
  obtain ⟨x16, l, rfl⟩ := List.exists_cons_of_length_eq_add_one (n := 19) h
  replace h : l.length = 19 := by simpa using h
  obtain ⟨x17, l, rfl⟩ := List.exists_cons_of_length_eq_add_one (n := 18) h
  replace h : l.length = 18 := by simpa using h
  obtain ⟨x18, l, rfl⟩ := List.exists_cons_of_length_eq_add_one (n := 17) h
  replace h : l.length = 17 := by simpa using h
  obtain ⟨x19, l, rfl⟩ := List.exists_cons_of_length_eq_add_one (n := 16) h
  replace h : l.length = 16 := by simpa using h
  obtain ⟨x20, l, rfl⟩ := List.exists_cons_of_length_eq_add_one (n := 15) h
  replace h : l.length = 15 := by simpa using h
  obtain ⟨x21, l, rfl⟩ := List.exists_cons_of_length_eq_add_one (n := 14) h
  replace h : l.length = 14 := by simpa using h
  obtain ⟨x22, l, rfl⟩ := List.exists_cons_of_length_eq_add_one (n := 13) h
  replace h : l.length = 13 := by simpa using h
  obtain ⟨x23, l, rfl⟩ := List.exists_cons_of_length_eq_add_one (n := 12) h
  replace h : l.length = 12 := by simpa using h
  obtain ⟨x24, l, rfl⟩ := List.exists_cons_of_length_eq_add_one (n := 11) h
  replace h : l.length = 11 := by simpa using h
  obtain ⟨x25, l, rfl⟩ := List.exists_cons_of_length_eq_add_one (n := 10) h
  replace h : l.length = 10 := by simpa using h
  obtain ⟨x26, l, rfl⟩ := List.exists_cons_of_length_eq_add_one (n := 9) h
  replace h : l.length = 9 := by simpa using h
  obtain ⟨x27, l, rfl⟩ := List.exists_cons_of_length_eq_add_one (n := 8) h
  replace h : l.length = 8 := by simpa using h
  obtain ⟨x28, l, rfl⟩ := List.exists_cons_of_length_eq_add_one (n := 7) h
  replace h : l.length = 7 := by simpa using h
  obtain ⟨x29, l, rfl⟩ := List.exists_cons_of_length_eq_add_one (n := 6) h
  replace h : l.length = 6 := by simpa using h
  obtain ⟨x30, l, rfl⟩ := List.exists_cons_of_length_eq_add_one (n := 5) h
  replace h : l.length = 5 := by simpa using h
  obtain ⟨x31, l, rfl⟩ := List.exists_cons_of_length_eq_add_one (n := 4) h
  replace h : l.length = 4 := by simpa using h
  obtain ⟨x32, l, rfl⟩ := List.exists_cons_of_length_eq_add_one (n := 3) h
  replace h : l.length = 3 := by simpa using h
  obtain ⟨x33, l, rfl⟩ := List.exists_cons_of_length_eq_add_one (n := 2) h
  replace h : l.length = 2 := by simpa using h
  obtain ⟨x34, l, rfl⟩ := List.exists_cons_of_length_eq_add_one (n := 1) h
  replace h : l.length = 1 := by simpa using h
  obtain ⟨x35, l, rfl⟩ := List.exists_cons_of_length_eq_add_one (n := 0) h
  replace h : l.length = 0 := by simpa using h
  obtain rfl := List.eq_nil_of_length_eq_zero h
  exact ⟨_, _, _, _, _, _, _, _, _, _, _, _, _, _, _, _, _, _, _, _, _, _, _, _, _, _, _, _, _, _, _, _, _, _, _, _, rfl⟩

end Go.Proofs.Ytjphaphnmclbcaa
