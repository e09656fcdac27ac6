/- Maps from texts that a call has made: what they hold, an entry put in, and a look-up. No condition. -/
import Derived.Test.YtaceiebmgnhdgaaGreatDoorBnd
import Derived.MapKept
import Derived.Carry
namespace Go.Proofs.YtaceiebmgnhdgaaGreatDoor
open Go.RowKit

/-- Block b is a map that holds the entries L, in the order in which they came. -/
def MapAt (w : World) (b : Nat) (L : List (ByteArray × Value)) : Prop :=
  ∃ es clk, w.heap[b]? = some (.map es clk) ∧ es.toList.map (fun e : MapEntry => (e.key, e.val)) = L.map (fun p => (Value.string p.1, p.2))
theorem MapAt.lt {w : World} {b : Nat} {L : List (ByteArray × Value)} (h : MapAt w b L) : b < w.heap.size := by
  obtain ⟨es, clk, h1, _⟩ := h
  exact (Array.getElem?_eq_some_iff.1 h1).1
theorem MapAt.kept {w w' : World} {b : Nat} {L : List (ByteArray × Value)} (h : MapAt w b L) (hb : Below w.heap.size w w') : MapAt w' b L := by
  have hlt := h.lt
  obtain ⟨es, clk, h1, h2⟩ := h
  exact ⟨es, clk, (hb.block b hlt).trans h1, h2⟩
theorem MapAt.made (w : World) : MapAt (w.alloc (.map #[] 0)) w.heap.size [] := ⟨#[], 0, heap_alloc_new w _, rfl⟩

theorem find_no (s : ByteArray) : ∀ (es : List MapEntry) (L : List (ByteArray × Value)) (i : Nat), es.map (fun e : MapEntry => (e.key, e.val)) = L.map (fun p => (Value.string p.1, p.2)) → (∀ p ∈ L, p.1 ≠ s) → Instr.findNow .string (.string s) es i = some none := by
  intro es
  induction es with
  | nil => intro L i _ _; rfl
  | cons e es ih =>
    intro L i h hn
    cases L with
    | nil => simp at h
    | cons p L =>
      simp only [List.map_cons, List.cons.injEq, Prod.mk.injEq] at h
      have hne : (s == p.1) = false := by
        rw [Bool.eq_false_iff]
        exact fun e => hn p (by simp) ((MapKept.bytes_beq _ _).1 e).symm
      have h3 : Instr.sameNow .string (.string s) e.key = some false := by rw [h.1.1]; show some (s == p.1) = some false; rw [hne]
      rw [Instr.findNow, h3]
      exact ih L (i + 1) h.2 (fun q hq => hn q (by simp [hq]))
theorem find_yes (s : ByteArray) (v : Value) : ∀ (es : List MapEntry) (A B : List (ByteArray × Value)) (i : Nat), es.map (fun e : MapEntry => (e.key, e.val)) = (A ++ (s, v) :: B).map (fun p => (Value.string p.1, p.2)) → (∀ p ∈ A, p.1 ≠ s) → ∃ j, Instr.findNow .string (.string s) es i = some (some (j, v)) := by
  intro es
  induction es with
  | nil => intro A B i h _; simp at h
  | cons e es ih =>
    intro A B i h hn
    cases A with
    | nil =>
      simp only [List.nil_append, List.map_cons, List.cons.injEq, Prod.mk.injEq] at h
      have h3 : Instr.sameNow .string (.string s) e.key = some true := by rw [h.1.1]; show some (s == s) = some true; rw [(MapKept.bytes_beq s s).2 rfl]
      rw [Instr.findNow, h3]
      exact ⟨i, by rw [h.1.2]⟩
    | cons p A =>
      simp only [List.cons_append, List.map_cons, List.cons.injEq, Prod.mk.injEq] at h
      have hne : (s == p.1) = false := by
        rw [Bool.eq_false_iff]
        exact fun e => hn p (by simp) ((MapKept.bytes_beq _ _).1 e).symm
      have h3 : Instr.sameNow .string (.string s) e.key = some false := by rw [h.1.1]; show some (s == p.1) = some false; rw [hne]
      rw [Instr.findNow, h3]
      exact ih A B (i + 1) h.2 (fun q hq => hn q (by simp [hq]))

section
variable {P : Program} {w : World} {b : Nat} {L : List (ByteArray × Value)} {mt kt et : TypeId}
theorem run_put (hm : P.underlying mt = some (.map kt et)) (hk : P.underlying kt = some .string) (h : MapAt w b L) (s : ByteArray) (v : Value) (hn : ∀ p ∈ L, p.1 ≠ s) :
    ∃ w', (Instr.mapUpdate mt (.map (some b)) (.string s) v).run P w = .ok () w' ∧ MapAt w' b (L ++ [(s, v)]) ∧ w.grownBy w' (some b) := by
  obtain ⟨es, clk, h1, h2⟩ := h
  have hf := find_no s es.toList L 0 h2 hn
  have hc : (Instr.checkKey false 10000 kt (.string s)).run P w = .ok () w := MapKept.run_checkKey (k := .string s) hk (by simp [MapKept.IsKey]) false 9999
  refine ⟨{ w with heap := w.heap.setIfInBounds b (.map (es.push { key := .string s, val := v, born := clk }) (clk + 1)) }, ?_, ?_, ?_⟩
  · simp [Instr.mapUpdate, run_underlying hm, MapKept.run_getObj_map h1, hc, MapKept.run_findKey hk hf, MapKept.run_setObj_map _ h1, Result.andThen]
  · exact ⟨_, _, (MapKept.heap_set h1).1, by simp [h2]⟩
  · exact ⟨rfl, rfl, rfl, by simp, fun k _ hk => (MapKept.heap_set h1).2 k (fun e => hk (by rw [e]))⟩
theorem run_see (hm : P.underlying mt = some (.map kt et)) (hk : P.underlying kt = some .string) (A B : List (ByteArray × Value)) (s : ByteArray) (v : Value) (h : MapAt w b (A ++ (s, v) :: B)) (hn : ∀ p ∈ A, p.1 ≠ s) :
    (Instr.lookup mt (.map (some b)) (.string s) true).run P w = .ok (.tuple #[v, .bool true]) w := by
  obtain ⟨es, clk, h1, h2⟩ := h
  obtain ⟨j, hf⟩ := find_yes s v es.toList A B 0 h2 hn
  have hc := fun e => MapKept.run_checkKey (P := P) (w := w) (k := .string s) hk (by simp [MapKept.IsKey]) e 9999
  simp [Instr.lookup, run_underlying hm, MapKept.run_getObj_map h1, hc, MapKept.run_findKey hk hf, Result.andThen]
theorem run_unseen (hm : P.underlying mt = some (.map kt et)) (hk : P.underlying kt = some .string) (z : Value) (hz : (zeroValue et).run P w = .ok z w) (s : ByteArray) (h : MapAt w b L) (hn : ∀ p ∈ L, p.1 ≠ s) :
    (Instr.lookup mt (.map (some b)) (.string s) true).run P w = .ok (.tuple #[z, .bool false]) w := by
  obtain ⟨es, clk, h1, h2⟩ := h
  have hf := find_no s es.toList L 0 h2 hn
  have hc := fun e => MapKept.run_checkKey (P := P) (w := w) (k := .string s) hk (by simp [MapKept.IsKey]) e 9999
  simp [Instr.lookup, run_underlying hm, MapKept.run_getObj_map h1, hc, MapKept.run_findKey hk hf, Result.andThen, hz]
end

/-- m[s] = v, in a map's literal, s a new key. -/
theorem put_law {P : Program} (w : World) {ops : Array Oper} {rest : List Oper} {o : Oper} {a : Act} {Q : Exit → Act → World → Prop} (hg : o.guard = none) (m k x : Operand) (mt kt et : TypeId) (hop : o.op = Op.insert mt m k x)
    (hm : P.underlying mt = some (.map kt et)) (hk : P.underlying kt = some .string) (b : Nat) (L : List (ByteArray × Value)) (h : MapAt w b L) (s : ByteArray) (v : Value) (e1 : a.eval m = .map (some b)) (e2 : a.eval k = .string s) (e3 : a.eval x = v) (hn : ∀ p ∈ L, p.1 ≠ s)
    (hK : ∀ w', MapAt w' b (L ++ [(s, v)]) → w.grownBy w' (some b) → wpList P ops Q rest (a.put o.dst undef) w') : wpList P ops Q (o :: rest) a w := by
  obtain ⟨w', hr, h2, h3⟩ := run_put (P := P) hm hk h s v hn
  refine wpList_plain hg fun K hK' => ?_
  unfold Oper.wp
  simp [execOp, hop, e1, e2, e3, hr, Result.andThen]
  exact hK' _ _ (hK w' h2 h3)

end Go.Proofs.YtaceiebmgnhdgaaGreatDoor
