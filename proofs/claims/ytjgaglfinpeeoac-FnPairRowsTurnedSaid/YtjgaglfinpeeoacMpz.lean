/- Maps from two numbers that a call has made: how often two numbers have come. Condition: of the key's type, that the library's law of keys holds of it. -/
import Derived.Test.YtjgaglfinpeeoacPrr
import Derived.Test.YtjgaglfinpeeoacBnd
import Derived.WideKeyEntry
namespace Go.Proofs.Ytjgaglfinpeeoac
open Go.RowKit

def keyZ (x y : Int) : Value := .agg #[.int .i64 x, .int .i64 y]
theorem keyZ_inj {a b c d : Int} (h : keyZ a b = keyZ c d) : a = c ∧ b = d := by
  simpa [keyZ] using h
def SmZ (x : Int) : Prop := 0 ≤ x ∧ x ≤ 1000
/-- The key's type has the library's law, and small numbers are keys. -/
structure ZKeys (P : Program) (k : TypeId) : Prop where
  law : WideMaps.KeyLaw P k
  key : ∀ x y : Int, SmZ x → SmZ y → ∃ l, keyOf P k (keyZ x y) = some l

/-- What an entry is that two numbers of ps have. -/
def EntZ (ps : List (Int × Int)) (e : MapEntry) : Prop := ∃ x y, SmZ x ∧ SmZ y ∧ (x, y) ∈ ps ∧ e.key = keyZ x y ∧ e.val = .int .i64 (pcnt ps x y)
/-- Block b is a map that holds how often two numbers stand in ps. -/
def MapZ (w : World) (b : Nat) (ps : List (Int × Int)) : Prop :=
  ∃ es clk, w.heap[b]? = some (.map es clk) ∧ MapKept.Stamped es clk ∧ (∀ e ∈ es.toList, EntZ ps e) ∧ (∀ x y, (x, y) ∈ ps → ∃ e ∈ es.toList, e.key = keyZ x y)
/-- .. while the entry of x and y, with the stamp st, is about to be written. -/
def MidZ (w : World) (b st : Nat) (x y : Int) (ps : List (Int × Int)) : Prop :=
  ∃ (es : Array MapEntry) (clk j : Nat) (e : MapEntry), w.heap[b]? = some (.map es clk) ∧ MapKept.Stamped es clk ∧ es.toList[j]? = some e ∧ e.key = keyZ x y ∧ e.val = .int .i64 (pcnt ps x y) ∧ e.born = st ∧ (∀ i e', i ≠ j → es.toList[i]? = some e' → EntZ ps e' ∧ e'.key ≠ keyZ x y) ∧ (∀ a c, (a, c) ∈ ps → ∃ e ∈ es.toList, e.key = keyZ a c)
theorem MapZ.lt {w : World} {b : Nat} {ps : List (Int × Int)} (h : MapZ w b ps) : b < w.heap.size := by
  obtain ⟨es, clk, h1, _⟩ := h
  exact (Array.getElem?_eq_some_iff.1 h1).1
theorem MapZ.keep {w w' : World} {b : Nat} {ps : List (Int × Int)} (h : MapZ w b ps) (hb : w'.heap[b]? = w.heap[b]?) : MapZ w' b ps := by
  obtain ⟨es, clk, h1, h2⟩ := h
  exact ⟨es, clk, hb.trans h1, h2⟩
theorem MapZ.kept {w w' : World} {b : Nat} {ps : List (Int × Int)} (h : MapZ w b ps) (hb : Below w.heap.size w w') : MapZ w' b ps := h.keep (hb.block b h.lt)
theorem MidZ.keep {w w' : World} {b st : Nat} {x y : Int} {ps : List (Int × Int)} (h : MidZ w b st x y ps) (hb : w'.heap[b]? = w.heap[b]?) : MidZ w' b st x y ps := by
  obtain ⟨es, clk, j, e, h1, h2⟩ := h
  exact ⟨es, clk, j, e, hb.trans h1, h2⟩
theorem MapZ.made (w : World) : MapZ (w.alloc (.map #[] 0)) w.heap.size [] := ⟨#[], 0, heap_alloc_new w _, MapKept.stamped_empty 0, fun e he => by simp at he, fun x y h => by simp at h⟩
theorem keys_apart {es : Array MapEntry} {clk i j : Nat} {e e' : MapEntry} (h : MapKept.Stamped es clk) (hi : es.toList[i]? = some e) (hj : es.toList[j]? = some e') (hne : i ≠ j) : e.key ≠ e'.key := by
  have h3 := ((MapKept.stamped_iff es clk).1 h).2.2
  rw [List.pairwise_iff_getElem] at h3
  obtain ⟨li, rfl⟩ := List.getElem?_eq_some_iff.1 hi
  obtain ⟨lj, rfl⟩ := List.getElem?_eq_some_iff.1 hj
  rcases Nat.lt_or_gt_of_ne hne with q | q
  · exact h3 i j li lj q
  · exact (h3 j i lj li q).symm

section
variable {P : Program} {w : World} {b : Nat} {ps : List (Int × Int)} {mt kt et : TypeId} {x y : Int}
theorem run_lookZ (Z : ZKeys P kt) (hm : P.underlying mt = some (.map kt et)) (hz : (zeroValue et).run P w = .ok (.int .i64 0) w) (h : MapZ w b ps) (hx : SmZ x) (hy : SmZ y) :
    (Instr.lookup mt (.map (some b)) (keyZ x y) false).run P w = .ok (.int .i64 (pcnt ps x y)) w := by
  obtain ⟨es, clk, h1, h2, h3, h4⟩ := h
  obtain ⟨l, hl⟩ := Z.key x y hx hy
  have hk : ∀ e ∈ es.toList, ∃ l, keyOf P kt e.key = some l := fun e he => by
    obtain ⟨a, c, ha, hc, -, e1, -⟩ := h3 e he
    rw [e1]; exact Z.key a c ha hc
  have hc := fun e => Z.law.check w e hl
  rcases Z.law.find w hl es.toList hk with ⟨hf, hn⟩ | ⟨j, e, hf, hj, he⟩
  · have e0 : pcnt ps x y = 0 := by
      unfold pcnt
      rw [List.count_eq_zero.2 (fun hm => by obtain ⟨e, he, e1⟩ := h4 x y hm; exact hn e he e1)]; rfl
    rw [e0]
    simp [Instr.lookup, run_underlying hm, MapKept.run_getObj_map h1, hc, hf, Result.andThen, hz]
  · obtain ⟨a, c, -, -, -, e1, e2⟩ := h3 e (List.mem_of_getElem? hj)
    obtain ⟨rfl, rfl⟩ := keyZ_inj (e1.symm.trans he)
    simp [Instr.lookup, run_underlying hm, MapKept.run_getObj_map h1, hc, hf, Result.andThen, e2]
theorem run_entryZ (Z : ZKeys P kt) (hm : P.underlying mt = some (.map kt et)) (hz : (zeroValue et).run P w = .ok (.int .i64 0) w) (h : MapZ w b ps) (hx : SmZ x) (hy : SmZ y) :
    ∃ (st : Nat) (w1 : World), (Instr.mapEntry mt (.map (some b)) (keyZ x y)).run P w = .ok (.tuple #[.int .i64 (pcnt ps x y), .int .i64 st]) w1 ∧ MidZ w1 b st x y ps ∧ w.grownBy w1 (some b) := by
  obtain ⟨es, clk, h1, h2, h3, h4⟩ := h
  obtain ⟨l, hl⟩ := Z.key x y hx hy
  have hk : ∀ e ∈ es.toList, ∃ l, keyOf P kt e.key = some l := fun e he => by
    obtain ⟨a, c, ha, hc, -, e1, -⟩ := h3 e he
    rw [e1]; exact Z.key a c ha hc
  have hc := fun e => Z.law.check w e hl
  rcases Z.law.find w hl es.toList hk with ⟨hf, hn⟩ | ⟨j, e, hf, hj, he⟩
  · have e0 : pcnt ps x y = 0 := by
      unfold pcnt
      rw [List.count_eq_zero.2 (fun hm => by obtain ⟨e, he, e1⟩ := h4 x y hm; exact hn e he e1)]; rfl
    rw [e0]
    refine ⟨clk, { w with heap := w.heap.setIfInBounds b (.map (es.push { key := keyZ x y, val := .int .i64 0, born := clk }) (clk + 1)) }, ?_, ⟨_, _, es.size, { key := keyZ x y, val := .int .i64 0, born := clk }, (MapKept.heap_set h1).1, MapKept.stamped_push h2 hn, by simp, rfl, by rw [e0], rfl, fun i e' hi he' => ?_, fun a c hac => ?_⟩, rfl, rfl, rfl, by simp, fun k _ hk => (MapKept.heap_set h1).2 k (fun e => hk (by rw [e]))⟩
    · simp [Instr.mapEntry, run_underlying hm, MapKept.run_getObj_map h1, hc, hf, Result.andThen, hz, MapKept.run_setObj_map _ h1, goInt]
    · rw [Array.toList_push, List.getElem?_append] at he'
      split at he'
      · have hm' := List.mem_of_getElem? he'
        exact ⟨h3 e' hm', hn e' hm'⟩
      · rename_i hlt
        have := (List.getElem?_eq_some_iff.1 he').1
        simp only [Array.length_toList, List.length_singleton] at this hlt
        omega
    · obtain ⟨e, he, e1⟩ := h4 a c hac
      exact ⟨e, by simp [he], e1⟩
  · obtain ⟨a, c, -, -, -, e1, e2⟩ := h3 e (List.mem_of_getElem? hj)
    obtain ⟨rfl, rfl⟩ := keyZ_inj (e1.symm.trans he)
    have hja : es[j]? = some e := by simpa using hj
    have hsame : es.modify j (fun q => { q with key := keyZ a c }) = es := by
      apply Array.ext'
      rw [Array.toList_modify, ChangeMaps.modify_eq_set _ _ _ _ hj]
      have : ({ e with key := keyZ a c } : MapEntry) = e := by rw [← he]
      rw [this]
      exact WideElems.set_self _ _ _ hj
    refine ⟨e.born, { w with heap := w.heap.setIfInBounds b (.map es clk) }, ?_, ⟨es, clk, j, e, (MapKept.heap_set h1).1, h2, hj, he, e2, rfl, fun i e' hi he' => ⟨h3 e' (List.mem_of_getElem? he'), by rw [← he]; exact keys_apart h2 he' hj hi⟩, h4⟩, rfl, rfl, rfl, by simp, fun k _ hk => (MapKept.heap_set h1).2 k (fun e => hk (by rw [e]))⟩
    simp [Instr.mapEntry, run_underlying hm, MapKept.run_getObj_map h1, hc, hf, Result.andThen, hja, he, Z.law.stays w hl, hsame, MapKept.run_setObj_map _ h1, goInt, e2]
theorem run_lookM {st : Nat} (Z : ZKeys P kt) (hm : P.underlying mt = some (.map kt et)) (h : MidZ w b st x y ps) (hx : SmZ x) (hy : SmZ y) :
    (Instr.lookup mt (.map (some b)) (keyZ x y) false).run P w = .ok (.int .i64 (pcnt ps x y)) w := by
  obtain ⟨es, clk, j0, e0, h1, h2, hj0, hk0, hv0, -, h3, h4⟩ := h
  obtain ⟨l, hl⟩ := Z.key x y hx hy
  have hk : ∀ e ∈ es.toList, ∃ l, keyOf P kt e.key = some l := fun e he => by
    obtain ⟨i, hi⟩ := List.mem_iff_getElem?.1 he
    by_cases q : i = j0
    · rw [q, hj0] at hi
      rw [← Option.some.inj hi, hk0]; exact ⟨l, hl⟩
    · obtain ⟨⟨a, c, ha, hc, -, e1, -⟩, -⟩ := h3 i e q hi
      rw [e1]; exact Z.key a c ha hc
  have hc := fun e => Z.law.check w e hl
  rcases Z.law.find w hl es.toList hk with ⟨hf, hn⟩ | ⟨j, e, hf, hj, he⟩
  · exact absurd hk0 (hn e0 (List.mem_of_getElem? hj0))
  · have ej : j = j0 := by
      apply Classical.byContradiction
      intro q
      exact (h3 j e q hj).2 he
    subst ej
    rw [hj0] at hj
    obtain rfl := Option.some.inj hj
    simp [Instr.lookup, run_underlying hm, MapKept.run_getObj_map h1, hc, hf, Result.andThen, hv0]
theorem run_storeZ {st : Nat} (h : MidZ w b st x y ps) (hx : SmZ x) (hy : SmZ y) :
    ∃ w1 : World, (Instr.entryStore mt (.map (some b)) (.int .i64 st) (.int .i64 (pcnt ps x y + 1))).run P w = .ok () w1 ∧ MapZ w1 b (ps ++ [(x, y)]) ∧ w.grownBy w1 (some b) := by
  obtain ⟨es, clk, j, e, h1, h2, hj, hk, -, rfl, h3, h4⟩ := h
  have hidx : es.findIdx? (fun q => ((q.born : Nat) : Int) == ((e.born : Nat) : Int)) = some j := by
    rw [WideElems.findIdx_arr]
    exact WideElems.findIdx_born h2.2.1 hj
  refine ⟨{ w with heap := w.heap.setIfInBounds b (.map (es.modify j (fun q => { q with val := .int .i64 (pcnt ps x y + 1) })) clk) }, ?_, ⟨_, _, (MapKept.heap_set h1).1, MapKept.stamped_modify h2 j _ (fun _ _ => rfl) (fun _ _ _ => rfl), fun q hq => ?_, fun a c hac => ?_⟩, rfl, rfl, rfl, by simp, fun k _ hk => (MapKept.heap_set h1).2 k (fun e => hk (by rw [e]))⟩
  · simp [Instr.entryStore, MapKept.run_getObj_map h1, asInt, asIntOf, hidx, MapKept.run_setObj_map _ h1, Result.andThen]
  · obtain ⟨i, hi⟩ := List.mem_iff_getElem?.1 hq
    rw [Array.toList_modify, List.getElem?_modify] at hi
    by_cases e1 : j = i
    · subst e1
      rw [hj] at hi
      simp only [if_true] at hi
      obtain rfl := Option.some.inj hi
      refine ⟨x, y, hx, hy, by simp, hk, ?_⟩
      rw [pcnt_app, if_pos ⟨rfl, rfl⟩]
    · have hi : es.toList[i]? = some q := by
        cases h9 : es.toList[i]? with
        | none => rw [h9] at hi; simp at hi
        | some z => rw [h9] at hi; simpa [e1] using hi
      obtain ⟨⟨a, c, ha, hc, hac, k1, k2⟩, hne⟩ := h3 i q (Ne.symm e1) hi
      refine ⟨a, c, ha, hc, by simp [hac], k1, ?_⟩
      rw [pcnt_app, if_neg (fun q => hne (by rw [k1, q.1, q.2])), Int.add_zero]
      exact k2
  · have hmod : ∀ (i : Nat) (q : MapEntry), es.toList[i]? = some q → ∃ q' : MapEntry, q' ∈ (es.modify j (fun q => { q with val := Value.int .i64 (pcnt ps x y + 1) })).toList ∧ q'.key = q.key := fun i q hq => by
      refine ⟨if j = i then { q with val := .int .i64 (pcnt ps x y + 1) } else q, ?_, by split <;> rfl⟩
      rw [Array.toList_modify]
      refine List.mem_iff_getElem?.2 ⟨i, ?_⟩
      rw [List.getElem?_modify, hq]
      split <;> rfl
    rcases List.mem_append.1 hac with hm | hm
    · obtain ⟨q, hq, e1⟩ := h4 a c hm
      obtain ⟨i, hi⟩ := List.mem_iff_getElem?.1 hq
      obtain ⟨q', hq', e2⟩ := hmod i q hi
      exact ⟨q', hq', e2.trans e1⟩
    · obtain ⟨rfl, rfl⟩ : a = x ∧ c = y := by simpa using hm
      obtain ⟨q', hq', e2⟩ := hmod j e hj
      exact ⟨q', hq', e2.trans hk⟩
end

end Go.Proofs.Ytjgaglfinpeeoac
