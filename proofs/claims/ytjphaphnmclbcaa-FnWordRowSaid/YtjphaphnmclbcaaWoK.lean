/- The goroutine that wordsOf starts: it sends all words and closes the channel. No condition. -/
import Derived.Test.YtjphaphnmclbcaaSwK
namespace Go.Proofs.Ytjphaphnmclbcaa
open Go Go.Conc Go.RowKit

theorem fw_body : ∃ r0 ops, Try.f104.body = some (.seq (.region 0 r0 false) (.region 1 ops false)) := ⟨_, _, rfl⟩

set_option linter.unusedSimpArgs false in
set_option maxHeartbeats 4000000 in
theorem child_snd {c B : Nat} {Sh : Nat → Prop} (L : List Nat) (gw gc : Nat) (w : World) (hL : L.length = 4) (hs : L.sum ≤ 100) (hSh : ∀ k, Sh k → k < B) (hB : B ≤ w.heap.size) (hgw : Sh gw) (hgc : Sh gc)
    (hcw : w.cell? ⟨gw, 0, none⟩ = some (.chan (some c))) (hcc : w.heap[gc]? = some (.cells (cellsOf L) 63 (0, 0))) :
    SndF Try.prog c Sh (PhiW B) (wgo L.sum [] L, fun _ => False) (born Try.prog { target := .fn (.func 104) #[.pointer (some ⟨gw, 0, none⟩), .pointer (some ⟨gc, 0, none⟩)], args := #[] }) w := by
  have hS : Fam Try.prog false Sh (SndF Try.prog c Sh (PhiW B)) := fam_snd (phiW_keeps B)
  refine hS.ctl rfl (born_step Try.func104 (by kernel_rfl) rfl) ?_
  simp only [Try.ntmps104, List.size_toArray, List.length_cons, List.length_nil, Nat.reduceAdd, Nat.reduceSub, Array.replicate_succ,
     Array.replicate_zero, List.push_toArray, List.append_toArray, List.nil_append, List.cons_append]
  refine hS.ctl rfl (fun _ => stepG_seq) ?_
  -- the first region, with what follows known
  have h0 : B ≤ w.heap.size := hB
  refine WpC.at (fn := 104) (b := bDef 104) ?_ rfl (by simp [bDef]) (R := fun a w' M' => a.defers = [] ∧ a.tmps.getD 0 undef = .pointer (some ⟨gw, 0, none⟩) ∧ a.tmps.size = 7 ∧ M'.1 = [] ∧ w'.cell? ⟨gw, 0, none⟩ = some (.chan (some c))) ?_
  · refine wpC_region hS ?_
    simp only [List.size_toArray, List.length_cons, List.length_nil, Nat.reduceAdd, Nat.zero_add, List.range, List.range.loop]
    have kgw : gw < w.heap.size := Nat.lt_of_lt_of_le (hSh gw hgw) hB
    refine opsC_load (ad := ⟨gw, 0, none⟩) (v := .chan (some c)) hS rfl rfl rfl (by kernel_rfl) rfl (.inl hgw) hcw ?_
    obtain ⟨i0, hii, hz0, hz1, hz2⟩ := info_parts infoI
    refine opsC_buildSlice (cells := #[]) hS rfl rfl rfl Try.underlying23 hii hz0 hz1 (by omega) (by simp [Instr.fill]) fun w₁ h₁ => ?_
    obtain ⟨w2, hw2⟩ : ∃ w2, w2 = w₁.alloc (.cells #[] 3) := ⟨_, rfl⟩
    rw [← hw2]
    have hgb : w₁.grownBy w2 none := by rw [hw2]; exact World.grownBy_alloc _ _ _
    have hsz : w₁.heap.size < w2.heap.size := by rw [hw2, World.size_alloc]; exact Nat.lt_succ_self _
    have hok : There Sh w ((wgo L.sum [] L, fun _ => False) : Gh (List (List Int))) := fun k hk => by
      rcases hk with hk | hk
      · have := hSh k hk; omega
      · exact hk.elim
    have fw := (Fwd.refl Sh w ((wgo L.sum [] L, fun _ => False) : Gh (List (List Int)))).grown h₁ hgb (fun k hk => by cases hk) hok
    have th := hok.grown h₁ hgb.size
    have hs1 := h₁.size
    have own : Own w2 B (.slice (some ⟨w₁.heap.size, 0, none⟩) 0 0) [] := by rw [hw2]; exact World.ownsRow_lit w₁ #[] 0 (by omega) (Nat.zero_le _) rfl
    have mine : grow (fun _ => False) w₁ w2 w₁.heap.size := .inr ⟨Nat.le_refl _, hsz⟩
    simp only [] at fw th ⊢
    obtain ⟨M2, hM2⟩ : ∃ M2, M2 = grow (fun _ => False) w₁ w2 := ⟨_, rfl⟩
    rw [← hM2] at fw th mine ⊢
    obtain ⟨gu, hgu⟩ : ∃ gu, gu = w₁.heap.size := ⟨_, rfl⟩
    rw [← hgu] at own mine ⊢
    have hcw2 : w2.cell? ⟨gw, 0, none⟩ = some (.chan (some c)) := (fw.cell (ad := ⟨gw, 0, none⟩) (.inl hgw)).trans hcw
    have hcc2 : w2.heap[gc]? = some (.cells (cellsOf L) 63 (0, 0)) := (fw.rl.keep gc (.inl hgc)).trans hcc
    clear hw2 hgb hM2 hgu h₁ hsz
    have hcs : (cellsOf L).size = 4 := by simp [cellsOf, hL]
    refine opsC_loadrow (cs := cellsOf L) hS rfl rfl rfl (by kernel_rfl) (by rw [hcs]; exact info4) rfl (.inl hgc) hcc2 ?_
    have hsend := send_all (c := c) (B := B) (Sh := Sh) L.sum [] L (.slice (some ⟨gu, 0, none⟩) 0 0) w2 M2 [] hL rfl (by simp; omega) hSh (by have := fw.rl.size; omega)
    simp only [List.append_nil] at hsend
    have hsend := hsend th ⟨own, fun k hk => by cases hk; exact mine, by simp⟩
    refine opsC_callF hS rfl rfl rfl Try.func105 (by kernel_rfl) rfl (by simp only [List.map_toArray, List.map_cons, List.map_nil]; rfl) (hsend) ?_
    intro v w' M' m
    refine opsC_nil hS ⟨rfl, rfl, rfl, rfl, m.ix, ?_⟩
    rw [← hcw2]
    exact cell_eq (m.rl.keep gw (.inl hgw))
  · rintro a w' ⟨Mi, M'⟩ ⟨hd, h0', hsz, hix, hcw'⟩
    simp only at hix
    subst hix
    refine hS.ctl rfl (fun _ => stepG_region) ?_
    simp only [List.size_toArray, List.length_cons, List.length_nil, Nat.reduceAdd, Nat.zero_add, List.range, List.range.loop]
    refine raw_load (ad := ⟨gw, 0, none⟩) (v := .chan (some c)) hS (by simp [bDef]) rfl rfl rfl (by kernel_rfl) h0' (.inl hgw) hcw' ?_
    refine shut_at (x := .tmp 6) rfl rfl (by simp [bDef]) rfl ?_ ?_ ?_ (quits_def Try.func104 rfl ?_)
    · show (a.put (some 6) (.chan (some c))).tmps.getD 6 undef = _
      rw [put_getD (by omega)]
      rfl
    · rw [show (bDef 104).fn = 104 from rfl, Try.func104]
      rfl
    · simp [mayWake, G, Frame.at]
    · show (((a.put (some 6) (.chan (some c))).put none (.tuple #[])) : Act).defers = []
      rw [put_defers, put_defers]
      exact hd

end Go.Proofs.Ytjphaphnmclbcaa
