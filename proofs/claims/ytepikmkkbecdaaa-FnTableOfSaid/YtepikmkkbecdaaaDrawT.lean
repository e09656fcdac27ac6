/- The draw of a table. Condition: the bytes can be read. -/
import Derived.Test.YtepikmkkbecdaaaDraw4
import Derived.Test.YtepikmkkbecdaaaReg
import Derived.Test.YtepikmkkbecdaaaTab
namespace Go.Proofs.Ytepikmkkbecdaaa
open Go.RowKit

/-- What a law's draw of one longer list leaves. -/
def DrawnL (w : World) (e : Ending) (w' : World) : Prop := ∃ u ys, e = .returned u ∧ Own w' w.heap.size u ys ∧ ys.length ≤ 20 ∧ Below w.heap.size w w'

theorem sl_lit (w : World) (ys : List Int) (hl : ys.length ≤ 1000) : Sl (w.alloc (.cells (ys.map (Value.int .i64)).toArray 3)) (some ⟨w.heap.size, 0, none⟩) ys.length ys.length ys :=
  OwS.sl (World.ownsRow_lit (base := w.heap.size) w (ys.map (Value.int .i64)).toArray ys.length (Nat.le_refl _) (by unfold maxLen; omega) (by simp))

set_option maxHeartbeats 4000000 in
theorem drawOrderOfTable_any (bo : Option Addr) (n cap : Nat) (cs : List Int) (w : World) (h : Slb w bo n cap cs) :
    Calls Try.prog 21 #[.slice bo n cap] w (DrawnL w) := by
  go_enter Try.func21, Try.ntmps21
  go_wp2_with fail
  refine (newReader_any bo n cap cs w h).mono ?_
  rintro e w1 ⟨rfl, hr1, hb1⟩
  go_wp2_with fail
  refine (goodOrder_any w.heap.size 0 w1 hr1 (by omega)).mono ?_
  rintro e w2 ⟨m, hm, u, ys, q1, rfl, ho, hl, hq1, hr2, hg2⟩
  obtain ⟨a1, c1, rfl, hs1⟩ := ho.sl
  rw [hl] at hs1 ⊢
  have Hl := hid hl
  clear ho
  go_wp2_with fail
  refine (lesser_any _ _ _ ys w2 hs1 (by omega)).mono ?_
  rintro e w3 ⟨u3, rfl, ho3, hb3⟩
  have hr3 := hr2.below hb3
  have hsz1 := hb1.size
  have hsz2 := hg2.size
  have hb03 := (below_reader hb1 hg2).trans (hb3.mono (Nat.le_trans hsz1 hsz2))
  have hRw := hr1.lt
  have hR : w.heap.size < w2.heap.size := by omega
  obtain ⟨a3, c3, rfl, hs3⟩ := ho3.sl
  obtain ⟨zs, hts⟩ : ∃ ts, ts = table ys := ⟨_, rfl⟩
  have htl : (table ys).length = m := by rw [table_len, hl]
  rw [htl] at ho3 ⊢
  rw [← hts] at ho3 htl
  have Htl := hid htl
  have hzl : Hid (zs.length ≤ 7) := hid (by omega)
  have hf3 := ho3.farR hR
  replace ho3 := ho3.mono (show w.heap.size ≤ w2.heap.size by omega)
  clear hs3 hts hl htl hs1
  by_cases hm0 : m = 0
  · subst hm0
    go_wp2_with fail
    refine (pick_any w.heap.size q1 24 _ hr3 (by omega) (by omega)).mono ?_
    rintro e w4 ⟨v4, rfl, hv0, hv1, hr4, hg4⟩
    have ho4 := ho3.kept hg4 hf3
    have hb04 := below_reader hb03 hg4
    have hsw4 := hb04.size
    by_cases e0 : v4 = 0
    · subst e0
      clear hv0 hv1
      have hl1 : zs.length + 7 ≤ 2000000 := by have := hzl.out; omega
      have hoa := ho4.alloc (.cells ([0, 0, 0, 0, 0, 0, 0].map (Value.int .i64)).toArray 3)
      have hsl := sl_lit w4 [0, 0, 0, 0, 0, 0, 0] (by simp)
      have hba : Below w.heap.size w (w4.alloc (.cells ([0, 0, 0, 0, 0, 0, 0].map (Value.int .i64)).toArray 3)) := hb04.alloc hsw4 _
      have hBa := hba.size
      have Hoa := hid hoa
      have Hsl := hid hsl
      clear hoa hsl
      go_wp2_with (at_builtin; refine app_list _ rfl _ _ rfl w.heap.size _ _ rfl Hoa.out (some ⟨w4.heap.size, 0, none⟩) 7 7 [0, 0, 0, 0, 0, 0, 0] rfl Hsl.out (by simp) hl1 hBa ?_)
      intro u' w' ho' hg'
      have hb' := below_app hba Hoa.out hg'
      go_wp2
      go_ret
      exact ⟨_, _, rfl, ho', by have := hzl.out; simp; omega, hb'⟩
    · clear hv0 hv1
      go_wp2
      go_ret
      exact ⟨_, zs, rfl, ho4, by have := hzl.out; omega, hb04⟩
  · have hmp : (0 : Int) < m := by omega
    go_wp2_with fail
    refine (pick_any w.heap.size q1 16 w3 hr3 (by omega) (by omega)).mono ?_
    rintro e w4 ⟨v4, rfl, hv0, hv1, hr4, hg4⟩
    have ho4 := ho3.kept hg4 hf3
    have hf4 := hf3
    have hb04 := below_reader hb03 hg4
    by_cases e0 : v4 = 0
    · subst e0
      clear hv0 hv1
      go_wp2_with fail
      refine (pick_any w.heap.size (q1 + 1) m w4 hr4 (by omega) (by omega)).mono ?_
      rintro e w5 ⟨v5, rfl, hv0, hv1, hr5, hg5⟩
      obtain ⟨j, rfl⟩ := Int.eq_ofNat_of_zero_le hv0
      have hj : j < m := by have := Int.max_eq_left (show (1 : Int) ≤ m by omega); omega
      have ho5 := ho4.kept hg5 hf4
      have hb05 := below_reader hb04 hg5
      have hs05 := hb05.size
      have ha := lit_arr w5 [-1, 7, 1]
      have hr6 := hr5.below ((Below.refl w5.heap.size w5).alloc (Nat.le_refl _) (.cells ([-1, 7, 1].map (Value.int .i64)).toArray 3))
      have hb5a := hb05.alloc hs05 (.cells ([-1, 7, 1].map (Value.int .i64)).toArray 3)
      have ho5a := ho5.alloc (.cells ([-1, 7, 1].map (Value.int .i64)).toArray 3)
      have Ha := hid ha
      have Hr := hid hr6
      have Hb := hid hb5a
      have Ho := hid ho5a
      have hRw5 := hr5.lt
      clear hv0 hv1 ha hr6 hb5a ho5a
      go_wp2_with fail
      refine (one_any w.heap.size (q1 + 2) w5.heap.size 3 3 [-1, 7, 1] _ Hr.out (by omega) Ha.out rfl (by omega) (by omega) (by omega)).mono ?_
      rintro e w6 ⟨j3, hj3, rfl, hr6, hg6⟩
      have ho6 := Ho.out.kept hg6 hf4
      have hb06 := below_reader Hb.out hg6
      have hs06 := hb06.size
      rcases ho6.place with ⟨e1, rfl⟩ | ⟨g, cap', e1, hs6⟩
      · simp only [Value.slice.injEq] at e1
        omega
      · simp only [Value.slice.injEq] at e1
        obtain ⟨rfl, e2, rfl⟩ := e1
        rw [← e2] at hs6
        clear e2
        have hfr := hs6.frozen j
        have hcur := hs6.cell hj
        have hlt6 := hs6.lt
        have hgR : g ≠ w.heap.size := by
          rcases hf4 with e | e
          · simp [Value.ownBlock] at e
          · simpa [Value.ownBlock] using e
        obtain ⟨z, hz⟩ : ∃ z, z = el [-1, 7, 1] j3 := ⟨_, rfl⟩
        rw [← hz]
        have hgs := grown_set (w := w6) (g := g) (j := j) (v := .int .i64 z)
        have hb07 : Below w.heap.size w (w6.setCell ⟨g, j, none⟩ (.int .i64 z)) := hb06.setCell hlt6.1 _
        have hr7 := hr6.row hgs (fun k hk => by have := Option.some.inj hk; omega)
        have ho7 := (hs6.set j z).own
        have hzl7 : Hid ((zs.set j z).length ≤ 7) := hid (by rw [List.length_set]; exact hzl.out)
        obtain ⟨zz, hzz⟩ : ∃ zz, zz = zs.set j z := ⟨_, rfl⟩
        rw [← hzz] at hzl7 ho7
        have hzl8 := hzl7
        clear hzz
        clear hz hj3
        have hf7 := hf4
        clear hzl7
        go_wp2_with fail
        refine (pick_any w.heap.size (q1 + 3) 24 _ hr7 (by omega) (by omega)).mono ?_
        rintro e w8 ⟨v8, rfl, hv0, hv1, hr8, hg8⟩
        have ho8 := ho7.kept hg8 hf7
        have hb08 := below_reader hb07 hg8
        have hsw8 := hb08.size
        by_cases e0 : v8 = 0
        · subst e0
          clear hv0 hv1
          have hl1 : zz.length + 7 ≤ 2000000 := by have := hzl8.out; omega
          have hoa := ho8.alloc (.cells ([0, 0, 0, 0, 0, 0, 0].map (Value.int .i64)).toArray 3)
          have hsl := sl_lit w8 [0, 0, 0, 0, 0, 0, 0] (by simp)
          have hba : Below w.heap.size w (w8.alloc (.cells ([0, 0, 0, 0, 0, 0, 0].map (Value.int .i64)).toArray 3)) := hb08.alloc hsw8 _
          have hBa := hba.size
          have Hoa := hid hoa
          have Hsl := hid hsl
          clear hoa hsl
          go_wp2_with (at_builtin; refine app_list _ rfl _ _ rfl w.heap.size _ _ rfl Hoa.out (some ⟨w8.heap.size, 0, none⟩) 7 7 [0, 0, 0, 0, 0, 0, 0] rfl Hsl.out (by simp) hl1 hBa ?_)
          intro u' w' ho' hg'
          have hb' := below_app hba Hoa.out hg'
          go_wp2
          go_ret
          exact ⟨_, _, rfl, ho', by have := hzl8.out; simp; omega, hb'⟩
        · clear hv0 hv1
          go_wp2
          go_ret
          exact ⟨_, zz, rfl, ho8, by have := hzl8.out; omega, hb08⟩
    · clear hv0 hv1
      go_wp2_with fail
      refine (pick_any w.heap.size (q1 + 1) 24 _ hr4 (by omega) (by omega)).mono ?_
      rintro e w5 ⟨v5, rfl, hv0, hv1, hr5, hg5⟩
      have ho5 := ho4.kept hg5 hf4
      have hb05 := below_reader hb04 hg5
      have hsw5 := hb05.size
      by_cases e0 : v5 = 0
      · subst e0
        clear hv0 hv1
        have hl1 : zs.length + 7 ≤ 2000000 := by have := hzl.out; omega
        have hoa := ho5.alloc (.cells ([0, 0, 0, 0, 0, 0, 0].map (Value.int .i64)).toArray 3)
        have hsl := sl_lit w5 [0, 0, 0, 0, 0, 0, 0] (by simp)
        have hba : Below w.heap.size w (w5.alloc (.cells ([0, 0, 0, 0, 0, 0, 0].map (Value.int .i64)).toArray 3)) := hb05.alloc hsw5 _
        have hBa := hba.size
        have Hoa := hid hoa
        have Hsl := hid hsl
        clear hoa hsl
        go_wp2_with (at_builtin; refine app_list _ rfl _ _ rfl w.heap.size _ _ rfl Hoa.out (some ⟨w5.heap.size, 0, none⟩) 7 7 [0, 0, 0, 0, 0, 0, 0] rfl Hsl.out (by simp) hl1 hBa ?_)
        intro u' w' ho' hg'
        have hb' := below_app hba Hoa.out hg'
        go_wp2
        go_ret
        exact ⟨_, _, rfl, ho', by have := hzl.out; simp; omega, hb'⟩
      · clear hv0 hv1
        go_wp2
        go_ret
        exact ⟨_, zs, rfl, ho5, by have := hzl.out; omega, hb05⟩

end Go.Proofs.Ytepikmkkbecdaaa
