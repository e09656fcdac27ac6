/- The desk of the program: the answer to any line. Conditions: at most 2^20 bytes; the program's and the library's variables hold what their initialisers lay. -/
import Derived.Test.YtaceiebmgnhdgaaGreatDoorDkk
import Derived.Test.YtaceiebmgnhdgaaGreatDoorAsx
namespace Go.Proofs.YtaceiebmgnhdgaaGreatDoor
open Go.RowKit

/-- The variables that the desk reads. -/
structure Glb (w : World) : Prop where
  ty : w.cell? ⟨1, 0, none⟩ = some (.iface 105 (.agg #[.pointer (some ⟨6, 45, none⟩)]))
  el : ∃ v, w.cell? ⟨0, 0, none⟩ = some (.iface 168 v)
  pw : Pow w
theorem cellAt_lt {w : World} {p : Addr} {v : Value} (h : w.cell? p = some v) : p.block < w.heap.size := by
  rcases Nat.lt_or_ge p.block w.heap.size with h1 | h1
  · exact h1
  · simp [World.cell?, Array.getElem?_eq_none h1] at h
theorem Glb.later {w w' : World} (h : Glb w) (hb : Below w.heap.size w w') : Glb w' := by
  obtain ⟨v, hv⟩ := h.el
  exact ⟨(hb.cell (cellAt_lt h.ty)).trans h.ty, ⟨v, (hb.cell (cellAt_lt hv)).trans hv⟩, h.pw.later hb⟩

/-- What a word asks, whatever it is. -/
def AnyQ (u v : Value) (kb : Bool) : Prop := (∃ g1 b1 g2 b2, u = .func (.func g1) #[] b1 ∧ v = .func (.func g2) #[] b2 ∧ kb = true) ∨ (u = .nilFunc ∧ v = .nilFunc ∧ kb = false)
theorem ix_w {s : ByteArray} {j : Nat} (hj : j < 5) (h : wIx s = j) : s = BA (wM[j]'hj) := bytes_of_list (by rw [BA_list]; exact (wix_get h hj).symm)
theorem qst_any (s : ByteArray) (w : World) :
    Calls Tryz.prog 47 #[.string s] w fun e w' => ∃ u v kb, e = .returned (.tuple #[.agg #[u, v], .bool kb]) ∧ AnyQ u v kb ∧ Below w.heap.size w w' := by
  by_cases h9 : ixOf s < 9
  · have hc : ixOf s = 0 ∨ ixOf s = 1 ∨ ixOf s = 2 ∨ ixOf s = 3 ∨ ixOf s = 4 ∨ ixOf s = 5 ∨ ixOf s = 6 ∨ ixOf s = 7 ∨ ixOf s = 8 := by omega
    rcases hc with h | h | h | h | h | h | h | h | h
    · rw [ix_inversions h]; exact (qst0_any w).mono (by rintro e w' ⟨b, rfl, _, hb⟩; exact ⟨_, _, _, rfl, Or.inl ⟨_, _, _, _, rfl, rfl, rfl⟩, hb⟩)
    · rw [ix_major h]; exact (qst1_any w).mono (by rintro e w' ⟨b, rfl, _, hb⟩; exact ⟨_, _, _, rfl, Or.inl ⟨_, _, _, _, rfl, rfl, rfl⟩, hb⟩)
    · rw [ix_denert h]; exact (qst2_any w).mono (by rintro e w' ⟨b, rfl, _, hb⟩; exact ⟨_, _, _, rfl, Or.inl ⟨_, _, _, _, rfl, rfl, rfl⟩, hb⟩)
    · rw [ix_crossings h]; exact (qst3_any w).mono (by rintro e w' ⟨b, rfl, _, hb⟩; exact ⟨_, _, _, rfl, Or.inl ⟨_, _, _, _, rfl, rfl, rfl⟩, hb⟩)
    · rw [ix_nestings h]; exact (qst4_any w).mono (by rintro e w' ⟨b, rfl, _, hb⟩; exact ⟨_, _, _, rfl, Or.inl ⟨_, _, _, _, rfl, rfl, rfl⟩, hb⟩)
    · rw [ix_descents h]; exact (qst5_any w).mono (by rintro e w' ⟨b, c, rfl, _, _, hb⟩; exact ⟨_, _, _, rfl, Or.inl ⟨_, _, _, _, rfl, rfl, rfl⟩, hb⟩)
    · rw [ix_above h]; exact (qst6_any w).mono (by rintro e w' ⟨b, c, rfl, _, _, hb⟩; exact ⟨_, _, _, rfl, Or.inl ⟨_, _, _, _, rfl, rfl, rfl⟩, hb⟩)
    · rw [ix_records h]; exact (qst7_any w).mono (by rintro e w' ⟨b, c, rfl, _, _, hb⟩; exact ⟨_, _, _, rfl, Or.inl ⟨_, _, _, _, rfl, rfl, rfl⟩, hb⟩)
    · rw [ix_circles h]; exact (qst8_any w).mono (by rintro e w' ⟨b, c, rfl, _, _, hb⟩; exact ⟨_, _, _, rfl, Or.inl ⟨_, _, _, _, rfl, rfl, rfl⟩, hb⟩)
  · have hw := wix_le s
    have hc : wIx s = 0 ∨ wIx s = 1 ∨ wIx s = 2 ∨ wIx s = 3 ∨ wIx s = 4 ∨ wIx s = 5 := by omega
    rcases hc with h | h | h | h | h | h
    · rw [ix_w (by decide) h]; exact (qst9_any w).mono (by rintro e w' ⟨rfl, hb⟩; exact ⟨_, _, _, rfl, Or.inl ⟨_, _, _, _, rfl, rfl, rfl⟩, hb⟩)
    · rw [ix_w (by decide) h]; exact (qst10_any w).mono (by rintro e w' ⟨rfl, hb⟩; exact ⟨_, _, _, rfl, Or.inl ⟨_, _, _, _, rfl, rfl, rfl⟩, hb⟩)
    · rw [ix_w (by decide) h]; exact (qst11_any w).mono (by rintro e w' ⟨rfl, hb⟩; exact ⟨_, _, _, rfl, Or.inl ⟨_, _, _, _, rfl, rfl, rfl⟩, hb⟩)
    · rw [ix_w (by decide) h]; exact (qst12_any w).mono (by rintro e w' ⟨b, rfl, _, hb⟩; exact ⟨_, _, _, rfl, Or.inl ⟨_, _, _, _, rfl, rfl, rfl⟩, hb⟩)
    · rw [ix_w (by decide) h]; exact (qst13_any w).mono (by rintro e w' ⟨b, rfl, _, hb⟩; exact ⟨_, _, _, rfl, Or.inl ⟨_, _, _, _, rfl, rfl, rfl⟩, hb⟩)
    · exact (qst14_any s w h9 h).mono (by rintro e w' ⟨rfl, hb⟩; exact ⟨_, _, _, rfl, Or.inr ⟨rfl, rfl, rfl⟩, hb⟩)

set_option maxRecDepth 20000 in
set_option maxHeartbeats 2000000 in
theorem askX1 (s : ByteArray) (hi : Lib.indexByte s.data.toList 32 < 0) (w : World) (hg : Glb w) :
    Calls Tryz.prog 30 #[.string s] w fun e w' => ∃ v, e = .returned (.tuple #[.string ⟨#[]⟩, .iface 168 v]) ∧ Below w.heap.size w w' := by
  go_enter Tryz.func30, Tryz.ntmps30
  go_wp2_with fail
  refine (cut_no s _ hi).mono ?_
  rintro e w1 ⟨rfl, hb1⟩
  go_wp2_with fail
  refine (qst_any _ _).mono ?_
  rintro e w2 ⟨u, v, kb, rfl, hq, hb2⟩
  have hb12 := hb1.trans (hb2.mono hb1.size)
  rcases hq with ⟨g1, b1, g2, b2, rfl, rfl, rfl⟩ | ⟨rfl, rfl, rfl⟩
  · have hW := (Below.refl w2.heap.size w2).alloc (Nat.le_refl _) (.cells #[.func (.func g1) #[] b1, .func (.func g2) #[] b2] 75)
    have hb13 := hb12.trans (hW.mono hb12.size)
    obtain ⟨el, hel⟩ := (hg.later hb13).el
    go_wp2
    go_quiet (fail)
    go_wp2
    go_ret2
    exact ⟨_, rfl, drewN_below hb13 _⟩
  · have hW := (Below.refl w2.heap.size w2).alloc (Nat.le_refl _) (.cells #[.nilFunc, .nilFunc] 75)
    have hb13 := hb12.trans (hW.mono hb12.size)
    obtain ⟨el, hel⟩ := (hg.later hb13).el
    go_wp2
    go_quiet (fail)
    go_wp2
    go_ret2
    exact ⟨_, rfl, drewN_below hb13 _⟩

set_option maxRecDepth 20000 in
set_option maxHeartbeats 2000000 in
theorem askX2 (s : ByteArray) (a t : ByteArray) (hs : s.size ≤ 1048576) (hi : ∃ k, k < s.size ∧ Lib.indexByte s.data.toList 32 = ((k : Nat) : Int) ∧ a = s.extract 0 k ∧ t = s.extract (k + 1) s.size) (hsp : 0 ≤ Lib.indexByte t.data.toList 32) (w : World) (hg : Glb w) :
    Calls Tryz.prog 30 #[.string s] w fun e w' => ∃ v, e = .returned (.tuple #[.string ⟨#[]⟩, .iface 168 v]) ∧ Below w.heap.size w w' := by
  go_enter Tryz.func30, Tryz.ntmps30
  go_wp2_with fail
  refine (cut_yes s a t _ hs hi).mono ?_
  rintro e w1 ⟨rfl, hb1⟩
  go_wp2_with fail
  refine (qst_any _ _).mono ?_
  rintro e w2 ⟨u, v, kb, rfl, hq, hb2⟩
  have hb12 := hb1.trans (hb2.mono hb1.size)
  rcases hq with ⟨g1, b1, g2, b2, rfl, rfl, rfl⟩ | ⟨rfl, rfl, rfl⟩
  · have hW := (Below.refl w2.heap.size w2).alloc (Nat.le_refl _) (.cells #[.func (.func g1) #[] b1, .func (.func g2) #[] b2] 75)
    have hb13 := hb12.trans (hW.mono hb12.size)
    obtain ⟨el, hel⟩ := (hg.later hb13).el
    go_wp2_with fail
    refine (says_tob (hasSp_any t _) (decide_eq_true hsp)).mono ?_
    rintro e w3 ⟨rfl, hb3⟩
    have hb14 := hb13.trans (hb3.mono hb13.size)
    obtain ⟨el, hel⟩ := (hg.later hb14).el
    go_wp2
    go_quiet (fail)
    go_wp2
    go_ret2
    exact ⟨_, rfl, drewN_below hb14 _⟩
  · have hW := (Below.refl w2.heap.size w2).alloc (Nat.le_refl _) (.cells #[.nilFunc, .nilFunc] 75)
    have hb13 := hb12.trans (hW.mono hb12.size)
    obtain ⟨el, hel⟩ := (hg.later hb13).el
    go_wp2
    go_quiet (fail)
    go_wp2
    go_ret2
    exact ⟨_, rfl, drewN_below hb13 _⟩

set_option maxRecDepth 20000 in
set_option maxHeartbeats 2000000 in
theorem askX3 (s a t : ByteArray) (hs : s.size ≤ 1048576) (hi : ∃ k, k < s.size ∧ Lib.indexByte s.data.toList 32 = ((k : Nat) : Int) ∧ a = s.extract 0 k ∧ t = s.extract (k + 1) s.size) (h9 : ¬ ixOf a < 9) (h5 : wIx a = 5) (w : World) (hg : Glb w) :
    Calls Tryz.prog 30 #[.string s] w fun e w' => ∃ v, e = .returned (.tuple #[.string ⟨#[]⟩, .iface 168 v]) ∧ Below w.heap.size w w' := by
  have cQ := fun w => qst14_any a w h9 h5
  clear h9 h5
  go_enter Tryz.func30, Tryz.ntmps30
  go_wp2_with fail
  refine (cut_yes s a t _ hs hi).mono ?_
  rintro e w1 ⟨rfl, hb1⟩
  go_wp2_with fail
  refine (cQ _).mono ?_
  rintro e w2 ⟨rfl, hb2⟩
  have hb12 := hb1.trans (hb2.mono hb1.size)
  have hW := (Below.refl w2.heap.size w2).alloc (Nat.le_refl _) (.cells #[.nilFunc, .nilFunc] 75)
  have hb13 := hb12.trans (hW.mono hb12.size)
  obtain ⟨el, hel⟩ := (hg.later hb13).el
  go_wp2
  go_quiet (fail)
  go_wp2
  go_ret2
  exact ⟨_, rfl, drewN_below hb13 _⟩

set_option maxRecDepth 20000 in
set_option maxHeartbeats 2000000 in
theorem ans_nil (s V : ByteArray) (w : World) (h : Calls Tryz.prog 30 #[.string s] w fun e w' => e = .returned (.tuple #[.string V, .nilIface]) ∧ Below w.heap.size w w') :
    Calls Tryz.prog 22 #[.string s] w (Says w (.string V)) := by
  go_enter Tryz.func22, Tryz.ntmps22
  go_wp2_with fail
  refine h.mono ?_
  rintro e w1 ⟨rfl, hb1⟩
  have hW := (Below.refl w1.heap.size w1).alloc (Nat.le_refl _) (.cells #[.string ⟨#[]⟩] 58)
  have hb2 := hb1.trans (hW.mono hb1.size)
  go_wp2_with fail
  refine (as_nil _ _).mono ?_
  rintro e w3 ⟨rfl, rfl⟩
  go_wp2
  go_ret
  exact ⟨rfl, hb2⟩

set_option maxRecDepth 20000 in
set_option maxHeartbeats 2000000 in
theorem ans_wrong (s t : ByteArray) (w : World) (hg : Glb w) (h : Calls Tryz.prog 30 #[.string s] w fun e w' => e = .returned (.tuple #[.string ⟨#[]⟩, .iface 58 (.agg #[.string t])]) ∧ Below w.heap.size w w') :
    Calls Tryz.prog 22 #[.string s] w (Says w (.string bWrong)) := by
  go_enter Tryz.func22, Tryz.ntmps22
  go_wp2_with fail
  refine h.mono ?_
  rintro e w1 ⟨rfl, hb1⟩
  have hW := (Below.refl w1.heap.size w1).alloc (Nat.le_refl _) (.cells #[.string ⟨#[]⟩] 58)
  have hb2 := hb1.trans (hW.mono hb1.size)
  have hg2 := (hg.later hb2).ty
  go_wp2_with fail
  refine (as_hit t ⟨w1.heap.size, 0, none⟩ (.string ⟨#[]⟩) _ hg2 (by simp) (by simp)).mono ?_
  rintro e w3 ⟨rfl, hw3⟩
  have hb3 : Below w.heap.size w w3 := by
    rw [hw3]
    have hs := hb1.size
    have hs2 := hb2.size
    exact (((((hb2.alloc hs2 _).alloc (by simp only [World.size_alloc] at *; omega) _).alloc (by simp only [World.size_alloc] at *; omega) _).alloc (by simp only [World.size_alloc] at *; omega) _)).setCell hs _
  clear hw3
  go_wp2
  go_ret
  exact ⟨rfl, hb3⟩

set_option maxRecDepth 20000 in
set_option maxHeartbeats 2000000 in
theorem ans_what (s : ByteArray) (w : World) (hg : Glb w) (h : Calls Tryz.prog 30 #[.string s] w fun e w' => ∃ v, e = .returned (.tuple #[.string ⟨#[]⟩, .iface 168 v]) ∧ Below w.heap.size w w') :
    Calls Tryz.prog 22 #[.string s] w (Says w (.string bWhat)) := by
  go_enter Tryz.func22, Tryz.ntmps22
  go_wp2_with fail
  refine h.mono ?_
  rintro e w1 ⟨v, rfl, hb1⟩
  have hW := (Below.refl w1.heap.size w1).alloc (Nat.le_refl _) (.cells #[.string ⟨#[]⟩] 58)
  have hb2 := hb1.trans (hW.mono hb1.size)
  have hg2 := (hg.later hb2).ty
  go_wp2_with fail
  refine (as_miss v ⟨w1.heap.size, 0, none⟩ (.string ⟨#[]⟩) _ hg2 (by simp)).mono ?_
  rintro e w3 ⟨rfl, hw3⟩
  have hb3 : Below w.heap.size w w3 := by
    rw [hw3]
    have hs := hb1.size
    have hs2 := hb2.size
    exact (((hb2.alloc hs2 _).alloc (by simp only [World.size_alloc] at *; omega) _).alloc (by simp only [World.size_alloc] at *; omega) _)
  clear hw3
  go_wp2
  go_ret
  exact ⟨rfl, hb3⟩

/-- A line of a word, a space and a text without spaces. -/
theorem ans_one (s a t : ByteArray) (w : World) (hg : Glb w) (hs : s.size ≤ 1048576) (ht : t.size ≤ 1048576) (hi : ∃ k, k < s.size ∧ Lib.indexByte s.data.toList 32 = ((k : Nat) : Int) ∧ a = s.extract 0 k ∧ t = s.extract (k + 1) s.size) (hsp : Lib.indexByte t.data.toList 32 < 0) :
    Calls Tryz.prog 22 #[.string s] w (Says w (.string (ansKM (ixOf a) (wIx a) (prs t)))) := by
  by_cases h9 : ixOf a < 9
  · have hc : ixOf a = 0 ∨ ixOf a = 1 ∨ ixOf a = 2 ∨ ixOf a = 3 ∨ ixOf a = 4 ∨ ixOf a = 5 ∨ ixOf a = 6 ∨ ixOf a = 7 ∨ ixOf a = 8 := by omega
    by_cases hv : Valid (prs t)
    · rw [ansKM, if_pos h9, if_pos hv]
      rcases hc with h | h | h | h | h | h | h | h | h
      · rw [h]; obtain rfl := ix_inversions h; exact ans_nil s _ w (ask0Y s t w hs ht hi hsp (hid hv) hg.pw)
      · rw [h]; obtain rfl := ix_major h; exact ans_nil s _ w (ask1Y s t w hs ht hi hsp (hid hv) hg.pw)
      · rw [h]; obtain rfl := ix_denert h; exact ans_nil s _ w (ask2Y s t w hs ht hi hsp (hid hv) hg.pw)
      · rw [h]; obtain rfl := ix_crossings h; exact ans_nil s _ w (ask3Y s t w hs ht hi hsp (hid hv) hg.pw)
      · rw [h]; obtain rfl := ix_nestings h; exact ans_nil s _ w (ask4Y s t w hs ht hi hsp (hid hv) hg.pw)
      · rw [h]; obtain rfl := ix_descents h; exact ans_nil s _ w (ask5Y s t w hs ht hi hsp (hid hv) hg.pw)
      · rw [h]; obtain rfl := ix_above h; exact ans_nil s _ w (ask6Y s t w hs ht hi hsp (hid hv) hg.pw)
      · rw [h]; obtain rfl := ix_records h; exact ans_nil s _ w (ask7Y s t w hs ht hi hsp (hid hv) hg.pw)
      · rw [h]; obtain rfl := ix_circles h; exact ans_nil s _ w (ask8Y s t w hs ht hi hsp (hid hv) hg.pw)
    · rw [ansKM, if_pos h9, if_neg hv]
      rcases hc with h | h | h | h | h | h | h | h | h
      · obtain rfl := ix_inversions h; exact ans_wrong s t w hg (ask0N s t w hs ht hi hsp (hid hv))
      · obtain rfl := ix_major h; exact ans_wrong s t w hg (ask1N s t w hs ht hi hsp (hid hv))
      · obtain rfl := ix_denert h; exact ans_wrong s t w hg (ask2N s t w hs ht hi hsp (hid hv))
      · obtain rfl := ix_crossings h; exact ans_wrong s t w hg (ask3N s t w hs ht hi hsp (hid hv))
      · obtain rfl := ix_nestings h; exact ans_wrong s t w hg (ask4N s t w hs ht hi hsp (hid hv))
      · obtain rfl := ix_descents h; exact ans_wrong s t w hg (ask5N s t w hs ht hi hsp (hid hv))
      · obtain rfl := ix_above h; exact ans_wrong s t w hg (ask6N s t w hs ht hi hsp (hid hv))
      · obtain rfl := ix_records h; exact ans_wrong s t w hg (ask7N s t w hs ht hi hsp (hid hv))
      · obtain rfl := ix_circles h; exact ans_wrong s t w hg (ask8N s t w hs ht hi hsp (hid hv))
  · have hw := wix_le a
    have hc : wIx a = 0 ∨ wIx a = 1 ∨ wIx a = 2 ∨ wIx a = 3 ∨ wIx a = 4 ∨ wIx a = 5 := by omega
    rcases hc with h | h | h | h | h | h
    · by_cases hv : Valid (prs t)
      · rw [ansKM, if_neg h9, if_pos h, if_pos hv]
        obtain rfl := ix_w (by decide) h
        exact ans_nil s _ w (ask9Y s t w hs ht hi hsp (hid hv) hg.pw)
      · rw [ansKM, if_neg h9, if_pos h, if_neg hv]
        obtain rfl := ix_w (by decide) h
        exact ans_wrong s t w hg (ask9N s t w hs ht hi hsp (hid hv))
    · by_cases hv : Valid (prs t)
      · rw [ansKM, if_neg h9, if_neg (by omega), if_pos h, if_pos hv]
        obtain rfl := ix_w (by decide) h
        exact ans_nil s _ w (ask10Y s t w hs ht hi hsp (hid hv) hg.pw)
      · rw [ansKM, if_neg h9, if_neg (by omega), if_pos h, if_neg hv]
        obtain rfl := ix_w (by decide) h
        exact ans_wrong s t w hg (ask10N s t w hs ht hi hsp (hid hv))
    · by_cases hv : Valid (prs t)
      · rw [ansKM, if_neg h9, if_neg (by omega), if_neg (by omega), if_pos h, if_pos hv]
        obtain rfl := ix_w (by decide) h
        exact ans_nil s _ w (ask11Y s t w hs ht hi hsp (hid hv) hg.pw)
      · rw [ansKM, if_neg h9, if_neg (by omega), if_neg (by omega), if_pos h, if_neg hv]
        obtain rfl := ix_w (by decide) h
        exact ans_wrong s t w hg (ask11N s t w hs ht hi hsp (hid hv))
    · by_cases hv : okX (prs t) = true
      · rw [ansKM, if_neg h9, if_neg (by omega), if_neg (by omega), if_neg (by omega), if_pos h, if_pos hv]
        obtain rfl := ix_w (by decide) h
        exact ans_nil s _ w (ask12Y s t w hs ht hi hsp (hid hv) hg.pw)
      · rw [ansKM, if_neg h9, if_neg (by omega), if_neg (by omega), if_neg (by omega), if_pos h, if_neg hv]
        obtain rfl := ix_w (by decide) h
        exact ans_wrong s t w hg (ask12N s t w hs ht hi hsp (hid hv))
    · by_cases hv : okX (prs t) = true
      · rw [ansKM, if_neg h9, if_neg (by omega), if_neg (by omega), if_neg (by omega), if_neg (by omega), if_pos h, if_pos hv]
        obtain rfl := ix_w (by decide) h
        exact ans_nil s _ w (ask13Y s t w hs ht hi hsp (hid hv) hg.pw)
      · rw [ansKM, if_neg h9, if_neg (by omega), if_neg (by omega), if_neg (by omega), if_neg (by omega), if_pos h, if_neg hv]
        obtain rfl := ix_w (by decide) h
        exact ans_wrong s t w hg (ask13N s t w hs ht hi hsp (hid hv))
    · rw [ansKM, if_neg h9, if_neg (by omega), if_neg (by omega), if_neg (by omega), if_neg (by omega), if_neg (by omega)]
      exact ans_what s w hg (askX3 s a t hs hi h9 h w hg)

theorem ansI_any (s : ByteArray) (w : World) (hg : Glb w) (hs : s.size ≤ 1048576) :
    Calls Tryz.prog 22 #[.string s] w (Says w (.string (ansL s))) := by
  have hl : s.data.toList.length = s.size := by rw [Array.length_toList]; rfl
  by_cases h0 : Lib.indexByte s.data.toList 32 < 0
  · have e : ansL s = bWhat := by rw [ansL, sp_all _ (ix_none _ h0)]; rfl
    rw [e]
    exact ans_what s w hg (askX1 s h0 w hg)
  · obtain ⟨k, hk⟩ := Int.eq_ofNat_of_zero_le (a := Lib.indexByte s.data.toList 32) (by omega)
    obtain ⟨k1, k2, k3⟩ := ix_some _ k hk
    have hks : k < s.size := by omega
    obtain ⟨a, ha⟩ : ∃ a, a = s.extract 0 k := ⟨_, rfl⟩
    obtain ⟨t, ht⟩ : ∃ t, t = s.extract (k + 1) s.size := ⟨_, rfl⟩
    have ea : a.data.toList = s.data.toList.take k := by rw [ha, extract_toList, List.drop_zero]
    have et : t.data.toList = s.data.toList.drop (k + 1) := by rw [ht, extract_toList, ← hl, List.take_length]
    have hts : t.size ≤ 1048576 := by rw [ht, ByteArray.size_extract]; omega
    have esp : sp s.data.toList = a.data.toList :: sp t.data.toList := by
      rw [ea, et]
      conv => lhs; rw [k3]
      exact sp_cut _ _ k2
    by_cases h1 : Lib.indexByte t.data.toList 32 < 0
    · have e : ansL s = ansKM (ixOf a) (wIx a) (prs t) := by
        rw [ansL, esp, sp_all _ (ix_none _ h1)]
        show ansKM (ixOf (BA a.data.toList)) (wIx (BA a.data.toList)) (prs (BA t.data.toList)) = _
        rw [BA_of, BA_of]
      rw [e]
      exact ans_one s a t w hg hs hts ⟨k, hks, hk, ha, ht⟩ h1
    · obtain ⟨j, hj⟩ := Int.eq_ofNat_of_zero_le (a := Lib.indexByte t.data.toList 32) (by omega)
      obtain ⟨_, j2, j3⟩ := ix_some _ j hj
      have e : ansL s = bWhat := by
        rw [ansL, esp, j3, sp_cut _ _ j2]
        cases e2 : sp (t.data.toList.drop (j + 1)) with
        | nil => have := (sp_len (t.data.toList.drop (j + 1))).1; rw [e2] at this; simp at this
        | cons x r => rfl
      rw [e]
      exact ans_what s w hg (askX2 s a t hs ⟨k, hks, hk, ha, ht⟩ (by omega) w hg)

end Go.Proofs.YtaceiebmgnhdgaaGreatDoor
