/- A slice of a block of any type that a call has made: an array that is handed out as a slice. No condition. -/
import Derived.Test.YtjphaphnmclbcaaWrd
import Derived.Test.YtjphaphnmclbcaaCopy
namespace Go.Proofs.Ytjphaphnmclbcaa
open Go.RowKit

/-- What a call has made: u is the slice of all of an array of type T, which holds ys, in a block from B on. -/
structure OwnT (T : Nat) (w : World) (B : Nat) (u : Value) (ys : List Int) : Prop where
  ex : ∃ g, u = .slice (some ⟨g, 0, none⟩) ys.length ys.length ∧ B ≤ g ∧ Arr w g T ys
  max : ys.length ≤ maxLen

theorem apart_bl {u1 u2 : Value} {n1 n2 B1 B2 : Nat} (h1 : ∀ k, u1.ownBlock = some k → B1 ≤ k ∧ k < n1) (h2 : ∀ k, u2.ownBlock = some k → B2 ≤ k ∧ k < n2) (hB : n1 ≤ B2) : u1.ownBlock = none ∨ u1.ownBlock ≠ u2.ownBlock := by
  cases e : u1.ownBlock with
  | none => exact Or.inl rfl
  | some k =>
    refine Or.inr (fun e2 => ?_)
    have := (h1 k e).2
    have := (h2 k e2.symm).1
    omega
theorem apart_bl' {u1 u2 : Value} {n1 n2 B1 B2 : Nat} (h1 : ∀ k, u1.ownBlock = some k → B1 ≤ k ∧ k < n1) (h2 : ∀ k, u2.ownBlock = some k → B2 ≤ k ∧ k < n2) (hB : n2 ≤ B1) : u1.ownBlock = none ∨ u1.ownBlock ≠ u2.ownBlock := by
  cases e : u1.ownBlock with
  | none => exact Or.inl rfl
  | some k =>
    refine Or.inr (fun e2 => ?_)
    have := (h1 k e).1
    have := (h2 k e2.symm).2
    omega

theorem OwnT.sl {T : Nat} {w : World} {B : Nat} {u : Value} {ys : List Int} (h : OwnT T w B u ys) : ∃ ao cap, u = .slice ao ys.length cap ∧ Sl w ao ys.length cap ys := by
  obtain ⟨g, rfl, _, ha⟩ := h.ex
  exact ⟨_, _, rfl, rfl, Nat.le_refl _, h.max, fun _ => ⟨g, 0, rfl, ha.lt, fun j hj => by rw [Nat.zero_add]; exact ha.cell hj⟩⟩
theorem OwnT.read {T : Nat} {w : World} {B : Nat} {ao : Option Addr} {n cap : Nat} {ys : List Int} (h : OwnT T w B (.slice ao n cap) ys) : Sl w ao n cap ys := by
  obtain ⟨ao', cap', e, hs⟩ := h.sl
  simp only [Value.slice.injEq] at e
  obtain ⟨rfl, rfl, rfl⟩ := e
  exact hs
theorem OwnT.blocks {T : Nat} {w : World} {B : Nat} {u : Value} {ys : List Int} (h : OwnT T w B u ys) : ∀ k, u.ownBlock = some k → B ≤ k ∧ k < w.heap.size := by
  obtain ⟨g, rfl, hB, ha⟩ := h.ex
  intro k hk
  have := Option.some.inj hk
  subst this
  exact ⟨hB, ha.lt⟩
theorem OwnT.below {T : Nat} {B B' : Nat} {w w' : World} {u : Value} {ys : List Int} (h : OwnT T w B u ys) (hB : w.heap.size ≤ B') (hb : Below B' w w') : OwnT T w' B u ys := by
  obtain ⟨g, e, hg, ha⟩ := h.ex
  exact ⟨⟨g, e, hg, ha.below (Nat.lt_of_lt_of_le ha.lt hB) hb⟩, h.max⟩
theorem OwnT.kept {T : Nat} {w w' : World} {B : Nat} {u : Value} {ys : List Int} {row : Option Nat} (h : OwnT T w B u ys) (hg : w.grownBy w' row) (hne : u.ownBlock = none ∨ u.ownBlock ≠ row) : OwnT T w' B u ys := by
  obtain ⟨g, rfl, hB, ha⟩ := h.ex
  refine ⟨⟨g, rfl, hB, (hg.block g ha.lt (fun e => ?_)).trans ha⟩, h.max⟩
  rcases hne with hne | hne
  · cases hne
  · exact hne e

/-- A call made such a slice of the numbers ys, and turned nothing that was there. -/
def MadeT (T : Nat) (w : World) (ys : List Int) (e : Ending) (w' : World) : Prop := ∃ u, e = .returned u ∧ OwnT T w' w.heap.size u ys ∧ Below w.heap.size w w'

set_option maxHeartbeats 400000 in
theorem markIntST_any (T : Nat) (u : Value) (B : Nat) (ys : List Int) (k : Int) (w : World) (h : OwnT T w B u ys) (hk0 : 0 ≤ k) (hk : k ≤ 4000000) (hn : ys.length ≤ 2000000) :
    Calls Try.prog 26 #[u, .int .i64 k] w fun e w' => e = .returned (.int .i64 (k + (ys.length : Nat))) ∧ OwnT T w' B u (marks k ys.length) ∧ w.grownBy w' u.ownBlock := by
  obtain ⟨g, rfl, hB, ha⟩ := h.ex
  have hmax := h.max
  obtain ⟨n, hnl⟩ : ∃ n, n = ys.length := ⟨_, rfl⟩
  rw [← hnl] at hn hmax ⊢
  have Hn := hid hnl
  clear hnl h
  go_enter Try.func26, Try.ntmps26
  go_wp2
  go_loopw [1, 5] (fun q i wr => ∃ (j : Nat) (zs : List Int), j ≤ n ∧ i = .int .i64 j ∧ q = .int .i64 (k + j) ∧ Arr wr g T zs ∧ Hid (zs.length = n) ∧ Hid (∀ t, t < j → el zs t = k + t) ∧ w.grownBy wr (some g))
    (fun _ i _ => n - (intOf i).toNat)
  case atStart => exact ⟨0, ys, Nat.zero_le _, rfl, by simp, ha, hid Hn.out.symm, fun t ht => by omega, World.grownBy.refl _ _⟩
  case round =>
    obtain ⟨j, zs, hj, rfl, rfl, hz, hzl, hm, hg⟩ := hrel
    by_cases hlt : j < n
    · have hfr := hz.frozen j
      have hcur := hz.cell (j := j) (by rw [hzl.out]; exact hlt)
      go_wp2
      go_roundw
      case rel =>
        exact ⟨j + 1, zs.set j (k + j), by omega, by go_num, by go_num, hz.set j _, hid (by rw [List.length_set]; exact hzl.out), fun t ht => by
          by_cases htj : t = j
          · rw [htj, el_set_same (by rw [hzl.out]; exact hlt)]
          · rw [el_set_ne (by omega)]; exact hm.out t (by omega), grown_trans hg grown_set⟩
      case measure => simp [intOf]; omega
    · obtain rfl : j = n := by omega
      go_wp2
      go_ret
      refine ⟨rfl, ?_, hg⟩
      have e : zs = marks k j := marks_ext hzl.out hm.out
      rw [← e]
      exact ⟨⟨g, by rw [hzl.out], hB, hz⟩, by rw [hzl.out]; exact hmax⟩

set_option maxHeartbeats 1000000 in
theorem contI_any (ao : Option Addr) (n cap : Nat) (xs : List Int) (w : World) (h : Sl w ao n cap xs) (Hv : Hid (VW xs)) :
    Calls Try.prog 29 #[.slice ao n cap] w (MadeT 63 w (cont xs)) := by
  have hbig := h.big
  have hlen := hid h.len
  have h7 : n ≤ 7 := by have := Hv.out.len; rw [hlen.out] at this; exact this
  go_enter Try.func29, Try.ntmps29
  go_wp2_with fail
  refine (says_tob (vwI_any _ _ _ xs _ h) (decide_eq_true Hv.out)).mono ?_
  rintro e w1 ⟨rfl, hb1⟩
  have hsz := hb1.size
  go_wp2
  go_loopw [11] (fun i wr => ∃ (k : Nat) (zs : List Int), k ≤ n ∧ i = .int .i64 k ∧ Below w.heap.size w wr ∧ Arr wr w1.heap.size 63 zs ∧ Hid (zs = ctP xs k))
    (fun i _ => n - (intOf i).toNat)
  case atStart => exact ⟨0, [0, 0, 0, 0], Nat.zero_le _, rfl, hb1.alloc hsz _, Arr.made w1 _ [0, 0, 0, 0], rfl⟩
  case round =>
    obtain ⟨k, zs, hk, rfl, hbr, hr, hz⟩ := hrel
    have hz4 : zs.length = 4 := by rw [hz.out, ctP_len]
    by_cases hlt : k < n
    · obtain ⟨b, off, rfl, hblt, hc⟩ := h.row (by omega)
      have hcell := (hbr.cell (p := ⟨b, off + k, none⟩) hblt).trans (hc k hlt)
      clear hc
      have hb := Hv.out.lo k (by rw [hlen.out]; exact hlt)
      have hb2 := Hv.out.hi k (by rw [hlen.out]; exact hlt)
      obtain ⟨v, hv⟩ := Int.eq_ofNat_of_zero_le hb
      have hv4 : v < 4 := by omega
      rw [hv] at hcell
      have Hve := hid hv
      have hbd := ctP_bd xs k v
      rw [← hz.out] at hbd
      have hz1 := hbd.1
      have hz2 : el zs v ≤ 7 := by have := hbd.2; omega
      have hfr := hr.frozen v
      have hcur := hr.cell (j := v) (by rw [hz4]; exact hv4)
      clear hv hb hb2 hbd hz4
      go_wp2
      go_roundw
      case rel =>
        refine ⟨k + 1, zs.set v (el zs v + 1), by omega, by go_num, hbr.setCell hsz _, hr.set v (el zs v + 1), ?_⟩
        show zs.set v _ = addAt _ _ _
        rw [addAt, ← hz.out, Hve.out]
        rfl
      case measure => simp [intOf]; omega
    · obtain rfl : k = n := by omega
      clear hz4
      go_wp2
      go_ret
      have e : zs = cont xs := by rw [cont, hlen.out, ← hz.out]
      subst e
      have hc4 : (cont xs).length = 4 := ctP_len _ _
      exact ⟨.slice (some ⟨w1.heap.size, 0, none⟩) 4 4, rfl, ⟨⟨w1.heap.size, by rw [hc4], hsz, hr⟩, by rw [hc4]; unfold maxLen; omega⟩, hbr⟩

set_option maxHeartbeats 1000000 in
theorem contI_no (ao : Option Addr) (n cap : Nat) (xs : List Int) (w : World) (h : Sl w ao n cap xs) (Hv : Hid (¬ VW xs)) :
    Calls Try.prog 29 #[.slice ao n cap] w (Made w []) := by
  go_enter Try.func29, Try.ntmps29
  go_wp2_with fail
  refine (says_tob (vwI_any _ _ _ xs _ h) (decide_eq_false Hv.out)).mono ?_
  rintro e w1 ⟨rfl, hb1⟩
  go_wp2
  go_ret
  exact ⟨_, rfl, Own.nil, hb1⟩

end Go.Proofs.Ytjphaphnmclbcaa
