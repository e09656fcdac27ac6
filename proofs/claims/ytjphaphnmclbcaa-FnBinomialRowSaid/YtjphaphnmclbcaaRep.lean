/- slices.Repeat of one number 1, at most ten times; the rows of products, in the program and in its model. No condition. -/
import Derived.Test.YtjphaphnmclbcaaBng
import Derived.Laws.CopyOwn
import Derived.Deep.RegionLaw
namespace Go.Proofs.Ytjphaphnmclbcaa
open Go.RowKit

set_option maxHeartbeats 1000000 in
theorem mul64_any (k : Int) (w : World) (hk : k = 0 ∨ k = 1 ∨ k = 2 ∨ k = 3 ∨ k = 4 ∨ k = 5 ∨ k = 6 ∨ k = 7 ∨ k = 8 ∨ k = 9 ∨ k = 10) :
    Calls Try.prog 110 #[.int .u64 1, .int .u64 k] w fun e w' => e = .returned (.tuple #[.int .u64 0, .int .u64 k]) ∧ w' = w := by
  rcases hk with rfl | rfl | rfl | rfl | rfl | rfl | rfl | rfl | rfl | rfl | rfl
  all_goals go_enter Try.func110, Try.ntmps110
  all_goals go_wp2
  all_goals go_ret2
  all_goals exact ⟨rfl, rfl⟩

set_option maxHeartbeats 1000000 in
theorem mul_any (k : Int) (w : World) (hk : k = 0 ∨ k = 1 ∨ k = 2 ∨ k = 3 ∨ k = 4 ∨ k = 5 ∨ k = 6 ∨ k = 7 ∨ k = 8 ∨ k = 9 ∨ k = 10) :
    Calls Try.prog 101 #[.int .u64 1, .int .u64 k] w fun e w' => e = .returned (.tuple #[.int .u64 0, .int .u64 k]) ∧ w' = w := by
  have Hk := hid hk
  have hk0 : 0 ≤ k := by omega
  have hk7 : k ≤ 10 := by omega
  clear hk
  go_enter Try.func101, Try.ntmps101
  go_wp2_with fail
  refine (mul64_any _ _ Hk.out).mono ?_
  rintro e w' ⟨rfl, rfl⟩
  go_wp2
  go_ret2
  exact ⟨rfl, rfl⟩

theorem sizeI : (Try.prog.info? 3).map (·.size) = some 1 := by kernel_rfl
/-- n times 1 and then 0, k numbers. -/
def rep (n k : Nat) : List Int := List.replicate n 1 ++ List.replicate (k - n) 0
theorem splice_rep {n c k : Nat} (h : n + c ≤ k) : splice ((rep n k).map (Value.int .i64)) n ((List.replicate c (1 : Int)).map (Value.int .i64)) = (rep (n + c) k).map (Value.int .i64) := by
  have e1 : ((rep n k).map (Value.int .i64)).take n = (List.replicate n (1 : Int)).map (Value.int .i64) := by
    rw [← List.map_take, rep, List.take_append_of_le_length (by simp), List.take_of_length_le (by simp)]
  have e2 : ((rep n k).map (Value.int .i64)).drop (n + c) = (List.replicate (k - (n + c)) (0 : Int)).map (Value.int .i64) := by
    rw [← List.map_drop, rep, List.drop_append, List.drop_eq_nil_of_le (by simp), List.nil_append, List.length_replicate, List.drop_replicate]
    congr 2; omega
  rw [splice, e1, List.length_map, List.length_replicate, e2, ← List.map_append, ← List.map_append, rep, ← List.append_assoc, List.replicate_append_replicate]

theorem OwS.arr {w : World} {B g n : Nat} {ys : List Int} (h : OwS w B g n n ys) : Arr w g 3 ys := by
  have hl := h.len
  rcases h.2 with ⟨h1, _⟩ | ⟨g', cap', cur, hv, hB, hg, h1, h2, h3, h4⟩
  · simp at h1
  · simp only [Value.slice.injEq, Option.some.injEq, Addr.mk.injEq, and_true, true_and] at hv
    obtain ⟨rfl, rfl⟩ := hv
    rw [List.take_of_length_le (by rw [Array.length_toList, h3]; exact Nat.le_refl _)] at h4
    rw [Arr, ← h4]
    simpa using hg
theorem Arr.owS {w : World} {B g n : Nat} {ys : List Int} (h : Arr w g 3 ys) (hB : B ≤ g) (hl : ys.length = n) (hn : n ≤ 1000) : OwS w B g n n ys :=
  ⟨by simp [hl], Or.inr ⟨g, n, _, rfl, hB, h, Nat.le_refl _, by unfold maxLen; omega, by simp [hl], List.take_of_length_le (by simp [hl])⟩⟩

set_option maxHeartbeats 1000000 in
theorem repeat_any (ao : Option Addr) (cap k : Nat) (w : World) (h : Sl w ao 1 cap [1]) (hk1 : 1 ≤ k) (hk : k ≤ 10) :
    Calls Try.prog 89 #[.slice ao 1 cap, .int .i64 k] w (Made w (List.replicate k 1)) := by
  go_enter Try.func89, Try.ntmps89
  go_wp2_with fail
  refine (mul_any k w (by omega)).mono ?_
  rintro e w' ⟨rfl, rfl⟩
  have hs := h.len
  obtain ⟨b, off, rfl, hblt, hc⟩ := h.row (by omega)
  have hcell : w'.cell? ⟨b, off + 0, none⟩ = some (.int .i64 1) := hc 0 (by omega)
  rw [Nat.add_zero] at hcell
  clear hc
  go_wp2_with (at_make; refine make_ints _ rfl _ _ rfl _ _ k rfl rfl rfl rfl (by omega) ?_)
  intro w2 ho2 hb2
  have ha2 := ho2.arr
  have hc2 := (hb2.cell (p := ⟨b, off, none⟩) hblt).trans hcell
  have e0 : (List.replicate k (0 : Int)) = rep 0 k := by simp [rep]
  rw [e0] at ha2
  have Ha2 := hid ha2
  clear ha2 e0 hcell
  have hcn : ((List.replicate 1 (1 : Int)).map (Value.int .i64)).length = Nat.min 1 k := by have : Nat.min 1 k = min 1 k := rfl; simp; omega
  have hcp : 0 < ((List.replicate 1 (1 : Int)).map (Value.int .i64)).length → (some (⟨w'.heap.size, 0, none⟩ : Addr)) = some ⟨w'.heap.size, 0, none⟩ ∧ ∃ ad, (some (⟨b, off, none⟩ : Addr)) = some ad ∧ ∀ (j : Nat) (v : Value), ((List.replicate 1 (1 : Int)).map (Value.int .i64))[j]? = some v → w2.cell? (ad.add j) = some v :=
    fun _ => ⟨rfl, _, rfl, fun j v hj => by
      match j, hj with
      | 0, hj => simp at hj; subst hj; simpa [Addr.add] using hc2⟩
  have hcf : 0 + ((List.replicate 1 (1 : Int)).map (Value.int .i64)).length ≤ ((rep 0 k).map (Value.int .i64)).length := by simp [rep]; omega
  have hc1 : ∀ v ∈ ((List.replicate 1 (1 : Int)).map (Value.int .i64)), v.oneCell' = true := by intro v hv; simp at hv; subst hv; rfl
  have Hcn := hid hcn
  have Hcp := hid hcp
  have Hcf := hid hcf
  have Hc1 := hid hc1
  clear hcn hcp hcf hc1
  go_wp2_with (show wpList _ _ _ (Oper.mk (some 33) _ _ _ _ _ :: _) _ _; refine wpList_copy_splice rfl (.tmp 31) (.tmp 32) 23 23 rfl 3 Try.underlying23 sizeI _ _ _ _ _ _ rfl rfl w'.heap.size 0 ((rep 0 k).map (Value.int .i64)) 3 Ha2.out ((List.replicate 1 (1 : Int)).map (Value.int .i64)) Hcn.out Hcp.out Hcf.out Hc1.out w'.heap.size w' hb2 (Nat.le_refl _) ?_)
  intro w3 HG3 hb3
  have Ha3 : Hid (Arr w3 w'.heap.size 3 (rep 1 k)) := hid (by rw [Arr, ← splice_rep (n := 0) (c := 1) (k := k) (by omega)]; exact HG3.out)
  clear Ha2 HG3 hc2
  go_wp2
  go_loopw [8] (fun i wr => ∃ (n : Nat), 1 ≤ n ∧ n ≤ k ∧ i = .int .i64 n ∧ Below w'.heap.size w' wr ∧ Hid (Arr wr w'.heap.size 3 (rep n k)))
    (fun i _ => k - (intOf i).toNat)
  case atStart => exact ⟨1, Nat.le_refl _, hk1, rfl, hb3, Ha3⟩
  case round =>
    obtain ⟨n, hn1, hnk, rfl, hbr, Ha⟩ := hrel
    by_cases hlt : n < k
    · obtain ⟨c, hc, hc1, hck, hcn2⟩ : ∃ c, c = Nat.min n (k - n) ∧ 1 ≤ c ∧ n + c ≤ k ∧ c ≤ n := ⟨_, rfl, by have : Nat.min n (k - n) = min n (k - n) := rfl; omega, by have : Nat.min n (k - n) = min n (k - n) := rfl; omega, by have : Nat.min n (k - n) = min n (k - n) := rfl; omega⟩
      have Hc := hid hc
      have hi1 : (n : Int) < k := by omega
      have hkn : ¬ k = n := by omega
      have hcn : ((List.replicate c (1 : Int)).map (Value.int .i64)).length = Nat.min n (k - n) := by rw [List.length_map, List.length_replicate]; exact hc
      have hcp : 0 < ((List.replicate c (1 : Int)).map (Value.int .i64)).length → (some (⟨w'.heap.size, n, none⟩ : Addr)) = some ⟨w'.heap.size, n, none⟩ ∧ ∃ ad, (some (⟨w'.heap.size, 0, none⟩ : Addr)) = some ad ∧ ∀ (j : Nat) (v : Value), ((List.replicate c (1 : Int)).map (Value.int .i64))[j]? = some v → wr.drew.cell? (ad.add j) = some v :=
        fun _ => ⟨rfl, _, rfl, fun j v hj => by
          have hjc : j < c := by
            have := (List.getElem?_eq_some_iff.1 hj).1
            simpa using this
          rw [List.getElem?_map, List.getElem?_replicate, if_pos hjc] at hj
          obtain rfl := Option.some.inj hj
          have hcl := Ha.out.cell (j := j) (by simp [rep]; omega)
          have e1 : el (rep n k) j = 1 := by
            rw [rep, el, List.getD_eq_getElem?_getD, List.getElem?_append_left (by simp; omega), List.getElem?_replicate, if_pos (by omega)]
            rfl
          rw [e1] at hcl
          rw [Addr.add_lit, Nat.zero_add]
          exact hcl⟩
      have hcf : n + ((List.replicate c (1 : Int)).map (Value.int .i64)).length ≤ ((rep n k).map (Value.int .i64)).length := by simp [rep]; omega
      have hc1 : ∀ v ∈ ((List.replicate c (1 : Int)).map (Value.int .i64)), v.oneCell' = true := by
        intro v hv
        obtain ⟨x, _, rfl⟩ := List.mem_map.1 hv
        rfl
      have HaD : Hid (wr.drew.heap[w'.heap.size]? = some (.cells ((rep n k).map (Value.int .i64)).toArray 3 (0, 0))) := hid Ha.out
      have hbd : Below w'.heap.size w' wr.drew := hbr.drew
      have Hcn := hid hcn
      have Hcp := hid hcp
      have Hcf := hid hcf
      have Hc1 := hid hc1
      clear hc hcn hcp hcf hc1
      go_wp2_with fail
      go_region_law (refine step_copy_splice rfl (.tmp 41) (.tmp 44) 23 23 rfl 3 Try.underlying23 sizeI (some ⟨w'.heap.size, n, none⟩) (some ⟨w'.heap.size, 0, none⟩) (k - n) (k - n) n k (by go_simp) (by go_simp) w'.heap.size n ((rep n k).map (Value.int .i64)) 3 HaD.out ((List.replicate c (1 : Int)).map (Value.int .i64)) Hcn.out (fun hq => ⟨rfl, (Hcp.out hq).2⟩) Hcf.out Hc1.out w'.heap.size w' hbd (Nat.le_refl _) ?_
                     intro w4 HG4 hb4)
      have Ha4 : Hid (Arr w4 w'.heap.size 3 (rep (n + c) k)) := hid (by rw [Arr, ← splice_rep (n := n) (c := c) (k := k) hck]; exact HG4.out)
      clear HG4
      have hwn : IntKind.i64.wrap ((n : Int) + (c : Int)) = ((n + c : Nat) : Int) := by rw [IntWalk.i64_in _ ⟨by omega, by omega⟩]; simp
      go_simp
      go_roundw
      case rel =>
        refine ⟨_, _, _, _, _, _, _, _, _, _, _, _, _, _, ⟨n + c, by omega, hck, ?_, hb4, Ha4⟩, rfl⟩
        rw [Int.natCast_add]
      case measure => simp [intOf]; omega
    · obtain rfl : n = k := by omega
      go_wp2
      go_ret
      refine ⟨_, rfl, ?_, hbr⟩
      have e : rep n n = List.replicate n 1 := by simp [rep]
      rw [← e]
      exact (Ha.out.owS (Nat.le_refl _) (by simp [rep]) (by omega)).own

end Go.Proofs.Ytjphaphnmclbcaa
