/- A greater value put into an order, values taken out, and what values add to the major index. No condition. -/
import Derived.Test.YtjphaphnmclbcaaMirFo
import Derived.Test.YtjphaphnmclbcaaMirT
namespace Go.Proofs.Ytjphaphnmclbcaa

theorem cntP_ext {p q : Nat → Bool} : ∀ k, (∀ j, j < k → p j = q j) → cntP p k = cntP q k := by
  intro k
  induction k with
  | zero => intro _; rfl
  | succ k ih => intro h; rw [cntP, cntP, h k (by omega), ih (fun j hj => h j (by omega))]

/-- The number v at place k. -/
def ins (xs : List Int) (v : Int) (k : Nat) : List Int := xs.take k ++ [v] ++ xs.drop k
def insT (xs : List Int) (k : Nat) : List Int := ins xs (xs.length : Int) k
theorem ins_len (xs : List Int) (v : Int) {k : Nat} (hk : k ≤ xs.length) : (ins xs v k).length = xs.length + 1 := by
  simp [ins]; omega
theorem insT_len (xs : List Int) {k : Nat} (hk : k ≤ xs.length) : (insT xs k).length = xs.length + 1 := ins_len xs _ hk
theorem el_ins (xs : List Int) (v : Int) {k : Nat} (hk : k ≤ xs.length) : el (ins xs v k) k = v := by
  have : (xs.take k).length = k := by simp; omega
  rw [ins, el, List.append_assoc, List.getD_eq_getElem?_getD, List.getElem?_append_right (by omega), this, Nat.sub_self]
  rfl
theorem ins_perm (xs : List Int) (v : Int) (k : Nat) : (ins xs v k).Perm (v :: xs) := by
  rw [ins, List.append_assoc, List.singleton_append]
  exact List.perm_middle.trans (by rw [List.take_append_drop])
theorem insT_valid {xs : List Int} (h : Valid xs) (hl : xs.length < 7) {k : Nat} (hk : k ≤ xs.length) : Valid (insT xs k) := by
  have hp := ins_perm xs (xs.length : Int) k
  have hm : ∀ j, j < (insT xs k).length → 0 ≤ el (insT xs k) j ∧ el (insT xs k) j < (insT xs k).length := fun j hj => by
    have h1 := hp.subset (el_mem hj)
    rw [insT_len xs hk]
    rcases List.mem_cons.1 h1 with h2 | h2
    · rw [show el (insT xs k) j = (xs.length : Int) from h2]; omega
    · have h3 := h.mem h2
      have h4 : el (insT xs k) j = el (ins xs (xs.length : Int) k) j := rfl
      omega
  refine ⟨by rw [insT_len xs hk]; omega, fun j hj => (hm j hj).1, fun j hj => (hm j hj).2, fun i j hij hj => ?_⟩
  have hn : (insT xs k).Nodup := (hp.nodup_iff).2 (List.nodup_cons.2 ⟨fun e => by have := h.mem e; omega, h.nodup⟩)
  rw [List.nodup_iff_pairwise_ne, List.pairwise_iff_getElem] at hn
  have := hn i j (by omega) hj hij
  rwa [← el_lt, ← el_lt] at this

/-- Without the value at place k. -/
def rm (xs : List Int) (k : Nat) : List Int := xs.take k ++ xs.drop (k + 1)
def dn (v y : Int) : Int := if v < y then y - 1 else y
def rmv (xs : List Int) (k : Nat) : List Int := (rm xs k).map (dn (el xs k))
theorem rm_len (xs : List Int) {k : Nat} (hk : k < xs.length) : (rm xs k).length = xs.length - 1 := by simp [rm]; omega
theorem rmv_len (xs : List Int) {k : Nat} (hk : k < xs.length) : (rmv xs k).length = xs.length - 1 := by rw [rmv, List.length_map, rm_len xs hk]
theorem rm_split (xs : List Int) {k : Nat} (hk : k < xs.length) : xs = xs.take k ++ el xs k :: xs.drop (k + 1) := by
  rw [← drop_cons hk, List.take_append_drop]
theorem rm_perm (xs : List Int) {k : Nat} (hk : k < xs.length) : (el xs k :: rm xs k).Perm xs := by
  conv => rhs; rw [rm_split xs hk]
  exact List.perm_middle.symm
theorem rm_mem {xs : List Int} (h : Valid xs) {k : Nat} (hk : k < xs.length) : (rm xs k).Nodup ∧ ∀ y ∈ rm xs k, 0 ≤ y ∧ y < xs.length ∧ y ≠ el xs k := by
  have hn := ((rm_perm xs hk).nodup_iff).2 h.nodup
  rw [List.nodup_cons] at hn
  refine ⟨hn.2, fun y hy => ?_⟩
  have h1 := h.mem ((rm_perm xs hk).subset (List.mem_cons_of_mem _ hy))
  exact ⟨h1.1, h1.2, fun e => hn.1 (e ▸ hy)⟩
theorem el_val {xs : List Int} (h : Valid xs) {k : Nat} (hk : k < xs.length) : 0 ≤ el xs k ∧ el xs k < xs.length := ⟨h.lo k hk, h.hi k hk⟩
theorem rmv_valid {xs : List Int} (h : Valid xs) {k : Nat} (hk : k < xs.length) : Valid (rmv xs k) := by
  obtain ⟨hn, hm⟩ := rm_mem h hk
  have hv := el_val h hk
  have hl := h.len
  have he : ∀ j, j < (rmv xs k).length → el (rmv xs k) j = dn (el xs k) (el (rm xs k) j) ∧ el (rm xs k) j ∈ rm xs k := fun j hj => by
    have hj2 : j < (rm xs k).length := by rw [rmv, List.length_map] at hj; exact hj
    refine ⟨?_, el_mem hj2⟩
    rw [el_lt hj, el_lt hj2]; simp [rmv]
  refine ⟨by rw [rmv_len xs hk]; omega, fun j hj => ?_, fun j hj => ?_, fun i j hij hj => ?_⟩
  · obtain ⟨e, hy⟩ := he j hj
    have := hm _ hy
    rw [e, dn]; split <;> omega
  · obtain ⟨e, hy⟩ := he j hj
    have := hm _ hy
    rw [e, dn, rmv_len xs hk]; split <;> omega
  · obtain ⟨e, hy⟩ := he j hj
    obtain ⟨e2, hy2⟩ := he i (by omega)
    have h1 := hm _ hy
    have h2 := hm _ hy2
    have hj2 : j < (rm xs k).length := by rw [rmv, List.length_map] at hj; exact hj
    rw [List.nodup_iff_pairwise_ne, List.pairwise_iff_getElem] at hn
    have h3 := hn i j (by omega) hj2 hij
    rw [← el_lt (by omega), ← el_lt hj2] at h3
    rw [e, e2, dn, dn]
    split <;> split <;> omega

/-- For each number how many lesser ones, or equal ones ahead, there are. -/
def rkF (zs : List Int) (i k : Nat) : Bool := decide (el zs k < el zs i) || (decide (el zs k = el zs i) && decide (k < i))
def rkA (zs : List Int) : List Int := (List.range zs.length).map fun i => cntP (rkF zs i) zs.length
theorem cnt_rise (n : Nat) (y : Nat) (hy : y ≤ n) : (rise n).countP (fun z => decide (z < (y : Int))) = y := by
  induction n with
  | zero => obtain rfl : y = 0 := by omega
            rfl
  | succ n ih =>
    rw [rise_succ, List.countP_append, List.countP_singleton]
    by_cases e : y = n + 1
    · subst e
      rw [if_pos (by simp; omega)]
      have : (rise n).countP (fun z => decide (z < ((n + 1 : Nat) : Int))) = (rise n).length := by
        rw [List.countP_eq_length]
        intro z hz
        simp only [rise, List.mem_map, List.mem_range] at hz
        obtain ⟨a, ha, rfl⟩ := hz
        simp; omega
      rw [this, rise_len]
    · rw [ih (by omega), if_neg (by simp; omega)]; omega
theorem valid_cnt {xs : List Int} (h : Valid xs) {y : Nat} (hy : y ≤ xs.length) : xs.countP (fun z => decide (z < (y : Int))) = y := by
  rw [(valid_perm h).countP_eq, cnt_rise _ _ hy]
theorem rkA_rm {xs : List Int} (h : Valid xs) {k : Nat} (hk : k < xs.length) : rkA (rm xs k) = rmv xs k := by
  obtain ⟨hn, hm⟩ := rm_mem h hk
  refine ext_el (by rw [rkA, map_range_len, rmv, List.length_map]) (fun j hj => ?_)
  rw [rkA, map_range_len] at hj
  have hy := hm _ (el_mem hj)
  have e1 : el (rmv xs k) j = dn (el xs k) (el (rm xs k) j) := by
    rw [el_lt (by rw [rmv, List.length_map]; exact hj), el_lt hj]; simp [rmv]
  rw [rkA, el_map hj, e1]
  have e2 : cntP (rkF (rm xs k) j) (rm xs k).length = cntP (fun t => (fun z => decide (z < el (rm xs k) j)) (el (rm xs k) t)) (rm xs k).length := by
    refine cntP_ext _ (fun t ht => ?_)
    rw [rkF]
    by_cases e : t < j
    · rw [List.nodup_iff_pairwise_ne, List.pairwise_iff_getElem] at hn
      have h3 := hn t j (by omega) hj e
      rw [← el_lt (by omega), ← el_lt hj] at h3
      simp [h3]
    · simp [e]
  rw [e2, cntP_countP (rm xs k) (fun z => decide (z < el (rm xs k) j))]
  obtain ⟨y, hy2⟩ := Int.eq_ofNat_of_zero_le hy.1
  have hv := el_val h hk
  have e3 := (rm_perm xs hk).countP_eq (fun z => decide (z < (y : Int)))
  rw [valid_cnt h (by omega), List.countP_cons] at e3
  rw [hy2, dn]
  by_cases e4 : el xs k < (y : Int)
  · rw [if_pos (by simpa using e4)] at e3
    rw [if_pos e4]; omega
  · rw [if_neg (by simpa using e4)] at e3
    rw [if_neg e4]; omega

/-- The numbers below x. -/
def blw (xs : List Int) (x : Int) : List Int := xs.filter fun y => decide (y < x)
theorem blw_len (xs : List Int) (x : Int) : (blw xs x).length ≤ xs.length := List.length_filter_le _ _
theorem blw_take {xs : List Int} {k : Nat} (hk : k < xs.length) (x : Int) : blw (xs.take (k + 1)) x = blw (xs.take k) x ++ if el xs k < x then [el xs k] else [] := by
  rw [take_el hk, blw, List.filter_append, List.filter_cons, List.filter_nil]
  by_cases e : el xs k < x
  · simp [e, blw]
  · simp [e, blw]
theorem blw_all {xs : List Int} {x : Int} (h : ∀ y ∈ xs, y < x) : blw xs x = xs := by
  rw [blw, List.filter_eq_self]; intro y hy; simpa using h y hy
theorem blw_length {xs : List Int} (h : Valid xs) {x : Nat} (hx : x ≤ xs.length) : (blw xs x).length = x := by
  rw [blw, ← List.countP_eq_length_filter, valid_cnt h hx]
theorem blw_valid {xs : List Int} (h : Valid xs) {x : Nat} (hx : x ≤ xs.length) : Valid (blw xs x) := by
  have hl := blw_length h hx
  have hm : ∀ y ∈ blw xs (x : Int), 0 ≤ y ∧ y < x := fun y hy => by
    rw [blw, List.mem_filter] at hy
    have := h.mem hy.1
    have h2 := hy.2
    simp at h2; omega
  refine ⟨by rw [hl]; have := h.len; omega, fun j hj => (hm _ (el_mem hj)).1, fun j hj => by rw [hl]; exact (hm _ (el_mem hj)).2, fun i j hij hj => ?_⟩
  have hn : (blw xs (x : Int)).Nodup := h.nodup.filter _
  rw [List.nodup_iff_pairwise_ne, List.pairwise_iff_getElem] at hn
  have := hn i j (by omega) hj hij
  rwa [← el_lt, ← el_lt] at this
/-- What x adds: blw one more is the greater value put in somewhere. -/
theorem blw_ins {xs : List Int} (h : Valid xs) {x : Nat} (hx : x < xs.length) : ∃ k, k ≤ x ∧ blw xs ((x + 1 : Nat) : Int) = insT (blw xs x) k := by
  obtain ⟨p, hp, ep, _⟩ := inv_at h hx
  have hl := blw_length h (show x ≤ xs.length by omega)
  have hn := h.nodup
  rw [rm_split xs hp, ep] at hn
  have hm : ∀ y ∈ rm xs p, y ≠ (x : Int) := fun y hy => by have := ((rm_mem h hp).2 y hy).2.2; rwa [ep] at this
  have key : ∀ L : List Int, (∀ y ∈ L, y ≠ (x : Int)) → blw L ((x + 1 : Nat) : Int) = blw L x := fun L hL => by
    refine List.filter_congr (fun y hy => ?_)
    have := hL y hy
    rw [decide_eq_decide]; omega
  have h1 := key (xs.take p) (fun y hy => hm y (by rw [rm]; simp [hy]))
  have h2 := key (xs.drop (p + 1)) (fun y hy => hm y (by rw [rm]; simp [hy]))
  have e1 : blw xs (x : Int) = blw (xs.take p) x ++ blw (xs.drop (p + 1)) x := by
    conv => lhs; rw [rm_split xs hp, ep]
    rw [blw, List.filter_append, List.filter_cons, if_neg (by simp)]; rfl
  have e2 : blw xs ((x + 1 : Nat) : Int) = blw (xs.take p) x ++ [(x : Int)] ++ blw (xs.drop (p + 1)) x := by
    conv => lhs; rw [rm_split xs hp, ep]
    rw [← h1, ← h2, blw, List.filter_append, List.filter_cons, if_pos (by simp; omega)]; simp [blw]
  refine ⟨(blw (xs.take p) (x : Int)).length, ?_, ?_⟩
  · rw [e1, List.length_append] at hl; omega
  · rw [insT, hl, ins, e2, e1]
    congr 1
    · rw [List.take_left]
    · rw [List.drop_left]
theorem blw_insT {xs : List Int} {k x : Nat} (hx : x ≤ xs.length) : blw (insT xs k) x = blw xs x := by
  rw [insT, ins, blw, List.filter_append, List.filter_append, List.filter_cons, if_neg (by simp; omega), List.filter_nil, List.append_nil, ← List.filter_append, List.take_append_drop]; rfl

/-- What each value adds to the major index. -/
def mtv (xs : List Int) (x : Nat) : Int := major (blw xs ((x + 1 : Nat) : Int)) - major (blw xs x)
def mtab (xs : List Int) : List Int := (List.range xs.length).map (mtv xs)
theorem mtab_len (xs : List Int) : (mtab xs).length = xs.length := map_range_len _
theorem major_nil : major [] = 0 := rfl
theorem mtab_sum (xs : List Int) : ∀ k, k ≤ xs.length → sumTo (mtab xs) k = major (blw xs k) - major (blw xs 0) := by
  intro k
  induction k with
  | zero => intro _; simp [sumTo]
  | succ k ih =>
    intro hk
    rw [sumTo, ih (by omega), mtab, el_map (by omega), mtv]; omega
theorem mtab_total {xs : List Int} (h : Valid xs) : sumL (mtab xs) = major xs := by
  have e0 := blw_length h (Nat.zero_le _)
  rw [sumL, mtab_len, mtab_sum xs _ (Nat.le_refl _), show blw xs 0 = [] from List.eq_nil_of_length_eq_zero e0, blw_all (fun y hy => (h.mem hy).2), major_nil]; omega

end Go.Proofs.Ytjphaphnmclbcaa
