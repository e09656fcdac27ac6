/- Lines of the desk: a text cut at spaces, numbers of two digits, lists of numbers as texts. No condition. -/
import Derived.Test.YtaceiebmgnhdgaaGreatDoorBnd
import Derived.Lib.ItoaNum
import Derived.Lib.Join
import Derived.Lib.Bytealg
namespace Go.Proofs.YtaceiebmgnhdgaaGreatDoor
open Go

/-- The parts of a text between spaces. -/
def sp : List UInt8 → List (List UInt8)
  | [] => [[]]
  | c :: l => if c = 32 then [] :: sp l else match sp l with | [] => [[c]] | h :: r => (c :: h) :: r
theorem sp_cut : ∀ a b : List UInt8, (∀ c ∈ a, c ≠ 32) → sp (a ++ 32 :: b) = a :: sp b
  | [], b, _ => by rw [List.nil_append, sp, if_pos rfl]
  | c :: a, b, h => by
    rw [List.cons_append, sp, if_neg (h c (List.mem_cons_self)), sp_cut a b (fun x hx => h x (List.mem_cons_of_mem _ hx))]
theorem sp_all : ∀ a : List UInt8, (∀ c ∈ a, c ≠ 32) → sp a = [a]
  | [], _ => rfl
  | c :: a, h => by
    rw [sp, if_neg (h c (List.mem_cons_self)), sp_all a (fun x hx => h x (List.mem_cons_of_mem _ hx))]
theorem sp_len : ∀ a : List UInt8, 1 ≤ (sp a).length ∧ (sp a).length ≤ a.length + 1
  | [] => ⟨Nat.le_refl _, Nat.le_refl _⟩
  | c :: a => by
    have h := sp_len a
    rw [sp]
    split
    · simp only [List.length_cons]; omega
    · cases e : sp a with
      | nil => rw [e] at h; simp at h
      | cons x r => rw [e] at h; simp only [List.length_cons] at h ⊢; omega
/-- The first space. -/
theorem ix_none : ∀ l : List UInt8, Lib.indexByte l 32 < 0 → ∀ c ∈ l, c ≠ 32
  | [], _ => fun c h => by cases h
  | c :: l, h => by
    rw [Lib.indexByte] at h
    split at h
    · omega
    · rename_i hc
      have hl : Lib.indexByte l 32 < 0 := by
        split at h
        · rename_i h1; simp at h1; omega
        · have := Lib.indexByte_ge l 32; omega
      intro x hx
      rcases List.mem_cons.1 hx with rfl | hx
      · simpa using hc
      · exact ix_none l hl x hx
theorem ix_some : ∀ (l : List UInt8) (k : Nat), Lib.indexByte l 32 = k → k < l.length ∧ (∀ c ∈ l.take k, c ≠ 32) ∧ l = l.take k ++ 32 :: l.drop (k + 1)
  | [], k, h => by rw [Lib.indexByte] at h; omega
  | c :: l, k, h => by
    rw [Lib.indexByte] at h
    split at h
    · rename_i hc
      obtain rfl : k = 0 := by omega
      simp at hc
      subst hc
      simp
    · rename_i hc
      split at h
      · omega
      · rename_i h1
        have := Lib.indexByte_ge l 32
        simp at h1
        obtain ⟨m, hm⟩ := Int.eq_ofNat_of_zero_le (a := Lib.indexByte l 32) (by omega)
        obtain rfl : k = m + 1 := by omega
        obtain ⟨a1, a2, a3⟩ := ix_some l m hm
        refine ⟨by simp only [List.length_cons]; omega, fun x hx => ?_, ?_⟩
        · rw [List.take_succ_cons] at hx
          rcases List.mem_cons.1 hx with rfl | hx
          · simpa using hc
          · exact a2 x hx
        · rw [List.take_succ_cons, List.drop_succ_cons, List.cons_append, ← a3]

theorem itoa_one {x : Nat} (h : x < 10) : Lib.itoa (x : Int) = [UInt8.ofNat (48 + x)] := by
  unfold Lib.itoa
  rw [if_neg (by omega), Int.toNat_natCast, Lib.decDigits, dif_pos h]
theorem itoa_two {x : Nat} (h1 : 10 ≤ x) (h : x < 100) : Lib.itoa (x : Int) = Lib.itoa ((x / 10 : Nat) : Int) ++ Lib.itoa ((x % 10 : Nat) : Int) := by
  rw [itoa_one (x := x / 10) (by omega), itoa_one (x := x % 10) (by omega)]
  unfold Lib.itoa
  rw [if_neg (by omega), Int.toNat_natCast, Lib.decDigits, dif_neg (by omega), Lib.decDigits, dif_pos (by omega)]
theorem itoa_len {x : Nat} (h : x < 100) : (Lib.itoa (x : Int)).length ≤ 2 := by
  by_cases h1 : x < 10
  · rw [itoa_one h1]; simp
  · rw [itoa_two (by omega) h, List.length_append, itoa_one (x := x / 10) (by omega), itoa_one (x := x % 10) (by omega)]; simp
theorem itoa_dgT {x : Nat} (h : x < 10) : Lib.itoa (x : Int) = dgT (x : Int) := by
  rw [itoa_one h]; unfold dgT; rw [if_neg (by omega), Int.toNat_natCast]

/-- Numbers in decimal, with a comma between two. -/
def lsL (xs : List Int) : List UInt8 := Lib.join (xs.map Lib.itoa) [44]
/-- The same as the model makes it. -/
def lsP : List Int → Nat → List UInt8
  | _, 0 => []
  | xs, k + 1 => lsP xs k ++ (if 0 < k then [44] else []) ++ Lib.itoa (el xs k)
theorem join_snoc (xs : List (List UInt8)) (y sep : List UInt8) : Lib.join (xs ++ [y]) sep = if xs = [] then y else Lib.join xs sep ++ sep ++ y := by
  cases xs with
  | nil => simp [Lib.join_one]
  | cons x r =>
    rw [if_neg (by simp), List.cons_append, Lib.join_cons, Lib.join_cons]
    simp [Lib.joinTail]
theorem lsP_eq (xs : List Int) : ∀ k, k ≤ xs.length → lsP xs k = lsL (xs.take k)
  | 0, _ => by simp [lsP, lsL, Lib.join_nil]
  | k + 1, h => by
    have e : xs.take (k + 1) = xs.take k ++ [el xs k] := by
      rw [List.take_add_one, List.getElem?_eq_getElem (by omega), el_lt (by omega)]; rfl
    rw [lsP, lsP_eq xs k (by omega), e]
    unfold lsL
    rw [List.map_append, List.map_cons, List.map_nil, join_snoc]
    by_cases h0 : k = 0
    · subst h0
      simp [Lib.join_nil]
    · have hn : ¬ (xs.take k).map Lib.itoa = [] := fun hn => by
        have := congrArg List.length hn
        simp only [List.length_map, List.length_take, List.length_nil] at this
        omega
      rw [if_pos (show 0 < k by omega), if_neg hn]
theorem lsP_len (xs : List Int) (hb : ∀ j, j < xs.length → 0 ≤ el xs j ∧ el xs j < 100) : ∀ k, k ≤ xs.length → (lsP xs k).length ≤ 3 * k
  | 0, _ => by simp [lsP]
  | k + 1, h => by
    have h1 := lsP_len xs hb k (by omega)
    have h2 := hb k (by omega)
    obtain ⟨m, hm⟩ := Int.eq_ofNat_of_zero_le h2.1
    have h3 := itoa_len (x := m) (by omega)
    rw [lsP, hm, List.length_append, List.length_append]
    split <;> simp only [List.length_cons, List.length_nil] <;> omega

theorem extract_toList (s : ByteArray) (f i : Nat) : (s.extract f i).data.toList = (s.data.toList.take i).drop f := by
  rw [ByteArray.data_extract, Array.toList_extract, List.extract_eq_take_drop]
  rw [List.drop_take]

end Go.Proofs.YtaceiebmgnhdgaaGreatDoor
