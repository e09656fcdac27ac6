/- No operation of the kinds that the programs with channels use lists a mark that makes a goroutine deaf, asks the system, or stops otherwise than by a panic or for good. No condition. -/
import Derived.Test.YtjphaphnmclbcaaBnd
namespace Go.Proofs.Ytjphaphnmclbcaa
open Go Go.Conc

/-- It asks the system nothing, says nothing that makes deaf, and stops by a panic or for good alone. -/
def Tame {α : Type} : Sem α → Prop
  | .pure _ => True
  | .load _ _ k => ∀ v, Tame (k v)
  | .store _ _ _ k => Tame k
  | .new _ k => ∀ r, Tame (k r)
  | .shape _ k => ∀ s, Tame (k s)
  | .freeze _ _ k => Tame k
  | .frozen _ k => ∀ b, Tame (k b)
  | .getObj _ k => ∀ o, Tame (k o)
  | .setObj _ _ k => Tame k
  | .choose _ k => ∀ n, Tame (k n)
  | .sys c k => c = .env ∧ ∀ r, Tame (k r)
  | .program k => ∀ p, Tame (k p)
  | .mark m k => m ≠ .disable ∧ m ≠ .enable ∧ Tame k
  | .halt (.panic _) => True
  | .halt (.stuck _) => True
  | .halt (.unsupported _) => True
  | .halt _ => False

theorem tame_bind {α β : Type} {x : Sem α} {f : α → Sem β} (hx : Tame x) (hf : ∀ a, Tame (f a)) : Tame (x >>= f) := by
  show Tame (x.bind f)
  induction x with
  | pure a => exact hf a
  | load m a k ih => exact fun v => ih v (hx v)
  | store m a v k ih => exact ih hx
  | new o k ih => exact fun v => ih v (hx v)
  | shape r k ih => exact fun v => ih v (hx v)
  | freeze a n k ih => exact ih hx
  | frozen a k ih => exact fun v => ih v (hx v)
  | getObj r k ih => exact fun v => ih v (hx v)
  | setObj r o k ih => exact ih hx
  | choose q k ih => exact fun v => ih v (hx v)
  | sys c k ih => exact ⟨hx.1, fun r => ih r (hx.2 r)⟩
  | program k ih => exact fun v => ih v (hx v)
  | mark m k ih => exact ⟨hx.1, hx.2.1, ih hx.2.2⟩
  | halt h => cases h <;> first | exact trivial | exact hx.elim
theorem tame_map {α β : Type} {x : Sem α} {f : α → β} (hx : Tame x) : Tame (f <$> x) := tame_bind hx fun _ => trivial
theorem tame_ite {α : Type} {c : Prop} [Decidable c] {a b : Sem α} (ha : Tame a) (hb : Tame b) : Tame (if c then a else b) := by split <;> assumption
theorem tame_pure {α : Type} (a : α) : Tame (pure a : Sem α) := trivial
theorem tame_stuck {α : Type} (s : String) : Tame (stuck s : Sem α) := trivial
theorem tame_unsupported {α : Type} (u : Unsupported) : Tame (unsupported u : Sem α) := trivial
theorem tame_goPanic {α : Type} (v : Value) : Tame (goPanic v : Sem α) := trivial
theorem tame_program : Tame program := fun _ => trivial
theorem tame_load (a : Addr) (m : Mode) : Tame (load a m) := fun _ => trivial
theorem tame_store (a : Addr) (v : Value) (m : Mode) : Tame (store a v m) := trivial
theorem tame_newObj (o : Obj) : Tame (newObj o) := fun _ => trivial
theorem tame_shape (r : Nat) : Tame (shape r) := fun _ => trivial
theorem tame_frozen (a : Addr) : Tame (frozen a) := fun _ => trivial
theorem tame_freeze (a : Addr) (n : Nat) : Tame (freeze a n) := trivial
theorem tame_getObj (r : Nat) : Tame (getObj r) := fun _ => trivial
theorem tame_choose (q : Question) : Tame (choose q) := fun _ => trivial
theorem tame_env : Tame (sys .env) := ⟨rfl, fun _ => trivial⟩
theorem tame_forInL {α β : Type} (f : α → β → Sem (ForInStep β)) (hf : ∀ a b, Tame (f a b)) : ∀ (l : List α) (b : β), Tame (forIn l b f)
  | [], b => by rw [List.forIn_nil]; trivial
  | a :: l, b => by
    rw [List.forIn_cons]
    refine tame_bind (hf a b) fun r => ?_
    cases r with
    | done b => trivial
    | yield b => exact tame_forInL f hf l b
theorem tame_forInA {α β : Type} {f : α → β → Sem (ForInStep β)} (l : Array α) (b : β) (hf : ∀ a b, Tame (f a b)) : Tame (forIn l b f) := by
  rw [← Array.forIn_toList]; exact tame_forInL f hf _ _
theorem tame_forInR {β : Type} {f : Nat → β → Sem (ForInStep β)} (n : Nat) (b : β) (hf : ∀ a b, Tame (f a b)) : Tame (forIn [0:n] b f) := by
  rw [Std.Legacy.Range.forIn_eq_forIn_range']; exact tame_forInL f hf _ _
theorem tame_mapML {α β : Type} {f : α → Sem β} (hf : ∀ a, Tame (f a)) : ∀ (l : List α), Tame (l.mapM f)
  | [] => by rw [List.mapM_nil]; trivial
  | a :: l => by rw [List.mapM_cons]; exact tame_bind (hf a) fun _ => tame_bind (tame_mapML hf l) fun _ => trivial
theorem tame_mapMA {α β : Type} {f : α → Sem β} (l : Array α) (hf : ∀ a, Tame (f a)) : Tame (l.mapM f) := by
  rw [Array.mapM_eq_mapM_toList]
  exact tame_map (tame_mapML hf _)
theorem tame_noRoom : Tame (mark .noRoom) := ⟨by simp, by simp, trivial⟩
theorem tame_askRoom (b : Nat) : Tame (askRoom b) := by
  unfold askRoom
  repeat' (first
    | with_reducible exact tame_pure _
    | with_reducible refine tame_ite ?_ ?_
    | with_reducible exact tame_noRoom
    | split
    | intro _
    | dsimp only)

theorem tame_viewAt (r : Nat) : Tame (viewAt r) := by
  unfold viewAt
  repeat' (first
    | with_reducible refine tame_bind ?_ (fun _ => ?_)
    | with_reducible exact tame_pure _
    | with_reducible refine tame_ite ?_ ?_
    | with_reducible exact tame_shape _
    | with_reducible exact tame_getObj _
    | split
    | intro _
    | dsimp only)

theorem tame_numberAt (r : Nat) : Tame (numberAt r) := by
  unfold numberAt
  repeat' (first
    | with_reducible refine tame_bind ?_ (fun _ => ?_)
    | with_reducible exact tame_pure _
    | with_reducible refine tame_ite ?_ ?_
    | with_reducible exact tame_shape _
    | with_reducible exact tame_getObj _
    | split
    | intro _
    | dsimp only)

theorem tame_cellsIn (r : Nat) : Tame (cellsIn r) := by
  unfold cellsIn
  repeat' (first
    | with_reducible refine tame_bind ?_ (fun _ => ?_)
    | with_reducible exact tame_pure _
    | with_reducible exact tame_shape _
    | with_reducible exact tame_getObj _
    | split
    | intro _
    | dsimp only)

theorem tame_asNumber (a : Addr) (b : Bool) : Tame (asNumber a b) := by
  unfold asNumber
  repeat' (first
    | with_reducible refine tame_bind ?_ (fun _ => ?_)
    | with_reducible exact tame_pure _
    | with_reducible exact tame_newObj _
    | split
    | intro _
    | dsimp only)

theorem tame_behindNumber (a : Addr) : Tame (behindNumber a) := by
  unfold behindNumber
  repeat' (first
    | with_reducible refine tame_bind ?_ (fun _ => ?_)
    | with_reducible exact tame_pure _
    | with_reducible exact tame_numberAt _
    | split
    | intro _
    | dsimp only)

theorem tame_backFromNumber (a : Addr) : Tame (backFromNumber a) := by
  unfold backFromNumber
  repeat' (first
    | with_reducible exact tame_unsupported _
    | with_reducible refine tame_bind ?_ (fun _ => ?_)
    | with_reducible exact tame_pure _
    | with_reducible refine tame_ite ?_ ?_
    | with_reducible exact tame_behindNumber _
    | split
    | intro _
    | dsimp only)

theorem tame_noView (a : Addr) : Tame (noView a) := by
  unfold noView
  repeat' (first
    | with_reducible exact tame_unsupported _
    | with_reducible refine tame_bind ?_ (fun _ => ?_)
    | with_reducible exact tame_pure _
    | with_reducible refine tame_ite ?_ ?_
    | with_reducible exact tame_viewAt _
    | split
    | intro _
    | dsimp only)

theorem tame_markStringish (a : Addr) : Tame (markStringish a) := by
  unfold markStringish
  repeat' (first
    | with_reducible refine tame_bind ?_ (fun _ => ?_)
    | with_reducible exact tame_pure _
    | with_reducible exact tame_shape _
    | with_reducible exact tame_freeze _ _
    | split
    | intro _
    | dsimp only)

theorem tame_stringish (a : Addr) : Tame (stringish a) := by
  unfold stringish
  repeat' (first
    | with_reducible refine tame_bind ?_ (fun _ => ?_)
    | with_reducible exact tame_pure _
    | with_reducible refine tame_ite ?_ ?_
    | with_reducible exact tame_shape _
    | with_reducible exact tame_frozen _
    | split
    | intro _
    | dsimp only)

theorem tame_mayBeOne (a b : Addr) : Tame (mayBeOne a b) := by
  unfold mayBeOne
  repeat' (first
    | with_reducible refine tame_bind ?_ (fun _ => ?_)
    | with_reducible exact tame_pure _
    | with_reducible exact tame_shape _
    | with_reducible exact tame_stringish _
    | split
    | intro _
    | dsimp only)

theorem tame_sameAddr (a b : Addr) : Tame (sameAddr a b) := by
  unfold sameAddr
  repeat' (first
    | with_reducible exact tame_unsupported _
    | with_reducible refine tame_bind ?_ (fun _ => ?_)
    | with_reducible exact tame_pure _
    | with_reducible refine tame_ite ?_ ?_
    | with_reducible exact tame_frozen _
    | with_reducible exact tame_choose _
    | with_reducible exact tame_noView _
    | with_reducible exact tame_mayBeOne _ _
    | split
    | intro _
    | dsimp only)

theorem tame_samePointer (a b : Option Addr) : Tame (samePointer a b) := by
  unfold samePointer
  repeat' (first
    | with_reducible exact tame_pure _
    | with_reducible exact tame_sameAddr _ _
    | split
    | intro _
    | dsimp only)

theorem tame_typeInfo (t : TypeId) : Tame (typeInfo t) := by
  unfold typeInfo
  repeat' (first
    | with_reducible exact tame_stuck _
    | with_reducible refine tame_bind ?_ (fun _ => ?_)
    | with_reducible exact tame_pure _
    | with_reducible exact tame_program
    | split
    | intro _
    | dsimp only)

theorem tame_underlying (t : TypeId) : Tame (underlying t) := by
  unfold underlying
  repeat' (first
    | with_reducible exact tame_stuck _
    | with_reducible refine tame_bind ?_ (fun _ => ?_)
    | with_reducible exact tame_pure _
    | with_reducible exact tame_program
    | split
    | intro _
    | dsimp only)

theorem tame_typeStr (t : TypeId) : Tame (typeStr t) := by
  unfold typeStr
  repeat' (first
    | with_reducible exact tame_unsupported _
    | with_reducible refine tame_bind ?_ (fun _ => ?_)
    | with_reducible exact tame_pure _
    | with_reducible refine tame_ite ?_ ?_
    | with_reducible exact tame_typeInfo _
    | split
    | intro _
    | dsimp only)

theorem tame_zeroValue (t : TypeId) : Tame (zeroValue t) := by
  unfold zeroValue
  repeat' (first
    | with_reducible exact tame_unsupported _
    | with_reducible refine tame_bind ?_ (fun _ => ?_)
    | with_reducible exact tame_pure _
    | with_reducible exact tame_typeInfo _
    | split
    | intro _
    | dsimp only)

theorem tame_sizeOf (t : TypeId) : Tame (Go.sizeOf t) := by
  unfold Go.sizeOf
  repeat' (first
    | with_reducible refine tame_bind ?_ (fun _ => ?_)
    | with_reducible exact tame_pure _
    | with_reducible exact tame_typeInfo _
    | split
    | intro _
    | dsimp only)

theorem tame_isAgg (t : TypeId) : Tame (isAgg t) := by
  unfold isAgg
  repeat' (first
    | with_reducible refine tame_bind ?_ (fun _ => ?_)
    | with_reducible exact tame_pure _
    | with_reducible exact tame_underlying _
    | split
    | intro _
    | dsimp only)

theorem tame_loadCellsFrom (a : Addr) : ∀ (n i : Nat) (acc : Array Value), Tame (loadCellsFrom a i n acc)
  | 0, _, _ => trivial
  | n + 1, i, acc => by unfold loadCellsFrom; exact tame_bind (tame_load _ _) fun _ => tame_loadCellsFrom a n _ _

theorem tame_loadCells (a : Addr) (n : Nat) : Tame (loadCells a n) := tame_loadCellsFrom a n 0 #[]

theorem tame_storeCells (a : Addr) : ∀ (vs : List Value) (i : Nat), Tame (storeCells a vs i)
  | [], _ => by unfold storeCells; trivial
  | v :: vs, i => by unfold storeCells; exact tame_bind (tame_store _ _ _) fun _ => tame_storeCells a vs _

theorem tame_loadVar (t : TypeId) (a : Addr) : Tame (loadVar t a) := by
  unfold loadVar
  repeat' (first
    | with_reducible refine tame_bind ?_ (fun _ => ?_)
    | with_reducible exact tame_pure _
    | with_reducible refine tame_ite ?_ ?_
    | with_reducible exact tame_load _ _
    | with_reducible exact tame_sizeOf _
    | with_reducible exact tame_isAgg _
    | with_reducible exact tame_loadCells _ _
    | split
    | intro _
    | dsimp only)

theorem tame_storeVar (t : TypeId) (a : Addr) (v : Value) : Tame (storeVar t a v) := by
  unfold storeVar
  repeat' (first
    | with_reducible exact tame_stuck _
    | with_reducible refine tame_bind ?_ (fun _ => ?_)
    | with_reducible refine tame_ite ?_ ?_
    | with_reducible exact tame_sizeOf _
    | with_reducible exact tame_storeCells _ _ _
    | split
    | intro _
    | dsimp only)

theorem tame_newRow (t : TypeId) (c : Array Value) : Tame (newRow t c) := by
  unfold newRow
  repeat' (first
    | with_reducible refine tame_bind ?_ (fun _ => ?_)
    | with_reducible exact tame_pure _
    | with_reducible exact tame_newObj _
    | split
    | intro _
    | dsimp only)

theorem tame_newVar (t : TypeId) (v : Value) : Tame (newVar t v) := by
  unfold newVar
  repeat' (first
    | with_reducible exact tame_newRow _ _
    | split
    | intro _
    | dsimp only)

theorem tame_elemOf (t : TypeId) : Tame (elemOf t) := by
  unfold elemOf
  repeat' (first
    | with_reducible exact tame_stuck _
    | with_reducible refine tame_bind ?_ (fun _ => ?_)
    | with_reducible exact tame_pure _
    | with_reducible exact tame_underlying _
    | split
    | intro _
    | dsimp only)

theorem tame_part (t : TypeId) (c : Array Value) (o : Nat) : Tame (part t c o) := by
  unfold part
  repeat' (first
    | with_reducible exact tame_stuck _
    | with_reducible refine tame_bind ?_ (fun _ => ?_)
    | with_reducible exact tame_pure _
    | with_reducible refine tame_ite ?_ ?_
    | with_reducible exact tame_sizeOf _
    | with_reducible exact tame_isAgg _
    | split
    | intro _
    | dsimp only)

theorem tame_runtimePanic {α : Type} (e : RuntimeError) : Tame (runtimePanic e : Sem α) := by
  unfold runtimePanic
  repeat' (first
    | with_reducible refine tame_bind ?_ (fun _ => ?_)
    | with_reducible exact tame_program
    | with_reducible exact tame_goPanic _
    | with_reducible exact tame_newVar _ _
    | with_reducible exact tame_elemOf _
    | split
    | intro _
    | dsimp only)

theorem tame_boundsPanic {α : Type} (k : IntKind) (x y : Int) (c : BoundsCode) : Tame (boundsPanic k x y c : Sem α) := by
  unfold boundsPanic
  repeat' (first
    | with_reducible refine tame_bind ?_ (fun _ => ?_)
    | with_reducible exact tame_pure _
    | with_reducible refine tame_ite ?_ ?_
    | with_reducible exact tame_map (tame_choose _)
    | with_reducible exact tame_choose _
    | with_reducible exact tame_runtimePanic _
    | split
    | intro _
    | dsimp only)

theorem tame_asIntOf (v : Value) : Tame (asIntOf v) := by
  unfold asIntOf
  repeat' (first
    | with_reducible exact tame_stuck _
    | with_reducible exact tame_unsupported _
    | with_reducible exact tame_pure _
    | split
    | intro _
    | dsimp only)

theorem tame_asInt (v : Value) : Tame (asInt v) := by
  unfold asInt
  repeat' (first
    | with_reducible refine tame_bind ?_ (fun _ => ?_)
    | with_reducible exact tame_pure _
    | with_reducible exact tame_asIntOf _
    | split
    | intro _
    | dsimp only)

theorem tame_asBool (v : Value) : Tame (asBool v) := by
  unfold asBool
  repeat' (first
    | with_reducible exact tame_stuck _
    | with_reducible exact tame_pure _
    | split
    | intro _
    | dsimp only)

theorem tame_asString (v : Value) : Tame (asString v) := by
  unfold asString
  repeat' (first
    | with_reducible exact tame_stuck _
    | with_reducible exact tame_pure _
    | split
    | intro _
    | dsimp only)

theorem tame_asAgg (v : Value) : Tame (asAgg v) := by
  unfold asAgg
  repeat' (first
    | with_reducible exact tame_stuck _
    | with_reducible exact tame_pure _
    | split
    | intro _
    | dsimp only)

theorem tame_asAddr (v : Value) : Tame (asAddr v) := by
  unfold asAddr
  repeat' (first
    | with_reducible exact tame_stuck _
    | with_reducible exact tame_pure _
    | with_reducible exact tame_runtimePanic _
    | split
    | intro _
    | dsimp only)

theorem tame_alloc (t : TypeId) (b : Bool) (v : Value) : Tame (Instr.alloc t b v) := by
  unfold Instr.alloc
  repeat' (first
    | with_reducible refine tame_bind ?_ (fun _ => ?_)
    | with_reducible exact tame_pure _
    | with_reducible exact tame_zeroValue _
    | with_reducible exact tame_storeVar _ _ _
    | with_reducible exact tame_newVar _ _
    | split
    | intro _
    | dsimp only)

theorem tame_sureAddr (v : Value) : Tame (Instr.sureAddr v) := by
  unfold Instr.sureAddr
  repeat' (first
    | with_reducible exact tame_stuck _
    | with_reducible exact tame_pure _
    | split
    | intro _
    | dsimp only)

theorem tame_loadAt (t : TypeId) (v : Value) : Tame (Instr.loadAt t v) := by
  unfold Instr.loadAt
  repeat' (first
    | with_reducible refine tame_bind ?_ (fun _ => ?_)
    | with_reducible exact tame_loadVar _ _
    | with_reducible exact tame_sureAddr _
    | split
    | intro _
    | dsimp only)

theorem tame_storeAt (t : TypeId) (a v : Value) : Tame (Instr.storeAt t a v) := by
  unfold Instr.storeAt
  repeat' (first
    | with_reducible refine tame_bind ?_ (fun _ => ?_)
    | with_reducible exact tame_storeVar _ _ _
    | with_reducible exact tame_sureAddr _
    | split
    | intro _
    | dsimp only)

theorem tame_box (t : TypeId) (v : Value) : Tame (Instr.box t v) := by
  unfold Instr.box
  repeat' (first
    | with_reducible refine tame_bind ?_ (fun _ => ?_)
    | with_reducible exact tame_pure _
    | with_reducible exact tame_newVar _ _
    | split
    | intro _
    | dsimp only)

theorem tame_buildSlice (t : TypeId) (n : Nat) (ps : Array (Nat × Value)) : Tame (Instr.buildSlice t n ps) := by
  unfold Instr.buildSlice
  repeat' (first
    | with_reducible exact tame_stuck _
    | with_reducible exact tame_unsupported _
    | with_reducible refine tame_bind ?_ (fun _ => ?_)
    | with_reducible exact tame_pure _
    | with_reducible refine tame_ite ?_ ?_
    | with_reducible exact tame_underlying _
    | with_reducible exact tame_zeroValue _
    | with_reducible exact tame_sizeOf _
    | with_reducible exact tame_newRow _ _
    | split
    | intro _
    | dsimp only)

theorem tame_makeInterface (t : TypeId) (v : Value) : Tame (Instr.makeInterface t v) := by
  unfold Instr.makeInterface
  repeat' (first
    | with_reducible exact tame_stuck _
    | with_reducible refine tame_bind ?_ (fun _ => ?_)
    | with_reducible exact tame_pure _
    | with_reducible exact tame_underlying _
    | split
    | intro _
    | dsimp only)

theorem tame_makeSlice (t : TypeId) (a b : Value) : Tame (Instr.makeSlice t a b) := by
  unfold Instr.makeSlice
  repeat' (first
    | with_reducible exact tame_stuck _
    | with_reducible refine tame_bind ?_ (fun _ => ?_)
    | with_reducible exact tame_pure _
    | with_reducible refine tame_ite ?_ ?_
    | with_reducible exact tame_choose _
    | with_reducible exact tame_askRoom _
    | with_reducible exact tame_typeInfo _
    | with_reducible exact tame_underlying _
    | with_reducible exact tame_zeroValue _
    | with_reducible exact tame_sizeOf _
    | with_reducible exact tame_newRow _ _
    | with_reducible exact tame_runtimePanic _
    | with_reducible exact tame_asInt _
    | split
    | intro _
    | dsimp only)

theorem tame_sliceBound (x : Value) (y : Nat) (c : BoundsCode) : Tame (Instr.sliceBound x y c) := by
  unfold Instr.sliceBound
  repeat' (first
    | with_reducible refine tame_bind ?_ (fun _ => ?_)
    | with_reducible exact tame_pure _
    | with_reducible refine tame_ite ?_ ?_
    | with_reducible exact tame_boundsPanic _ _ _ _
    | with_reducible exact tame_asIntOf _
    | split
    | intro _
    | dsimp only)

theorem tame_sliceBounds (b : Bool) (x y : Nat) (l h m : Option Value) : Tame (Instr.sliceBounds b x y l h m) := by
  unfold Instr.sliceBounds
  repeat' (first
    | with_reducible exact tame_stuck _
    | with_reducible refine tame_bind ?_ (fun _ => ?_)
    | with_reducible exact tame_pure _
    | with_reducible exact tame_sliceBound _ _ _
    | split
    | intro _
    | dsimp only)

theorem tame_slice (t : TypeId) (x : Value) (l h m : Option Value) : Tame (Instr.slice t x l h m) := by
  unfold Instr.slice
  repeat' (first
    | with_reducible exact tame_stuck _
    | with_reducible refine tame_bind ?_ (fun _ => ?_)
    | with_reducible exact tame_pure _
    | with_reducible refine tame_ite ?_ ?_
    | with_reducible exact tame_underlying _
    | with_reducible exact tame_sizeOf _
    | with_reducible exact tame_asAddr _
    | with_reducible exact tame_sliceBounds _ _ _ _ _ _
    | split
    | intro _
    | dsimp only)

theorem tame_sliceAt (t : TypeId) (x : Value) (l h m : Option Value) : Tame (Instr.sliceAt t x l h m) := by
  unfold Instr.sliceAt
  repeat' (first
    | with_reducible refine tame_bind ?_ (fun _ => ?_)
    | with_reducible exact tame_pure _
    | with_reducible exact tame_underlying _
    | with_reducible exact tame_sizeOf _
    | with_reducible exact tame_sureAddr _
    | with_reducible exact tame_sliceBounds _ _ _ _ _ _
    | with_reducible exact tame_slice _ _ _ _ _
    | split
    | intro _
    | dsimp only)

theorem tame_indexAt (t : TypeId) (x i : Value) : Tame (Instr.indexAt t x i) := by
  unfold Instr.indexAt
  repeat' (first
    | with_reducible exact tame_stuck _
    | with_reducible exact tame_unsupported _
    | with_reducible refine tame_bind ?_ (fun _ => ?_)
    | with_reducible exact tame_pure _
    | with_reducible refine tame_ite ?_ ?_
    | with_reducible exact tame_underlying _
    | with_reducible exact tame_sizeOf _
    | with_reducible exact tame_boundsPanic _ _ _ _
    | with_reducible exact tame_asIntOf _
    | with_reducible exact tame_sureAddr _
    | split
    | intro _
    | dsimp only)

theorem tame_arrayAt (t : TypeId) (x : Value) : Tame (Instr.arrayAt t x) := by
  unfold Instr.arrayAt
  repeat' (first
    | with_reducible exact tame_stuck _
    | with_reducible refine tame_bind ?_ (fun _ => ?_)
    | with_reducible exact tame_pure _
    | with_reducible refine tame_ite ?_ ?_
    | with_reducible exact tame_underlying _
    | with_reducible exact tame_runtimePanic _
    | split
    | intro _
    | dsimp only)

theorem tame_field (t : TypeId) (x : Value) (f : Nat) : Tame (Instr.field t x f) := by
  unfold Instr.field
  repeat' (first
    | with_reducible exact tame_stuck _
    | with_reducible refine tame_bind ?_ (fun _ => ?_)
    | with_reducible exact tame_underlying _
    | with_reducible exact tame_part _ _ _
    | with_reducible exact tame_asAgg _
    | split
    | intro _
    | dsimp only)

theorem tame_index (t : TypeId) (x i : Value) : Tame (Instr.index t x i) := by
  unfold Instr.index
  repeat' (first
    | with_reducible exact tame_stuck _
    | with_reducible refine tame_bind ?_ (fun _ => ?_)
    | with_reducible exact tame_pure _
    | with_reducible refine tame_ite ?_ ?_
    | with_reducible exact tame_underlying _
    | with_reducible exact tame_sizeOf _
    | with_reducible exact tame_part _ _ _
    | with_reducible exact tame_boundsPanic _ _ _ _
    | with_reducible exact tame_asIntOf _
    | split
    | intro _
    | dsimp only)

theorem tame_extract (x : Value) (i : Nat) : Tame (Instr.extract x i) := by
  unfold Instr.extract
  repeat' (first
    | with_reducible exact tame_stuck _
    | with_reducible exact tame_pure _
    | split
    | intro _
    | dsimp only)

theorem tame_holdsCells (a : Addr) (n : Nat) : Tame (Builtin.holdsCells a n) := by
  unfold Builtin.holdsCells
  repeat' (first
    | with_reducible refine tame_bind ?_ (fun _ => ?_)
    | with_reducible exact tame_pure _
    | with_reducible exact tame_shape _
    | split
    | intro _
    | dsimp only)

theorem tame_mayShare (a b c : Nat) (o : Option Addr) (x : Value) : Tame (Builtin.mayShare a b c o x) := by
  unfold Builtin.mayShare
  repeat' (first
    | with_reducible refine tame_bind ?_ (fun _ => ?_)
    | with_reducible exact tame_pure _
    | with_reducible refine tame_ite ?_ ?_
    | with_reducible exact tame_frozen _
    | with_reducible exact tame_holdsCells _ _
    | split
    | intro _
    | dsimp only)

theorem tame_lenOf (v : Value) : Tame (Builtin.lenOf v) := by
  unfold Builtin.lenOf
  repeat' (first
    | with_reducible exact tame_stuck _
    | with_reducible exact tame_pure _
    | split
    | intro _
    | dsimp only)

theorem tame_firstCells (a b : Nat) (v : Value) : Tame (Builtin.firstCells a b v) := by
  unfold Builtin.firstCells
  repeat' (first
    | with_reducible exact tame_stuck _
    | with_reducible exact tame_pure _
    | with_reducible exact tame_loadCells _ _
    | split
    | intro _
    | dsimp only)

theorem tame_append (ts : Array TypeId) (t : TypeId) (avs : Array Value) : Tame (Builtin.append_ ts t avs) := by
  unfold Builtin.append_
  repeat' (first
    | with_reducible exact tame_stuck _
    | with_reducible exact tame_unsupported _
    | with_reducible refine tame_bind ?_ (fun _ => ?_)
    | with_reducible exact tame_pure _
    | with_reducible refine tame_ite ?_ ?_
    | with_reducible exact tame_choose _
    | with_reducible exact tame_noRoom
    | with_reducible exact tame_askRoom _
    | with_reducible exact tame_typeInfo _
    | with_reducible exact tame_underlying _
    | with_reducible exact tame_zeroValue _
    | with_reducible exact tame_sizeOf _
    | with_reducible exact tame_storeCells _ _ _
    | with_reducible exact tame_newRow _ _
    | with_reducible exact tame_runtimePanic _
    | with_reducible exact tame_asInt _
    | with_reducible exact tame_mayShare _ _ _ _ _
    | with_reducible exact tame_lenOf _
    | with_reducible exact tame_firstCells _ _ _
    | split
    | intro _
    | dsimp only)

theorem tame_len (ts : Array TypeId) (t : TypeId) (avs : Array Value) : Tame (Builtin.len_ ts t avs) := by
  unfold Builtin.len_
  repeat' (first
    | with_reducible exact tame_stuck _
    | with_reducible refine tame_bind ?_ (fun _ => ?_)
    | with_reducible exact tame_pure _
    | with_reducible exact tame_getObj _
    | with_reducible exact tame_underlying _
    | split
    | intro _
    | dsimp only)

theorem tame_cap (ts : Array TypeId) (t : TypeId) (avs : Array Value) : Tame (Builtin.cap_ ts t avs) := by
  unfold Builtin.cap_
  repeat' (first
    | with_reducible exact tame_stuck _
    | with_reducible refine tame_bind ?_ (fun _ => ?_)
    | with_reducible exact tame_pure _
    | with_reducible exact tame_getObj _
    | with_reducible exact tame_underlying _
    | split
    | intro _
    | dsimp only)

theorem tame_copy (ts : Array TypeId) (t : TypeId) (avs : Array Value) : Tame (Builtin.copy_ ts t avs) := by
  unfold Builtin.copy_
  repeat' (first
    | with_reducible exact tame_stuck _
    | with_reducible refine tame_bind ?_ (fun _ => ?_)
    | with_reducible exact tame_pure _
    | with_reducible exact tame_underlying _
    | with_reducible exact tame_sizeOf _
    | with_reducible exact tame_storeCells _ _ _
    | with_reducible exact tame_lenOf _
    | with_reducible exact tame_firstCells _ _ _
    | split
    | intro _
    | dsimp only)

theorem tame_unsafeAdd (ts : Array TypeId) (t : TypeId) (x y : Value) : Tame (Builtin.unsafeAdd_ ts t #[x, y]) := by
  cases x
  case pointer ptr =>
    refine tame_bind (tame_asInt y) fun n => ?_
    repeat' (first
      | with_reducible exact tame_unsupported _
      | with_reducible refine tame_bind ?_ (fun _ => ?_)
      | with_reducible exact tame_pure _
      | with_reducible refine tame_ite ?_ ?_
      | with_reducible exact tame_program
      | with_reducible exact tame_shape _
      | with_reducible exact tame_viewAt _
      | with_reducible exact tame_asInt _
      | split
      | intro _
      | dsimp only)
  all_goals exact trivial

theorem tame_byteOf (a : Addr) : Tame (byteOf a) := by
  unfold byteOf
  repeat' (first
    | with_reducible exact tame_stuck _
    | with_reducible refine tame_bind ?_ (fun _ => ?_)
    | with_reducible exact tame_pure _
    | with_reducible refine tame_ite ?_ ?_
    | with_reducible exact tame_program
    | with_reducible exact tame_shape _
    | with_reducible exact tame_noView _
    | split
    | intro _
    | dsimp only)

theorem tame_twoPlaces (a b : Addr) : Tame (Op.twoPlaces a b) := by
  unfold Op.twoPlaces
  repeat' (first
    | with_reducible exact tame_unsupported _
    | with_reducible refine tame_bind ?_ (fun _ => ?_)
    | with_reducible exact tame_pure _
    | with_reducible refine tame_ite ?_ ?_
    | with_reducible exact tame_program
    | with_reducible exact tame_byteOf _
    | split
    | intro _
    | dsimp only)

theorem tame_addrSub (k : IntKind) (a b : Addr) : Tame (Op.addrSub k a b) := by
  unfold Op.addrSub
  repeat' (first
    | with_reducible refine tame_bind ?_ (fun _ => ?_)
    | with_reducible exact tame_pure _
    | with_reducible exact tame_twoPlaces _ _
    | split
    | intro _
    | dsimp only)

theorem tame_addrCmp (o : BinOp) (a b : Addr) : Tame (Op.addrCmp o a b) := by
  unfold Op.addrCmp
  repeat' (first
    | with_reducible exact tame_unsupported _
    | with_reducible refine tame_bind ?_ (fun _ => ?_)
    | with_reducible exact tame_pure _
    | with_reducible exact tame_twoPlaces _ _
    | split
    | intro _
    | dsimp only)

theorem tame_addrMod (k : IntKind) (a : Addr) (n : Int) : Tame (Op.addrMod k a n) := by
  unfold Op.addrMod
  repeat' (first
    | with_reducible exact tame_unsupported _
    | with_reducible refine tame_bind ?_ (fun _ => ?_)
    | with_reducible exact tame_pure _
    | with_reducible refine tame_ite ?_ ?_
    | with_reducible exact tame_shape _
    | with_reducible exact tame_typeInfo _
    | with_reducible exact tame_byteOf _
    | split
    | intro _
    | dsimp only)

theorem tame_intArith (o : BinOp) (k : IntKind) (x y : Int) : Tame (Op.intArith o k x y) := by
  unfold Op.intArith
  repeat' (first
    | with_reducible exact tame_stuck _
    | with_reducible exact tame_pure _
    | split
    | intro _
    | dsimp only)

theorem tame_intDiv (o : BinOp) (k : IntKind) (x y : Int) : Tame (Op.intDiv o k x y) := by
  unfold Op.intDiv
  repeat' (first
    | with_reducible exact tame_stuck _
    | with_reducible exact tame_pure _
    | with_reducible refine tame_ite ?_ ?_
    | with_reducible exact tame_runtimePanic _
    | split
    | intro _
    | dsimp only)

theorem tame_intBits (o : BinOp) (k : IntKind) (x y : Int) : Tame (Op.intBits o k x y) := by
  unfold Op.intBits
  repeat' (first
    | with_reducible exact tame_stuck _
    | with_reducible exact tame_pure _
    | split
    | intro _
    | dsimp only)

theorem tame_shift (o : BinOp) (k : IntKind) (x : Int) (j : IntKind) (y : Int) : Tame (Op.shift o k x j y) := by
  unfold Op.shift
  repeat' (first
    | with_reducible exact tame_stuck _
    | with_reducible exact tame_pure _
    | with_reducible refine tame_ite ?_ ?_
    | with_reducible exact tame_runtimePanic _
    | split
    | intro _
    | dsimp only)

theorem tame_intCmp (o : BinOp) (x y : Int) : Tame (Op.intCmp o x y) := by
  unfold Op.intCmp
  repeat' (first
    | with_reducible exact tame_stuck _
    | with_reducible exact tame_pure _
    | split
    | intro _
    | dsimp only)

theorem tame_floatArith (o : BinOp) (k : FloatKind) (x y : Nat) : Tame (Op.floatArith o k x y) := by
  unfold Op.floatArith
  repeat' (first
    | with_reducible exact tame_stuck _
    | with_reducible refine tame_bind ?_ (fun _ => ?_)
    | with_reducible exact tame_pure _
    | with_reducible exact tame_choose _
    | split
    | intro _
    | dsimp only)

theorem tame_floatCmp (o : BinOp) (k : FloatKind) (x y : Nat) : Tame (Op.floatCmp o k x y) := by
  unfold Op.floatCmp
  repeat' (first
    | with_reducible exact tame_stuck _
    | with_reducible exact tame_pure _
    | split
    | intro _
    | dsimp only)

theorem tame_stringOp (o : BinOp) (x y : ByteArray) : Tame (Op.stringOp o x y) := by
  unfold Op.stringOp
  repeat' (first
    | with_reducible exact tame_stuck _
    | with_reducible exact tame_unsupported _
    | with_reducible exact tame_pure _
    | with_reducible refine tame_ite ?_ ?_
    | split
    | intro _
    | dsimp only)

theorem tame_floatToFloat (s : FloatKind) (b : Nat) (d : FloatKind) : Tame (Conv.floatToFloat s b d) := by
  unfold Conv.floatToFloat
  repeat' (first
    | with_reducible refine tame_bind ?_ (fun _ => ?_)
    | with_reducible exact tame_pure _
    | with_reducible refine tame_ite ?_ ?_
    | with_reducible exact tame_choose _
    | split
    | intro _
    | dsimp only)

theorem tame_carith (o : BinOp) (k : FloatKind) (x y : Nat) : Tame (Op.Complex.arith o k x y) := by
  unfold Op.Complex.arith
  repeat' (first
    | with_reducible exact tame_stuck _
    | with_reducible refine tame_bind ?_ (fun _ => ?_)
    | with_reducible exact tame_pure _
    | with_reducible exact tame_floatArith _ _ _ _
    | split
    | intro _
    | dsimp only)

theorem tame_ccmp (o : BinOp) (k : FloatKind) (x y : Nat) : Tame (Op.Complex.cmp o k x y) := by
  unfold Op.Complex.cmp
  repeat' (first
    | with_reducible refine tame_bind ?_ (fun _ => ?_)
    | with_reducible exact tame_asBool _
    | with_reducible exact tame_floatCmp _ _ _ _
    | split
    | intro _
    | dsimp only)

theorem tame_cconv (s : FloatKind) (b : Nat) (d : FloatKind) : Tame (Op.Complex.conv s b d) := by
  unfold Op.Complex.conv
  repeat' (first
    | with_reducible exact tame_stuck _
    | with_reducible refine tame_bind ?_ (fun _ => ?_)
    | with_reducible exact tame_pure _
    | with_reducible refine tame_ite ?_ ?_
    | with_reducible exact tame_floatToFloat _ _ _
    | split
    | intro _
    | dsimp only)

theorem tame_cadd (x y : Nat) : Tame (Op.Complex.add x y) := tame_carith _ _ _ _

theorem tame_csub (x y : Nat) : Tame (Op.Complex.sub x y) := tame_carith _ _ _ _

theorem tame_cmul (x y : Nat) : Tame (Op.Complex.mul x y) := tame_carith _ _ _ _

theorem tame_cquo (x y : Nat) : Tame (Op.Complex.quo x y) := tame_carith _ _ _ _

theorem tame_cproduct (a b c d : Nat) : Tame (Op.Complex.product a b c d) := by
  unfold Op.Complex.product
  repeat' (first
    | with_reducible refine tame_bind ?_ (fun _ => ?_)
    | with_reducible exact tame_pure _
    | with_reducible exact tame_cadd _ _
    | with_reducible exact tame_csub _ _
    | with_reducible exact tame_cmul _ _
    | split
    | intro _
    | dsimp only)

theorem tame_ccorrected (a b c d e : Nat) : Tame (Op.Complex.corrected a b c d e) := by
  unfold Op.Complex.corrected
  repeat' (first
    | with_reducible refine tame_bind ?_ (fun _ => ?_)
    | with_reducible exact tame_pure _
    | with_reducible exact tame_cadd _ _
    | with_reducible exact tame_csub _ _
    | with_reducible exact tame_cmul _ _
    | split
    | intro _
    | dsimp only)

theorem tame_cquotient (a b c d : Nat) : Tame (Op.Complex.quotient a b c d) := by
  unfold Op.Complex.quotient
  repeat' (first
    | with_reducible refine tame_bind ?_ (fun _ => ?_)
    | with_reducible exact tame_pure _
    | with_reducible refine tame_ite ?_ ?_
    | with_reducible exact tame_ccmp _ _ _ _
    | with_reducible exact tame_cadd _ _
    | with_reducible exact tame_csub _ _
    | with_reducible exact tame_cmul _ _
    | with_reducible exact tame_cquo _ _
    | with_reducible exact tame_ccorrected _ _ _ _ _
    | split
    | intro _
    | dsimp only)

theorem tame_complexOp (o : BinOp) (k : FloatKind) (a b c d : Nat) : Tame (Op.complexOp o k a b c d) := by
  unfold Op.complexOp
  repeat' (first
    | with_reducible exact tame_stuck _
    | with_reducible refine tame_bind ?_ (fun _ => ?_)
    | with_reducible exact tame_pure _
    | with_reducible refine tame_ite ?_ ?_
    | with_reducible exact tame_carith _ _ _ _
    | with_reducible exact tame_ccmp _ _ _ _
    | with_reducible exact tame_cconv _ _ _
    | with_reducible exact tame_cproduct _ _ _ _
    | with_reducible exact tame_cquotient _ _ _ _
    | split
    | intro _
    | dsimp only)

theorem tame_movedNumber (t : TypeId) (x y : Value) : Tame (movedNumber t x y) := by
  unfold movedNumber
  repeat' (first
    | with_reducible exact tame_unsupported _
    | with_reducible refine tame_bind ?_ (fun _ => ?_)
    | with_reducible exact tame_pure _
    | with_reducible refine tame_ite ?_ ?_
    | with_reducible exact tame_asNumber _ _
    | with_reducible exact tame_behindNumber _
    | with_reducible exact tame_underlying _
    | with_reducible exact tame_unsafeAdd _ _ _ _
    | split
    | intro _
    | dsimp only)

theorem tame_movedPointer (t : TypeId) (x y : Value) : Tame (movedPointer t x y) := by
  unfold movedPointer
  repeat' (first
    | with_reducible exact tame_unsupported _
    | with_reducible refine tame_bind ?_ (fun _ => ?_)
    | with_reducible refine tame_ite ?_ ?_
    | with_reducible exact tame_numberAt _
    | with_reducible exact tame_unsafeAdd _ _ _ _
    | split
    | intro _
    | dsimp only)

theorem tame_unary (o : UnOp) (x : Value) : Tame (Op.unary o x) := by
  unfold Op.unary
  repeat' (first
    | with_reducible exact tame_stuck _
    | with_reducible exact tame_unsupported _
    | with_reducible exact tame_pure _
    | with_reducible exact tame_intArith _ _ _ _
    | with_reducible exact tame_intBits _ _ _ _
    | split
    | intro _
    | dsimp only)

theorem tame_partAt (a : Addr) (b c : Nat) : Tame (partAt a b c) := by
  unfold partAt
  repeat' (first
    | with_reducible refine tame_bind ?_ (fun _ => ?_)
    | with_reducible exact tame_pure _
    | with_reducible exact tame_byteOf _
    | split
    | intro _
    | dsimp only)

theorem tame_fieldPlace (a : Addr) (f : Field) : Tame (fieldPlace a f) := by
  unfold fieldPlace
  repeat' (first
    | with_reducible refine tame_bind ?_ (fun _ => ?_)
    | with_reducible exact tame_pure _
    | with_reducible refine tame_ite ?_ ?_
    | with_reducible exact tame_sizeOf _
    | with_reducible exact tame_partAt _ _ _
    | split
    | intro _
    | dsimp only)

theorem tame_fieldAt (t : TypeId) (v : Value) (f : Nat) : Tame (Instr.fieldAt t v f) := by
  unfold Instr.fieldAt
  repeat' (first
    | with_reducible exact tame_stuck _
    | with_reducible refine tame_bind ?_ (fun _ => ?_)
    | with_reducible exact tame_pure _
    | with_reducible exact tame_underlying _
    | with_reducible exact tame_sureAddr _
    | with_reducible exact tame_fieldPlace _ _
    | split
    | intro _
    | dsimp only)

theorem tame_build (t : TypeId) (ps : Array (Nat × Value)) : Tame (Instr.build t ps) := by
  unfold Instr.build
  repeat' (first
    | with_reducible exact tame_stuck _
    | with_reducible refine tame_bind ?_ (fun _ => ?_)
    | with_reducible exact tame_pure _
    | with_reducible refine tame_mapMA _ (fun _ => ?_)
    | with_reducible exact tame_underlying _
    | with_reducible exact tame_zeroValue _
    | with_reducible exact tame_sizeOf _
    | split
    | intro _
    | dsimp only)

theorem tame_seenAt (a : Addr) : Tame (Conv.seenAt a) := by
  unfold Conv.seenAt
  repeat' (first
    | with_reducible exact tame_unsupported _
    | with_reducible refine tame_bind ?_ (fun _ => ?_)
    | with_reducible exact tame_pure _
    | with_reducible refine tame_ite ?_ ?_
    | with_reducible exact tame_program
    | with_reducible exact tame_shape _
    | with_reducible exact tame_viewAt _
    | split
    | intro _
    | dsimp only)

theorem tame_variablesAt (a : Addr) (t : TypeId) (n : Nat) : Tame (variablesAt a t n) := by
  unfold variablesAt
  repeat' (first
    | with_reducible refine tame_bind ?_ (fun _ => ?_)
    | with_reducible exact tame_pure _
    | with_reducible exact tame_program
    | with_reducible exact tame_shape _
    | split
    | intro _
    | dsimp only)

theorem tame_unsafePointer (s d : TypeId) (x : Value) : Tame (Conv.unsafePointer s d x) := by
  unfold Conv.unsafePointer
  repeat' (first
    | with_reducible exact tame_stuck _
    | with_reducible exact tame_unsupported _
    | with_reducible refine tame_bind ?_ (fun _ => ?_)
    | with_reducible exact tame_pure _
    | with_reducible refine tame_ite ?_ ?_
    | with_reducible exact tame_program
    | with_reducible exact tame_shape _
    | with_reducible exact tame_newObj _
    | with_reducible exact tame_cellsIn _
    | with_reducible exact tame_asNumber _ _
    | with_reducible exact tame_underlying _
    | with_reducible exact tame_sizeOf _
    | with_reducible exact tame_seenAt _
    | with_reducible exact tame_variablesAt _ _ _
    | split
    | intro _
    | dsimp only)

theorem tame_intToInt (k : IntKind) (n : Int) : Tame (Conv.intToInt k n) := by
  unfold Conv.intToInt
  repeat' (first
    | with_reducible exact tame_pure _
    | split
    | intro _
    | dsimp only)

theorem tame_intToFloat (k : FloatKind) (n : Int) : Tame (Conv.intToFloat k n) := by
  unfold Conv.intToFloat
  repeat' (first
    | with_reducible exact tame_pure _
    | split
    | intro _
    | dsimp only)

theorem tame_floatToInt (s : FloatKind) (b : Nat) (k : IntKind) : Tame (Conv.floatToInt s b k) := by
  unfold Conv.floatToInt
  repeat' (first
    | with_reducible refine tame_bind ?_ (fun _ => ?_)
    | with_reducible exact tame_pure _
    | with_reducible refine tame_ite ?_ ?_
    | with_reducible exact tame_choose _
    | split
    | intro _
    | dsimp only)

theorem tame_complexToComplex (s : FloatKind) (a b : Nat) (k : FloatKind) : Tame (Conv.complexToComplex s a b k) := by
  unfold Conv.complexToComplex
  repeat' (first
    | with_reducible exact tame_stuck _
    | with_reducible refine tame_bind ?_ (fun _ => ?_)
    | with_reducible exact tame_pure _
    | with_reducible exact tame_floatToFloat _ _ _
    | split
    | intro _
    | dsimp only)

theorem tame_intToString (n : Int) : Tame (Conv.intToString n) := by
  unfold Conv.intToString
  repeat' (first
    | with_reducible exact tame_pure _
    | split
    | intro _
    | dsimp only)

theorem tame_stringToBytes (t : TypeId) (s : ByteArray) : Tame (Conv.stringToBytes t s) := by
  unfold Conv.stringToBytes
  repeat' (first
    | with_reducible refine tame_bind ?_ (fun _ => ?_)
    | with_reducible exact tame_pure _
    | with_reducible exact tame_choose _
    | with_reducible exact tame_markStringish _
    | with_reducible exact tame_newRow _ _
    | split
    | intro _
    | dsimp only)

theorem tame_bytesToString (x : Value) : Tame (Conv.bytesToString x) := by
  unfold Conv.bytesToString
  repeat' (first
    | with_reducible exact tame_stuck _
    | with_reducible refine tame_bind ?_ (fun _ => ?_)
    | with_reducible exact tame_pure _
    | with_reducible refine tame_forInA _ _ (fun _ _ => ?_)
    | with_reducible exact tame_loadCells _ _
    | split
    | intro _
    | dsimp only)

theorem tame_stringToRunes (t : TypeId) (s : ByteArray) : Tame (Conv.stringToRunes t s) := by
  unfold Conv.stringToRunes
  repeat' (first
    | with_reducible refine tame_bind ?_ (fun _ => ?_)
    | with_reducible exact tame_pure _
    | with_reducible exact tame_choose _
    | with_reducible exact tame_newRow _ _
    | split
    | intro _
    | dsimp only)

theorem tame_runesToString (x : Value) : Tame (Conv.runesToString x) := by
  unfold Conv.runesToString
  repeat' (first
    | with_reducible exact tame_stuck _
    | with_reducible refine tame_bind ?_ (fun _ => ?_)
    | with_reducible exact tame_pure _
    | with_reducible refine tame_forInA _ _ (fun _ _ => ?_)
    | with_reducible exact tame_loadCells _ _
    | split
    | intro _
    | dsimp only)

theorem tame_convert (s d : TypeId) (x : Value) : Tame (convert s d x) := by
  unfold convert
  repeat' (first
    | with_reducible exact tame_stuck _
    | with_reducible exact tame_unsupported _
    | with_reducible refine tame_bind ?_ (fun _ => ?_)
    | with_reducible exact tame_pure _
    | with_reducible exact tame_markStringish _
    | with_reducible exact tame_underlying _
    | with_reducible exact tame_floatToFloat _ _ _
    | with_reducible exact tame_unsafePointer _ _ _
    | with_reducible exact tame_intToInt _ _
    | with_reducible exact tame_intToFloat _ _
    | with_reducible exact tame_floatToInt _ _ _
    | with_reducible exact tame_complexToComplex _ _ _ _
    | with_reducible exact tame_intToString _
    | with_reducible exact tame_stringToBytes _ _
    | with_reducible exact tame_bytesToString _
    | with_reducible exact tame_stringToRunes _ _
    | with_reducible exact tame_runesToString _
    | split
    | intro _
    | dsimp only)

theorem tame_equalIn : ∀ (d : Nat) (t : TypeId) (x y : Value), Tame (Op.equalIn d t x y)
  | 0, _, _, _ => by unfold Op.equalIn; trivial
  | d + 1, t, x, y => by
    unfold Op.equalIn
    repeat' (first
      | with_reducible exact tame_stuck _
      | with_reducible exact tame_unsupported _
      | with_reducible refine tame_bind ?_ (fun _ => ?_)
      | with_reducible exact tame_pure _
      | with_reducible refine tame_ite ?_ ?_
      | with_reducible refine tame_forInA _ _ (fun _ _ => ?_)
      | with_reducible refine tame_forInR _ _ (fun _ _ => ?_)
      | exact tame_equalIn _ _ _ _
      | with_reducible exact tame_program
      | with_reducible exact tame_choose _
      | with_reducible exact tame_behindNumber _
      | with_reducible exact tame_sameAddr _ _
      | with_reducible exact tame_samePointer _ _
      | with_reducible exact tame_typeInfo _
      | with_reducible exact tame_underlying _
      | with_reducible exact tame_typeStr _
      | with_reducible exact tame_sizeOf _
      | with_reducible exact tame_part _ _ _
      | with_reducible exact tame_runtimePanic _
      | with_reducible exact tame_byteOf _
      | split
      | intro _
      | dsimp only)

theorem tame_equal (t : TypeId) (x y : Value) : Tame (Op.equal t x y) := by
  unfold Op.equal
  repeat' (first
    | with_reducible exact tame_equalIn _ _ _ _
    | split
    | intro _
    | dsimp only)

theorem tame_eqGuardIn : ∀ (d : Nat) (t : TypeId) (x y : Value), Tame (Op.eqGuardIn d t x y)
  | 0, _, _, _ => by unfold Op.eqGuardIn; trivial
  | d + 1, t, x, y => by
    unfold Op.eqGuardIn
    repeat' (first
      | with_reducible refine tame_bind ?_ (fun _ => ?_)
      | with_reducible exact tame_pure _
      | with_reducible refine tame_ite ?_ ?_
      | with_reducible refine tame_forInA _ _ (fun _ _ => ?_)
      | with_reducible refine tame_forInR _ _ (fun _ _ => ?_)
      | exact tame_eqGuardIn _ _ _ _
      | with_reducible exact tame_underlying _
      | with_reducible exact tame_sizeOf _
      | with_reducible exact tame_part _ _ _
      | split
      | intro _
      | dsimp only)

theorem tame_eqGuard (o : BinOp) (t : TypeId) (x y : Operand) (a b : Value) : Tame (eqGuard o t x y a b) := by
  unfold eqGuard
  repeat' (first
    | with_reducible exact tame_unsupported _
    | with_reducible refine tame_bind ?_ (fun _ => ?_)
    | with_reducible exact tame_pure _
    | with_reducible refine tame_ite ?_ ?_
    | with_reducible exact tame_program
    | with_reducible exact tame_eqGuardIn _ _ _ _
    | split
    | intro _
    | dsimp only)

theorem tame_binOp (o : BinOp) (t : TypeId) (a b : Value) : Tame (binOp o t a b) := by
  unfold binOp
  repeat' (first
    | with_reducible exact tame_stuck _
    | with_reducible exact tame_unsupported _
    | with_reducible refine tame_bind ?_ (fun _ => ?_)
    | with_reducible exact tame_pure _
    | with_reducible refine tame_ite ?_ ?_
    | with_reducible exact tame_behindNumber _
    | with_reducible exact tame_underlying _
    | with_reducible exact tame_addrSub _ _ _
    | with_reducible exact tame_addrCmp _ _ _
    | with_reducible exact tame_addrMod _ _ _
    | with_reducible exact tame_intArith _ _ _ _
    | with_reducible exact tame_intDiv _ _ _ _
    | with_reducible exact tame_intBits _ _ _ _
    | with_reducible exact tame_shift _ _ _ _ _
    | with_reducible exact tame_intCmp _ _ _
    | with_reducible exact tame_floatArith _ _ _ _
    | with_reducible exact tame_floatCmp _ _ _ _
    | with_reducible exact tame_stringOp _ _ _
    | with_reducible exact tame_complexOp _ _ _ _ _ _
    | with_reducible exact tame_movedNumber _ _ _
    | with_reducible exact tame_movedPointer _ _ _
    | with_reducible exact tame_equal _ _ _
    | split
    | intro _
    | dsimp only)

theorem tame_panicnil  : Tame (Instr.panicnil) := by
  unfold Instr.panicnil
  repeat' (first
    | with_reducible exact tame_stuck _
    | with_reducible refine tame_bind ?_ (fun _ => ?_)
    | with_reducible exact tame_pure _
    | with_reducible exact tame_program
    | with_reducible exact tame_env
    | split
    | intro _
    | dsimp only)

theorem tame_panic (x : Value) : Tame (Instr.panic x) := by
  unfold Instr.panic
  repeat' (first
    | with_reducible exact tame_stuck _
    | with_reducible refine tame_bind ?_ (fun _ => ?_)
    | with_reducible refine tame_ite ?_ ?_
    | with_reducible exact tame_goPanic _
    | with_reducible exact tame_runtimePanic _
    | with_reducible exact tame_panicnil
    | split
    | intro _
    | dsimp only)

theorem tame_followBlind : ∀ (l : List FieldStep) (t : TypeId) (x : Option Value), Tame (followBlind l t x)
  | [], _, _ => by unfold followBlind; trivial
  | s :: l, t, x => by
    unfold followBlind
    repeat' (first
      | with_reducible exact tame_stuck _
      | with_reducible refine tame_bind ?_ (fun _ => ?_)
      | with_reducible exact tame_pure _
      | exact tame_followBlind _ _ _
      | with_reducible exact tame_underlying _
      | with_reducible exact tame_part _ _ _
      | split
      | intro _
      | dsimp only)

theorem tame_nilAhead : ∀ (d : Nat) (t : TypeId) (x : Value) (n : String), Tame (nilAhead d t x n)
  | 0, _, _, _ => by unfold nilAhead; trivial
  | d + 1, t, x, n => by
    unfold nilAhead
    repeat' (first
      | with_reducible exact tame_stuck _
      | with_reducible refine tame_bind ?_ (fun _ => ?_)
      | with_reducible exact tame_pure _
      | exact tame_nilAhead _ _ _ _
      | with_reducible exact tame_typeInfo _
      | with_reducible exact tame_underlying _
      | with_reducible exact tame_followBlind _ _ _
      | split
      | intro _
      | dsimp only)

end Go.Proofs.Ytjphaphnmclbcaa
