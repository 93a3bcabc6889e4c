/- The law ValueOrder returns true, of any three values. -/
import Derived.Test.YthfoijnjgdeaaaaDoorLives
import Derived.Test.YthfoijnjgdeaaaaDoorChkB
import Derived.Test.YthfoijnjgdeaaaaDoorHash
import Derived.Deep.DeepCutAuto
namespace Go.Proofs.YthfoijnjgdeaaaaDoor
open Go.RowKit Go.Lib Go.Sort
set_option linter.unusedVariables false
attribute [local go_sem ↓] Go.wp_at_zero Go.wp_at_succ

def boxO (k : Int) (b : Bool) (n : Int) (s : ByteArray) : Obj := .cells #[.int .u8 k, .bool b, .int .i64 n, .string s] 64
/-- A world in which all that lay below B stands as it stood. -/
structure Later (B : Nat) (W0 : World) where
  w : World
  h : Below B W0 w
theorem wp_region_later {P : Program} {id : Nat} {Q : Exit → Act → World → Prop} {a : Act} {w : World} {l : List Oper} (hm : P.follows .mixedOrders = true) (hB : Region.lexB .any l.toArray = true)
    (h : wpQuiet P l.toArray (fun w' => ∃ p : Later w.heap.size w, w' = p.w) (fun a' => ∀ w', (∃ p : Later w.heap.size w, w' = p.w) → Q .normal a' w') l a) : (Code.region id l.toArray true).wp P Q a w :=
  wp_region_quiet (C := fun w' => ∃ p : Later w.heap.size w, w' = p.w) hm hB ⟨⟨w.drew, (Below.refl _ _).drew⟩, rfl⟩ (by simpa using h)
theorem calls_later {P : Program} {f : FuncId} {args : Array Value} {W0 : World} {p : Later W0.heap.size W0} {v : Value}
    (h : Calls P f args p.w fun e w' => e = .returned v ∧ Below p.w.heap.size p.w w') : Calls P f args p.w fun e w'' => e = .returned v ∧ ∃ p' : Later W0.heap.size W0, w'' = p'.w :=
  h.mono fun _ _ ⟨he, hb⟩ => ⟨he, ⟨_, p.h.trans (hb.mono p.h.size)⟩, rfl⟩
/-- A row of two values that lies in a block of its own. -/
theorem row_pair {W : World} {blk : Nat} {x y : Val} (h : W.heap[blk]? = some (.cells #[.int .u8 x.k, .bool x.b, .int .i64 x.n, .string x.s, .int .u8 y.k, .bool y.b, .int .i64 y.n, .string y.s] 64)) : RowIs W blk 0 [x, y] ∧ blk < W.heap.size := by
  refine ⟨?_, (Array.getElem?_eq_some_iff.1 h).1⟩
  intro j hj
  match j, hj with
  | 0, _ => simp [World.cell?, h]
  | 1, _ => simp [World.cell?, h]
theorem RowIs.first {W : World} {blk : Nat} {x y : Val} (h : RowIs W blk 0 [x, y]) : RowIs W blk 0 [x] := by
  intro j hj
  match j, hj with
  | 0, _ => exact h 0 (by simp)
theorem lex_pair (x y z : Val) (hx : cmpV x x = 0) : lexBy cmpV [x, y] [x, z] = cmpV y z := by
  simp only [lexBy, hx, if_true]
  split
  · rename_i h; exact h.symm
  · rfl
theorem lex_short (x y : Val) (hx : cmpV x x = 0) : lexBy cmpV [x, y] [x] = 1 := by
  simp [lexBy, hx]
theorem pair_heap (W : World) (o1 o2 : Obj) : ((W.alloc o1).alloc o2).drew.heap[W.heap.size]? = some o1 ∧ ((W.alloc o1).alloc o2).drew.heap[W.heap.size + 1]? = some o2 := by
  show ((W.alloc o1).alloc o2).heap[W.heap.size]? = some o1 ∧ ((W.alloc o1).alloc o2).heap[W.heap.size + 1]? = some o2
  simp only [push_at, size_at]
  constructor
  · rw [if_neg (by omega)]; simp
  · simp
theorem cell_new (W : World) (o : Obj) (a : Addr) (v : Value) (ha : a.block < W.heap.size) (h : W.cell? a = some v) : (W.alloc o).cell? a = some v := by
  rw [← h]
  exact ((Below.refl _ W).alloc (Nat.le_refl _) o).cell ha
theorem mixedOn : Tryd.prog.follows .mixedOrders = true := by kernel_rfl
theorem chk_vals (v : Val) : chkV v = 0 ∨ chkV v = 4 ∨ chkV v = 5 ∨ chkV v = 9 := by
  unfold chkV; split <;> (try split) <;> (try split) <;> simp
/-- The four cells of a value in a block. -/
theorem box_cells {W : World} {blk : Nat} {k : Int} {b : Bool} {n : Int} {s : ByteArray} (h : W.heap[blk]? = some (boxO k b n s)) :
    W.cell? ⟨blk, 0, none⟩ = some (.int .u8 k) ∧ W.cell? ⟨blk, 1, none⟩ = some (.bool b) ∧ W.cell? ⟨blk, 2, none⟩ = some (.int .i64 n) ∧ W.cell? ⟨blk, 3, none⟩ = some (.string s) := by
  simp [World.cell?, h, boxO]
theorem three_boxes {w w1 : World} {o1 o2 o3 : Obj} (hb : Below (((w.alloc o1).alloc o2).alloc o3).heap.size (((w.alloc o1).alloc o2).alloc o3) w1) :
    w1.heap[w.heap.size]? = some o1 ∧ w1.heap[w.heap.size + 1]? = some o2 ∧ w1.heap[w.heap.size + 1 + 1]? = some o3 ∧ Below w.heap.size w w1 ∧ w.heap.size + 3 ≤ w1.heap.size := by
  have hs := hb.size
  rw [size_at, size_at, size_at] at hs
  have hs' : (((w.alloc o1).alloc o2).alloc o3).heap.size = w.heap.size + 1 + 1 + 1 := by rw [size_at, size_at, size_at]
  refine ⟨?_, ?_, ?_, (below_three o1 o2 o3).trans (hb.mono (by omega)), by omega⟩
  · rw [hb.block _ (by omega)]; simp only [push_at, size_at]; rw [if_neg (by omega), if_neg (by omega)]; simp
  · rw [hb.block _ (by omega)]; simp only [push_at, size_at]; rw [if_neg (by omega)]; simp
  · rw [hb.block _ (by omega)]; simp only [push_at, size_at]; simp

end Go.Proofs.YthfoijnjgdeaaaaDoor
