/- Rows that are being sorted: what the memory is like, where the comparison may make what it likes, but change nothing that was there. -/
import Derived.Test.YtaekbmpiohmciaaDoorSb
import Derived.Test.YtaekbmpiohmciaaDoorChecked
import Derived.Shelf.SlSortCmp.Kit1
import Derived.Sort.WalkA
import Derived.Sort.WalkB2
import Derived.Sort.WalkB12
import Derived.Deep.LoopGhost
import Derived.Shelf.RegionOpenPlain
namespace Go.Proofs.YtaekbmpiohmciaaDoor
open Go.Shelf Go.RowKit Go.Lib Go.Sort
set_option linter.unusedVariables false
set_option linter.unusedSimpArgs false
variable {α : Type} [Inhabited α]

/-- A world behind another one, all of whose blocks are as they were. -/
structure LaterS (B : Nat) (W0 : World) where
  w : World
  h : Below B W0 w
abbrev laterInh (w : World) : Inhabited (LaterS w.heap.size w) := ⟨⟨w, Below.refl _ _⟩⟩
theorem wp_region_laterS {P : Program} {id : Nat} {Q : Exit → Act → World → Prop} {a : Act} {w : World} {l : List Oper} (hm : P.follows .mixedOrders = true) (hB : Region.lexB .any l.toArray = true)
    (h : wpQuiet P l.toArray (fun w' => ∃ p : LaterS w.heap.size w, w' = p.w) (fun a' => ∀ w', (∃ p : LaterS w.heap.size w, w' = p.w) → Q .normal a' w') l a) : (Code.region id l.toArray true).wp P Q a w :=
  wp_region_quiet (C := fun w' => ∃ p : LaterS w.heap.size w, w' = p.w) hm hB ⟨⟨w.drew, (Below.refl _ _).drew⟩, rfl⟩ (by simpa using h)
theorem calls_laterS {P : Program} {f : FuncId} {args : Array Value} {W0 : World} {p : LaterS W0.heap.size W0} {v : Value}
    (h : Calls P f args p.w fun e w' => e = .returned v ∧ Below p.w.heap.size p.w w') : Calls P f args p.w fun e w'' => e = .returned v ∧ ∃ p' : LaterS W0.heap.size W0, w'' = p'.w :=
  h.mono fun _ _ ⟨he, hb⟩ => ⟨he, ⟨_, p.h.trans (hb.mono p.h.size)⟩, rfl⟩
theorem mixedOnS : Tryd.prog.follows .mixedOrders = true := by kernel_rfl

/-- The row in the block holds d; all other blocks that were there are as they were. -/
structure SB (enc : α → Value) (w0 : World) (blk off : Nat) (d : Array α) (W : World) : Prop where
  os : W.os = w0.os
  tape : W.tape = w0.tape
  output : W.output = w0.output
  size : w0.heap.size ≤ W.heap.size
  block : ∀ k, k < w0.heap.size → k ≠ blk → W.heap[k]? = w0.heap[k]?
  row : Holds enc W blk off d
  inb : blk < W.heap.size
/-- What the comparison answers; it changes nothing that was there. -/
def CmpB (P : Program) (g : Nat) (cb : Array Value) (enc : α → Value) (cf : α → α → Int) (blk off size : Nat) (w0 : World) : Prop :=
  ∀ (dk : Array α) (W : World), dk.size = size → SB enc w0 blk off dk W → ∀ x y : α, Calls P g (#[enc x, enc y] ++ cb) W fun e w' => e = .returned (.int .i64 (cf x y)) ∧ RowKit.Below W.heap.size W w'
section
variable {enc : α → Value} {w0 : World} {blk off : Nat} {d0 dk : Array α} {W W' : World}
theorem SB.below (h : SB enc w0 blk off dk W) (hb : RowKit.Below W.heap.size W W') : SB enc w0 blk off dk W' where
  os := hb.os.trans h.os
  tape := hb.tape.trans h.tape
  output := hb.output.trans h.output
  size := Nat.le_trans h.size hb.size
  block k hk hn := (hb.block k (Nat.lt_of_lt_of_le hk h.size)).trans (h.block k hk hn)
  row j hj := by
    rw [hb.cell (p := ⟨blk, off + j, none⟩) h.inb, hb.frozen (p := ⟨blk, off + j, none⟩) h.inb]; exact h.row j hj
  inb := Nat.lt_of_lt_of_le h.inb hb.size
theorem SB.c1 (h : SB enc w0 blk off dk W) (R : Row1 enc w0 blk off d0) (hs : dk.size = d0.size) (i : Nat) (hi : i < dk.size) : W.cell? ⟨blk, off + i, none⟩ = some (enc dk[i]!) := (h.row i hi).1
theorem SB.f1 (h : SB enc w0 blk off dk W) (R : Row1 enc w0 blk off d0) (hs : dk.size = d0.size) (i : Nat) (hi : i < dk.size) : W.frozen? ⟨blk, off + i, none⟩ = false := (h.row i hi).2
theorem SB.cl (h : SB enc w0 blk off dk W) (R : Row1 enc w0 blk off d0) (hs : dk.size = d0.size) (i : Nat) (hi : i < dk.size) (p : LaterS W.heap.size W) : p.w.cell? ⟨blk, off + i, none⟩ = some (enc dk[i]!) := (h.below p.h).c1 R hs i hi
theorem SB.cmp {g : Nat} {cb : Array Value} {cf : α → α → Int} {size : Nat} (h : SB enc w0 blk off dk W) (hC : CmpB Tryd.prog g cb enc cf blk off size w0) (hs : dk.size = size) (x y : α) (p : LaterS W.heap.size W) :
    Calls Tryd.prog g (#[enc x, enc y] ++ cb) p.w fun e w' => e = .returned (.int .i64 (cf x y)) ∧ RowKit.Below p.w.heap.size p.w w' := hC dk p.w hs (h.below p.h) x y
theorem SB.two (h : SB enc w0 blk off dk W) (i j : Nat) (hi : i < dk.size) (hj : j < dk.size) (v : Value) :
    ∃ u, (W.setCell ⟨blk, off + i, none⟩ v).cell? ⟨blk, off + j, none⟩ = some u := by
  by_cases e : i = j
  · subst e; exact ⟨v, World.cell?_setCell_same _ _ _ (h.row i hi).1⟩
  · exact ⟨_, (World.cell?_setCell_other _ _ _ _ (by intro e'; simp only [Addr.mk.injEq] at e'; omega)).trans (h.row j hj).1⟩
theorem SB.c2 (h : SB enc w0 blk off dk W) (R : Row1 enc w0 blk off d0) (hs : dk.size = d0.size) (i j : Nat) (hi : i < dk.size) (hj : j < dk.size) (v : Value) :
    ∃ u, (W.setCell ⟨blk, off + i, none⟩ v).cell? ⟨blk, off + j, none⟩ = some u := h.two i j hi hj v
theorem SB.swapped (h : SB enc w0 blk off dk W) (R : Row1 enc w0 blk off d0) (i j : Nat) (hi : i < dk.size) (hj : j < dk.size) :
    SB enc w0 blk off (swp dk i j) ((W.setCell ⟨blk, off + i, none⟩ (enc dk[j]!)).setCell ⟨blk, off + j, none⟩ (enc dk[i]!)).drew := by
  have hz : ((W.setCell ⟨blk, off + i, none⟩ (enc dk[j]!)).setCell ⟨blk, off + j, none⟩ (enc dk[i]!)).drew.heap.size = W.heap.size := by
    show ((W.setCell ⟨blk, off + i, none⟩ (enc dk[j]!)).setCell ⟨blk, off + j, none⟩ (enc dk[i]!)).heap.size = _
    simp [World.setCell]
  refine ⟨h.os, h.tape, h.output, by rw [hz]; exact h.size, ?_, ?_, by rw [hz]; exact h.inb⟩
  · intro k hk hn
    rw [← h.block k hk hn]
    show ((W.setCell ⟨blk, off + i, none⟩ (enc dk[j]!)).setCell ⟨blk, off + j, none⟩ (enc dk[i]!)).heap[k]? = _
    simp [World.setCell, Array.getElem?_modify, Ne.symm hn]
  · intro k hk
    rw [size_swp] at hk
    rw [swp_get dk hi hj k]
    refine ⟨?_, ?_⟩
    · show ((W.setCell ⟨blk, off + i, none⟩ (enc dk[j]!)).setCell ⟨blk, off + j, none⟩ (enc dk[i]!)).cell? ⟨blk, off + k, none⟩ = _
      by_cases e : k = j
      · subst e
        rw [if_pos rfl]
        obtain ⟨u, hu⟩ := h.two i k hi hk (enc dk[k]!)
        exact World.cell?_setCell_same _ _ _ hu
      · rw [if_neg e, World.cell?_setCell_other _ _ _ _ (by intro e'; simp only [Addr.mk.injEq] at e'; omega)]
        by_cases e2 : k = i
        · subst e2
          rw [if_pos rfl]
          exact World.cell?_setCell_same _ _ _ (h.row k hk).1
        · rw [if_neg e2, World.cell?_setCell_other _ _ _ _ (by intro e'; simp only [Addr.mk.injEq] at e'; omega)]
          exact (h.row k hk).1
    · show ((W.setCell ⟨blk, off + i, none⟩ (enc dk[j]!)).setCell ⟨blk, off + j, none⟩ (enc dk[i]!)).frozen? ⟨blk, off + k, none⟩ = _
      rw [World.frozen?_setCell, World.frozen?_setCell]
      exact (h.row k hk).2
end
end Go.Proofs.YtaekbmpiohmciaaDoor
