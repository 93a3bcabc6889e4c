/- lives answers true. -/
import Derived.Test.YthfoijnjgdeaaaaDoorBagC
namespace Go.Proofs.YthfoijnjgdeaaaaDoor
open Go.RowKit Go.Lib Go.Sort
set_option linter.unusedVariables false

theorem cmp_a_e : cmpV ⟨3, false, 0, ⟨#[97]⟩⟩ ⟨3, false, 0, ⟨#[195, 169]⟩⟩ = -1 := by kernel_rfl
theorem count_e : ((Lib.runeCount ⟨#[195, 169]⟩ : Nat) : Int) = 1 := by kernel_rfl

def wv (n : Int) : Val := ⟨2, false, n, ⟨#[]⟩⟩
def ob (n : Int) : Obj := .cells #[.int .u8 2, .bool false, .int .i64 n, .string ⟨#[]⟩] 64
def ob2 (a b : Nat) : Obj := .cells #[.slice (some ⟨a, 0, none⟩) 1 1, .slice (some ⟨b, 0, none⟩) 1 1] 25
/-- A row of one value that lies in a block of its own. -/
theorem row_one {W : World} {blk : Nat} {n : Int} (h : W.heap[blk]? = some (ob n)) : RowV W (.slice (some ⟨blk, 0, none⟩) 1 1) [wv n] := by
  have hlt : blk < W.heap.size := (Array.getElem?_eq_some_iff.1 h).1
  refine ⟨by simp, .inr ⟨blk, 0, 1, rfl, ?_, hlt⟩⟩
  intro j hj
  have : j = 0 := by simpa using hj
  subst this
  simp [World.cell?, h, ob, wv]
theorem refs_two {W : World} {blk a b : Nat} {n m : Int} (h : W.heap[blk]? = some (ob2 a b)) (ha : W.heap[a]? = some (ob n)) (hb : W.heap[b]? = some (ob m)) :
    RefsAt W blk 0 [(⟨(.slice (some ⟨a, 0, none⟩) 1 1, [wv n]), row_one ha⟩ : RowRef W), ⟨(.slice (some ⟨b, 0, none⟩) 1 1, [wv m]), row_one hb⟩] := by
  intro j hj
  match j, hj with
  | 0, _ =>
    have e : W.cell? ⟨blk, 0 + 0, none⟩ = some (.slice (some ⟨a, 0, none⟩) 1 1) := by simp [World.cell?, h, ob2]
    exact e
  | 1, _ =>
    have e : W.cell? ⟨blk, 0 + 1, none⟩ = some (.slice (some ⟨b, 0, none⟩) 1 1) := by simp [World.cell?, h, ob2]
    exact e
theorem bag_two (W : World) (p a b q c d : Nat) (h1 : W.heap[p]? = some (ob2 a b)) (ha : W.heap[a]? = some (ob 1)) (hb : W.heap[b]? = some (ob 2)) (h2 : W.heap[q]? = some (ob2 c d)) (hc : W.heap[c]? = some (ob 2)) (hd : W.heap[d]? = some (ob 1)) :
    Calls Tryd.prog 24 #[.slice (some ⟨p, 0, none⟩) 2 2, .slice (some ⟨q, 0, none⟩) 2 2] W fun e w' => e = .returned (.bool true) ∧ Below W.heap.size W w' := by
  have h := sameBag_some W p 0 2 q 0 2 _ _ (refs_two h1 ha hb) (refs_two h2 hc hd) (Array.getElem?_eq_some_iff.1 h2).1 rfl (by show 2 * 24 ≤ _; omega)
  refine h.mono ?_
  rintro e w' ⟨t, rfl, ht, hbw⟩
  have : t = true := ht.2 (List.Perm.swap _ _ _)
  subst this
  exact ⟨rfl, hbw⟩
/-- The world in which lives asks for the bags. -/
def bagWorld (X : World) (c3 c4 c5 c6 : Array Value) : World :=
  ((((((((((X.alloc (.cells c3 64)).alloc (ob 1)).alloc (.cells c4 64)).alloc (ob 2)).alloc (ob2 (X.heap.size + 1) (X.heap.size + 1 + 1 + 1))).alloc (.cells c5 64)).alloc (ob 2)).alloc (.cells c6 64)).alloc (ob 1)).alloc
    (ob2 (X.heap.size + 1 + 1 + 1 + 1 + 1 + 1) (X.heap.size + 1 + 1 + 1 + 1 + 1 + 1 + 1 + 1)))
theorem bagWorld_below (X : World) (c3 c4 c5 c6 : Array Value) : Below X.heap.size X (bagWorld X c3 c4 c5 c6) := by
  unfold bagWorld
  repeat (first | exact Below.refl _ _ | refine Below.alloc ?_ (by simp; try omega) _)
theorem push_at (w : World) (o : Obj) (k : Nat) : (w.alloc o).heap[k]? = if k = w.heap.size then some o else w.heap[k]? := by
  show (w.heap.push o)[k]? = _
  rw [Array.getElem?_push]
theorem size_at (w : World) (o : Obj) : (w.alloc o).heap.size = w.heap.size + 1 := by simp
theorem bag_lives (X : World) (c3 c4 c5 c6 : Array Value) :
    Calls Tryd.prog 24 #[.slice (some ⟨X.heap.size + 1 + 1 + 1 + 1, 0, none⟩) 2 2, .slice (some ⟨X.heap.size + 1 + 1 + 1 + 1 + 1 + 1 + 1 + 1 + 1, 0, none⟩) 2 2] (bagWorld X c3 c4 c5 c6)
      fun e w' => e = .returned (.bool true) ∧ Below X.heap.size X w' := by
  refine (bag_two (bagWorld X c3 c4 c5 c6) _ (X.heap.size + 1) (X.heap.size + 1 + 1 + 1) _ (X.heap.size + 1 + 1 + 1 + 1 + 1 + 1) (X.heap.size + 1 + 1 + 1 + 1 + 1 + 1 + 1 + 1) ?_ ?_ ?_ ?_ ?_ ?_).mono ?_
  all_goals try (unfold bagWorld; simp only [push_at, size_at]; simp; done)
  rintro e w' ⟨rfl, hb⟩
  exact ⟨rfl, (bagWorld_below X c3 c4 c5 c6).trans (hb.mono (bagWorld_below X c3 c4 c5 c6).size)⟩

end Go.Proofs.YthfoijnjgdeaaaaDoor
