/- Lists that are copied: cells of a list, in order; a row of one's own is a list. -/
import Derived.Test.YtajomnfeicfdlaaGreatDoorSaSbScSdSe
import Derived.Maps.AppendAt
import Derived.Laws.OwnMore
import Derived.Test.YtajomnfeicfdlaaGreatDoorNaNbNcNd
import Derived.Lib.AppendZeros
import Derived.Laws.AppendOwnNone
import Derived.Lib.AppendZerosOnto
namespace Go.Proofs.YtajomnfeicfdlaaGreatDoor
open Go.Shelf Go.RowKit Go.Lib
set_option linter.unusedVariables false
set_option linter.unusedSimpArgs false
theorem run_append_none_c {P : Program} {w : World} (base : Nat) (t ty e : TypeId) (i : TypeInfo) (size : Nat) (ht : P.underlying t = some (.slice e)) (hi : P.info? e = some i)
  (v : Value) (n c : Nat) (xs : List Value) (hown : w.ownsRow base e size v n xs) :
  (Builtin.append_ #[t, t] ty #[v, .slice none 0 c]).run P w = .ok v w := by
 rcases hown.2 with ⟨rfl, rfl⟩ | ⟨g, cap, cur, rfl, _, _, hnc, _⟩
 ·simp [Builtin.append_, run_underlying ht, Go.sizeOf, typeInfo, hi, Builtin.lenOf, Builtin.firstCells]
 ·simp [Builtin.append_, run_underlying ht, Go.sizeOf, typeInfo, hi, Builtin.lenOf, Builtin.firstCells, hnc, storeCells]
/-- A part that leads nowhere. -/
def Flat {α : Type} (rel : Rel α) : Prop := (∀ K K' W W' cs x, rel K W cs x → rel K' W' cs x) ∧ ∀ K W cs x, rel K W cs x → ∀ u ∈ cs, u.oneCell' = true
theorem fInt : Flat rInt := ⟨fun _ _ _ _ _ _ h => h, fun _ _ cs x h u hu => by rw [h.1] at hu; simp at hu; subst hu; rfl⟩
theorem fTxt : Flat rTxt := ⟨fun _ _ _ _ _ _ h => h, fun _ _ cs x h u hu => by rw [h.1] at hu; simp at hu; subst hu; rfl⟩
theorem fKnd : Flat rKnd := ⟨fun _ _ _ _ _ _ h => h, fun _ _ cs x h u hu => by rw [h.1] at hu; simp at hu; subst hu; rfl⟩
theorem fVal : Flat rVal := ⟨fun _ _ _ _ _ _ h => h, fun _ _ cs x h u hu => by rw [h.1] at hu; simp at hu; rcases hu with rfl | rfl | rfl | rfl <;> rfl⟩
theorem fStp : Flat rStp := ⟨fun _ _ _ _ _ _ h => h, fun _ _ cs x h u hu => by rw [h.1] at hu; simp at hu; rcases hu with rfl | rfl | rfl <;> rfl⟩
theorem fCl : Flat rCl := ⟨fun _ _ _ _ _ _ h => h, fun _ _ cs x h u hu => by rw [h.1] at hu; simp at hu; rcases hu with rfl | rfl <;> rfl⟩
theorem part_of {cells cs : List Value} {j n size : Nat} (hc : cells.length = n * size) (hcs : cs.length = size) (hj : j < n) : ((cells ++ cs).drop (j * size)).take size = (cells.drop (j * size)).take size := by
 have h1 : j * size + size ≤ n * size := by
  have := Nat.mul_le_mul_right size (show j + 1 ≤ n by omega)
  rwa [Nat.add_mul, Nat.one_mul] at this
 rw [List.drop_append_of_le_length (by omega), List.take_append_of_le_length (by rw [List.length_drop]; omega)]
/-- The cells of a list's beginning, in order. -/
theorem cells_upto {α : Type} {rel : Rel α} {size : Nat} {K : Nat → Prop} {W : World} {xs : List α} {b o : Nat}
  (h : ∀ j (h : j < xs.length), ∃ cs, cs.length = size ∧ (∀ i u, cs[i]? = some u → W.cell? ⟨b, o + j * size + i, none⟩ = some u) ∧ rel K W cs xs[j]) :
  ∀ n, n ≤ xs.length → ∃ cells : List Value, cells.length = n * size ∧ (∀ j u, cells[j]? = some u → W.cell? ⟨b, o + j, none⟩ = some u) ∧ ∀ j (hj : j < n) (h2 : j < xs.length), rel K W ((cells.drop (j * size)).take size) xs[j]
 | 0, _ => ⟨[], by simp, fun j u hu => by simp at hu, fun j hj => by omega⟩
 | n + 1, hn => by
  obtain ⟨cells, h1, h2, h3⟩ := cells_upto h n (by omega)
  obtain ⟨cs, c1, c2, c3⟩ := h n (by omega)
  refine ⟨cells ++ cs, by rw [List.length_append, h1, c1, Nat.add_mul, Nat.one_mul], fun j u hu => ?_, fun j hj h2' => ?_⟩
  ·by_cases hj : j < cells.length
   ·rw [List.getElem?_append_left hj] at hu
    exact h2 j u hu
   ·rw [List.getElem?_append_right (by omega), h1] at hu
    have := c2 _ u hu
    rw [show o + n * size + (j - n * size) = o + j by omega] at this
    exact this
  ·by_cases hjn : j < n
   ·rw [part_of h1 c1 hjn]
    exact h3 j hjn h2'
   ·have e : j = n := by omega
    subst e
    rw [List.drop_append_of_le_length (by omega), List.drop_of_length_le (by omega), List.nil_append, List.take_of_length_le (by omega)]
    exact c3
/-- All blocks from B on. -/
def From (B : Nat) (W : World) : Nat → Prop := fun b => B ≤ b ∧ b < W.heap.size
theorem From.lt {B : Nat} {W : World} : ∀ b, From B W b → b < W.heap.size := fun b h => h.2
/-- A row of one's own, as a list. -/
theorem own_list {α : Type} {rel : Rel α} (hf : Flat rel) {base te size bytes : Nat} {W' : World} {v' : Value} {xs : List α} {cells : List Value} {K : Nat → Prop} {W : World} (hown : W'.ownsRow base te size v' xs.length cells) (hb : xs.length * bytes ≤ 140737488355328)
  (hr : ∀ j (h : j < xs.length), rel K W ((cells.drop (j * size)).take size) xs[j]) : ListIs rel size bytes (From base W') W' v' xs := by
 obtain ⟨hl, ⟨rfl, hn⟩ | ⟨g, cap, cur, rfl, hbg, hg, hnc, hcm, hcs, htake⟩⟩ := hown
 ·exact ⟨none, 0, by rw [hn], hb, fun h => by omega⟩
 ·refine ⟨_, cap, rfl, hb, fun _ => ⟨g, 0, rfl, ⟨hbg, (Array.getElem?_eq_some_iff.1 hg).1⟩, fun j hj => ⟨_, ?_, fun i u hu => ?_, hf.1 _ _ _ _ _ _ (hr j hj)⟩⟩⟩
  ·have h1 : j * size + size ≤ xs.length * size := by
    have := Nat.mul_le_mul_right size (show j + 1 ≤ xs.length by omega)
    rwa [Nat.add_mul, Nat.one_mul] at this
   rw [List.length_take, List.length_drop, hl]; omega
  ·have hi : i < size := by
    have := (List.getElem?_eq_some_iff.1 hu).1
    rw [List.length_take] at this; omega
   rw [List.getElem?_take_of_lt hi, List.getElem?_drop, ← htake] at hu
   have hlt : j * size + i < xs.length * size := by
    have := Nat.mul_le_mul_right size (show j + 1 ≤ xs.length by omega)
    rw [Nat.add_mul, Nat.one_mul] at this; omega
   rw [List.getElem?_take_of_lt hlt] at hu
   rw [Nat.zero_add]
   exact cell_of_row hg (by simpa using hu)
/-- A list that is put behind an empty one, into new memory. -/
structure Cpy {α : Type} (rel : Rel α) (size bytes : Nat) (ts : TypeId) (X W' : World) (g : Nat) (vx : Value) (xs : List α) (p : Option Addr) (c : Nat) : Prop where
 run : (Builtin.append_ #[ts, ts] ts #[.slice (some ⟨g, 0, none⟩) 0 0, vx]).run Tryz.prog X = .ok (.slice p xs.length c) W'
 list : ListIs rel size bytes (From g W') W' (.slice p xs.length c) xs
 old : ∀ j, j < X.heap.size → j ≠ g → W'.heap[j]? = X.heap[j]?
 size_ : X.heap.size ≤ W'.heap.size
 below : ∀ B w0, Below B w0 X → B ≤ g → Below B w0 W'
theorem cpy_list {α : Type} {rel : Rel α} (hf : Flat rel) {size bytes : Nat} {ts te : TypeId} {i0 : TypeInfo} {z : Value} (hu : Tryz.prog.underlying ts = some (.slice te)) (hi : Tryz.prog.info? te = some i0) (hz : i0.zero = some z) (hs : i0.size = size) (hby : i0.bytes = bytes) (hzs : z.cells.size = size) (hs0 : 0 < size) (hb0 : 0 < bytes)
  {X : World} {g : Nat} (hg : X.heap[g]? = some (.cells #[] te (0, 0))) {K : Nat → Prop} {vx : Value} {xs : List α} (h : ListIs rel size bytes K X vx xs) : ∃ W' p c, Cpy rel size bytes ts X W' g vx xs p c := by
 have hgl : g < X.heap.size := (Array.getElem?_eq_some_iff.1 hg).1
 have hown : X.ownsRow g te size (.slice (some ⟨g, 0, none⟩) 0 0) 0 [] := ⟨by simp, .inr ⟨g, 0, #[], rfl, Nat.le_refl _, hg, Nat.le_refl _, Nat.zero_le _, by simp, by simp⟩⟩
 obtain ⟨q, c, rfl, hb, hp⟩ := h
 have hmax : xs.length ≤ maxLen := by
  have : xs.length * 1 ≤ xs.length * bytes := Nat.mul_le_mul_left _ hb0
  unfold maxLen; omega
 by_cases h0 : 0 < xs.length
 ·obtain ⟨b, o, rfl, hKb, hc⟩ := hp h0
  obtain ⟨cells, h1, h2, h3⟩ := cells_upto hc xs.length (Nat.le_refl _)
  have hone : ∀ u ∈ cells, u.oneCell' = true := fun u hu' => by
   obtain ⟨k, hk, rfl⟩ := List.getElem_of_mem hu'
   have hkk : k / size < xs.length := by rw [Nat.div_lt_iff_lt_mul hs0]; omega
   refine hf.2 _ _ _ _ (h3 (k / size) hkk hkk) _ ?_
   rw [List.mem_iff_getElem?]
   refine ⟨k % size, ?_⟩
   rw [List.getElem?_take_of_lt (Nat.mod_lt _ hs0), List.getElem?_drop, show k / size * size + k % size = k by rw [Nat.mul_comm]; exact Nat.div_add_mod k size]
   exact List.getElem?_eq_getElem hk
  have hadd : ∀ j u, cells[j]? = some u → X.cell? ((⟨b, o, none⟩ : Addr).add j) = some u := fun j u hu' => by
   have : (⟨b, o, none⟩ : Addr).add j = ⟨b, o + j, none⟩ := by unfold Addr.add; split <;> simp_all
   rw [this]; exact h2 j u hu'
  obtain ⟨v', W', e, ho, h5, _, h6⟩ := run_append_own_at (P := Tryz.prog) X g ts ts te i0 z size bytes hu hi hz hs hby hzs hs0 _ 0 [] hown ⟨b, o, none⟩ xs.length c cells (by rw [h1]) hadd hone (by omega) (by rw [Nat.zero_add]; exact hb) (by omega)
  rw [Nat.zero_add, List.nil_append] at ho
  have hlist : ListIs rel size bytes (From g W') W' v' xs := own_list hf ho hb (fun j hj => h3 j hj hj)
  obtain ⟨p', c', rfl, _⟩ := id hlist
  refine ⟨W', p', c', e, hlist, fun j hj hne => h5.block j hj (fun e => ?_), h5.size, fun B w0 hbb hB => Below.grown hbb h5 (by omega) (fun j hj => by have := (hown.lt _ hj).1; omega)⟩
  simp only [Value.ownBlock, Option.map_some, Option.some.injEq] at e
  exact hne e
 ·have hx : xs = [] := List.eq_nil_of_length_eq_zero (by omega)
  subst hx
  cases q with
  | none => exact ⟨X, some ⟨g, 0, none⟩, 0, run_append_none_c (P := Tryz.prog) (w := X) g ts ts te i0 size hu hi _ _ _ _ hown, ⟨_, 0, rfl, by simp, fun h => by simp at h⟩, fun _ _ _ => rfl, Nat.le_refl _, fun _ _ h _ => h⟩
  | some ad =>
   obtain ⟨v', W', e, ho, h5, _, h6⟩ := run_append_own_at (P := Tryz.prog) X g ts ts te i0 z size bytes hu hi hz hs hby hzs hs0 _ 0 [] hown ad 0 c [] (by simp) (fun j u hu => by simp at hu) (fun u hu => by simp at hu) (by unfold maxLen; omega) (by omega) (by omega)
   have hlist : ListIs rel size bytes (From g W') W' v' ([] : List α) := own_list hf (K := K) (W := X) ho (by simp) (fun j hj => by simp at hj)
   obtain ⟨p', c', rfl, _⟩ := id hlist
   refine ⟨W', p', c', e, hlist, fun j hj hne => h5.block j hj (fun e => ?_), h5.size, fun B w0 hbb hB => Below.grown hbb h5 (by omega) (fun j hj => by have := (hown.lt _ hj).1; omega)⟩
   simp only [Value.ownBlock, Option.map_some, Option.some.injEq] at e
   exact hne e
end Go.Proofs.YtajomnfeicfdlaaGreatDoor
/- Lists of parts that are made one by one, in new memory. -/
namespace Go.Proofs.YtajomnfeicfdlaaGreatDoor
open Go.Shelf Go.RowKit Go.Lib
set_option linter.unusedVariables false
set_option linter.unusedSimpArgs false
attribute [local go_sem ↓] Go.wp_at_zero Go.wp_at_succ
/-- A list that is being made: a row of one's own whose parts lie elsewhere, in new memory too. -/
def OwnR {α : Type} (rel : Rel α) (size : Nat) (te : TypeId) (base : Nat) (W : World) (u : Value) (xs : List α) : Prop :=
 ∃ (K : Nat → Prop) (cells : List Value), (∀ b, K b → base ≤ b ∧ b < W.heap.size ∧ u.ownBlock ≠ some b) ∧ W.ownsRow base te size u xs.length cells ∧ ∀ j (h : j < xs.length), rel K W ((cells.drop (j * size)).take size) xs[j]
theorem OwnR.nil {α : Type} {rel : Rel α} {size : Nat} {te : TypeId} {base : Nat} {W : World} : OwnR rel size te base W (.slice none 0 0) ([] : List α) :=
 ⟨fun _ => False, [], fun b h => h.elim, World.ownsRow_nil _ _ _ _, fun j h => by simp at h⟩
theorem OwnR.keep {α : Type} {rel : Rel α} (hm : Mono rel) {size : Nat} {te : TypeId} {base : Nat} {W W' : World} {u : Value} {xs : List α} (h : OwnR rel size te base W u xs) (hb : Below W.heap.size W W') : OwnR rel size te base W' u xs := by
 obtain ⟨K, cells, hK, ho, hr⟩ := h
 refine ⟨K, cells, fun b h => ⟨(hK b h).1, Nat.lt_of_lt_of_le (hK b h).2.1 hb.size, (hK b h).2.2⟩, ?_, fun j hj => hm _ _ _ _ _ _ (fun _ h => h) (kept_of (fun b h => (hK b h).2.1) hb) (hr j hj)⟩
 obtain ⟨hl, ⟨rfl, hn⟩ | ⟨g, cap, cur, rfl, h1, hg, r⟩⟩ := ho
 ·exact ⟨hl, .inl ⟨rfl, hn⟩⟩
 ·exact ⟨hl, .inr ⟨g, cap, cur, rfl, h1, by rw [hb.block _ (Array.getElem?_eq_some_iff.1 hg).1]; exact hg, r⟩⟩
theorem OwnR.list {α : Type} {rel : Rel α} (hm : Mono rel) {size bytes : Nat} {te : TypeId} {base : Nat} {W : World} {u : Value} {xs : List α} (h : OwnR rel size te base W u xs) (hb : xs.length * bytes ≤ 140737488355328) : ∃ p c, u = .slice p xs.length c ∧ ListIs rel size bytes (From base W) W (.slice p xs.length c) xs := by
 obtain ⟨K, cells, hK, ho, hr⟩ := h
 have hr2 : ∀ j (h : j < xs.length), rel (From base W) W ((cells.drop (j * size)).take size) xs[j] := fun j hj => hm _ _ _ _ _ _ (fun b h => ⟨(hK b h).1, (hK b h).2.1⟩) ⟨rfl, rfl, rfl, Nat.le_refl _, fun _ _ => rfl⟩ (hr j hj)
 obtain ⟨hl, ⟨rfl, hn⟩ | ⟨g, cap, cur, rfl, hbg, hg, hnc, hcm, hcs, htake⟩⟩ := ho
 ·exact ⟨none, 0, by rw [hn], none, 0, by rw [hn], hb, fun h => by omega⟩
 ·refine ⟨_, cap, rfl, _, cap, rfl, hb, fun _ => ⟨g, 0, rfl, ⟨hbg, (Array.getElem?_eq_some_iff.1 hg).1⟩, fun j hj => ⟨_, ?_, fun i u hu => ?_, hr2 j hj⟩⟩⟩
  ·have h1 : j * size + size ≤ xs.length * size := by
    have := Nat.mul_le_mul_right size (show j + 1 ≤ xs.length by omega)
    rwa [Nat.add_mul, Nat.one_mul] at this
   rw [List.length_take, List.length_drop, hl]; omega
  ·have hi : i < size := by
    have := (List.getElem?_eq_some_iff.1 hu).1
    rw [List.length_take] at this; omega
   rw [List.getElem?_take_of_lt hi, List.getElem?_drop, ← htake] at hu
   have hlt : j * size + i < xs.length * size := by
    have := Nat.mul_le_mul_right size (show j + 1 ≤ xs.length by omega)
    rw [Nat.add_mul, Nat.one_mul] at this; omega
   rw [List.getElem?_take_of_lt hlt] at hu
   rw [Nat.zero_add]
   exact cell_of_row hg (by simpa using hu)
theorem addr_add (b o k : Nat) : (⟨b, o, none⟩ : Addr).add k = ⟨b, o + k, none⟩ := by unfold Addr.add; split <;> simp_all
/-- One part more. -/
theorem OwnR.push {α : Type} {rel : Rel α} (hm : Mono rel) {size bytes : Nat} {ts te : TypeId} {i0 : TypeInfo} {z : Value} (hu : Tryz.prog.underlying ts = some (.slice te)) (hi : Tryz.prog.info? te = some i0) (hz : i0.zero = some z) (hs : i0.size = size) (hby : i0.bytes = bytes) (hzs : z.cells.size = size) (hs0 : 0 < size)
  {base : Nat} {X : World} {u : Value} {xs : List α} (h : OwnR rel size te base X u xs) (hbase : base ≤ X.heap.size) {cs : List Value} {x : α} {K2 : Nat → Prop} (hcs : cs.length = size) (hone : ∀ c ∈ cs, c.oneCell' = true) (hK2 : ∀ b, K2 b → base ≤ b ∧ b < X.heap.size ∧ u.ownBlock ≠ some b) (hr : rel K2 X cs x) (hbytes : (xs.length + 1) * bytes ≤ 140737488355328) (hmax : xs.length + 1 ≤ maxLen) :
  ∃ v' X2, (Builtin.append_ #[ts, ts] ts #[u, .slice (some ⟨X.heap.size, 0, none⟩) 1 1]).run Tryz.prog (X.alloc (.cells cs.toArray te)) = .ok v' X2 ∧ OwnR rel size te base X2 v' (xs ++ [x]) ∧ (∀ B w0, Below B w0 X → B ≤ base → Below B w0 X2) ∧ X.heap.size < X2.heap.size ∧ ∀ b, b < X.heap.size → u.ownBlock ≠ some b → X2.heap[b]? = X.heap[b]? := by
 obtain ⟨K, cells, hK, ho, hrr⟩ := h
 obtain ⟨X1, hX1⟩ : ∃ X1, X.alloc (.cells cs.toArray te) = X1 := ⟨_, rfl⟩
 have hb1 : Below X.heap.size X X1 := by rw [← hX1]; exact (Below.refl _ _).alloc (Nat.le_refl _) _
 have hs1 : X1.heap.size = X.heap.size + 1 := by rw [← hX1]; simp
 have hg1 : X1.heap[X.heap.size]? = some (.cells cs.toArray te (0, 0)) := by rw [← hX1]; exact heap_alloc_new X _
 rw [hX1]
 have ho1 : X1.ownsRow base te size u xs.length cells := by
  obtain ⟨hl, ⟨rfl, hn⟩ | ⟨g, cap, cur, rfl, h1, hg, r⟩⟩ := ho
  ·exact ⟨hl, .inl ⟨rfl, hn⟩⟩
  ·exact ⟨hl, .inr ⟨g, cap, cur, rfl, h1, by rw [hb1.block _ (Array.getElem?_eq_some_iff.1 hg).1]; exact hg, r⟩⟩
 have hnew : ∀ j v, cs[j]? = some v → X1.cell? ((⟨X.heap.size, 0, none⟩ : Addr).add j) = some v := fun j v hv => by
  rw [addr_add, Nat.zero_add]
  exact cell_of_row hg1 (by simpa using hv)
 obtain ⟨v', X2, e, ho2, h5, _, h6⟩ := run_append_own_at (P := Tryz.prog) X1 base ts ts te i0 z size bytes hu hi hz hs hby hzs hs0 u xs.length cells ho1 ⟨X.heap.size, 0, none⟩ 1 1 cs (by rw [hcs, Nat.one_mul]) hnew hone hmax hbytes (by omega)
 have hsz := h5.size
 have hKeep : ∀ (Q : Nat → Prop), (∀ b, Q b → b < X.heap.size ∧ u.ownBlock ≠ some b) → Kept Q X X2 := fun Q hQ => by
  refine ⟨h5.os.trans hb1.os, h5.tape.trans hb1.tape, h5.output.trans hb1.output, by omega, fun b hb => ?_⟩
  rw [h5.block b (by have := (hQ b hb).1; omega) (fun e => (hQ b hb).2 e.symm)]
  exact hb1.block b (hQ b hb).1
 refine ⟨v', X2, e, ⟨fun b => K b ∨ K2 b, cells ++ cs, fun b hb => ?_, by rw [List.length_append]; exact ho2, fun j hj => ?_⟩, fun B w0 hb hB => ?_, by omega, fun b h1 h2 => (h5.block b (by omega) (fun e => h2 e.symm)).trans (hb1.block b h1)⟩
 ·have h3 : base ≤ b ∧ b < X.heap.size ∧ u.ownBlock ≠ some b := hb.elim (hK b) (hK2 b)
  refine ⟨h3.1, by omega, fun e => ?_⟩
  rcases h6 with h6 | h6
  ·rw [h6] at e; exact h3.2.2 e
  ·rw [h6] at e; simp only [Option.some.injEq] at e; omega
 ·by_cases hjn : j < xs.length
  ·rw [part_of ho.1 hcs hjn, List.getElem_append_left hjn]
   exact hm _ _ _ _ _ _ (fun _ h => .inl h) (hKeep K (fun b h => ⟨(hK b h).2.1, (hK b h).2.2⟩)) (hrr j hjn)
  ·have e2 : j = xs.length := by simp at hj; omega
   subst e2
   have hl := ho.1
   rw [List.drop_append_of_le_length (by omega), List.drop_of_length_le (by omega), List.nil_append, List.take_of_length_le (by omega), List.getElem_append_right (Nat.le_refl _)]
   simp only [Nat.sub_self, List.getElem_cons_zero]
   exact hm _ _ _ _ _ _ (fun _ h => .inr h) (hKeep K2 (fun b h => ⟨(hK2 b h).2.1, (hK2 b h).2.2⟩)) hr
 ·exact Below.grown (hb.trans (hb1.mono (Nat.le_trans hB hbase))) h5 (by omega) (fun j hj => by have := (ho1.lt _ hj).1; omega)
end Go.Proofs.YtajomnfeicfdlaaGreatDoor
/- New memory: the boxes of a struct that is copied. -/
namespace Go.Proofs.YtajomnfeicfdlaaGreatDoor
open Go.Shelf Go.RowKit Go.Lib
set_option linter.unusedVariables false
set_option linter.unusedSimpArgs false
attribute [local go_sem ↓] Go.wp_at_zero Go.wp_at_succ
def CpP {α : Type} (rel : Rel α) (size bytes : Nat) (xs : List α) (w : World) (e : Ending) (w' : World) : Prop :=
 ∃ p c, e = .returned (.slice p xs.length c) ∧ ListIs rel size bytes (From w.heap.size w') w' (.slice p xs.length c) xs ∧ Below w.heap.size w w'
def Two (t : TypeId) (cl : List Value) (w W : World) : Prop :=
 W.heap[w.heap.size]? = some (.cells cl.toArray t (0, 0)) ∧ (∃ z : Array Value, z.size = cl.length ∧ W.heap[w.heap.size + 1]? = some (.cells z t (0, 0))) ∧ Below w.heap.size w W
theorem Two.start (w : World) (t : TypeId) (a z : Array Value) (h : z.size = a.size) : ∃ W0, (w.alloc (.cells a t)).alloc (.cells z t) = W0 ∧ Two t a.toList w W0 ∧ W0.heap.size = w.heap.size + 2 := by
 obtain ⟨W0, h1, h2, h3, h4, h5⟩ := two_boxes w a z t
 exact ⟨W0, h1, ⟨by simpa using h4, ⟨z, by simpa using h, h5⟩, h2⟩, h3⟩
theorem Two.lt {t : TypeId} {cl : List Value} {w W : World} (h : Two t cl w W) : w.heap.size + 2 ≤ W.heap.size := by
 obtain ⟨h1, ⟨z, _, h2⟩, _⟩ := h
 have := (Array.getElem?_eq_some_iff.1 h2).1
 omega
theorem Two.call {t : TypeId} {cl : List Value} {w W W' : World} (h : Two t cl w W) (hb : Below W.heap.size W W') : Two t cl w W' := by
 have hlt := h.lt
 obtain ⟨h1, ⟨z, hz, h2⟩, h3⟩ := h
 exact ⟨by rw [hb.block _ (by omega)]; exact h1, ⟨z, hz, by rw [hb.block _ (by omega)]; exact h2⟩, h3.trans (hb.mono h3.size)⟩
theorem Two.cell {t : TypeId} {cl : List Value} {w W : World} (h : Two t cl w W) {k : Nat} {v : Value} (hk : cl[k]? = some v) : W.cell? ⟨w.heap.size, k, none⟩ = some v := cell_of_row h.1 (by simpa using hk)
theorem Two.put {t : TypeId} {cl : List Value} {w W : World} (h : Two t cl w W) {k : Nat} (hk : k < cl.length) (v : Value) :
  ∃ W', W.setCell ⟨w.heap.size, k, none⟩ v = W' ∧ W.frozen? ⟨w.heap.size, k, none⟩ = false ∧ Two t (cl.set k v) w W' ∧ W'.heap.size = W.heap.size ∧ Kept (fun b => w.heap.size + 2 ≤ b) W W' := by
 obtain ⟨h1, ⟨z, hz, h2⟩, h3⟩ := h
 obtain ⟨a1, a2, a3, a4, a5⟩ := setCell_any W w.heap.size k v
 refine ⟨_, rfl, frozen_zero h1 k, ⟨?_, ⟨z, by simpa using hz, by rw [a5 _ (by omega)]; exact h2⟩, ⟨a2.trans h3.os, a3.trans h3.tape, a4.trans h3.output, by have := h3.size; omega, fun j hj => by rw [a5 j (by omega)]; exact h3.block j hj⟩⟩, a1, ⟨a2, a3, a4, by omega, fun b hb => a5 b (by omega)⟩⟩
 rw [heap_setCell_same W w.heap.size k cl.toArray t v h1]
 simp [List.setIfInBounds_toArray]
theorem Two.ret {t : TypeId} {cl : List Value} {w W : World} {d : TypeDesc} (h : Two t cl w W) (hu : Tryz.prog.underlying t = some d) (hd : d.isRow = true) (hi : (Tryz.prog.info? t).map (·.size) = some cl.length) :
  W.rangeAt w.heap.size 0 cl ∧ W.there (w.heap.size + 1) 0 cl.toArray.size ∧ ∃ W', W.setCells (w.heap.size + 1) 0 cl.toArray.toList = W' ∧ (loadVar t ⟨w.heap.size + 1, 0, none⟩).run Tryz.prog W' = .ok (.agg cl.toArray) W' ∧ Below w.heap.size w W' ∧ W'.heap.size = W.heap.size ∧ Kept (fun b => w.heap.size + 2 ≤ b) W W' := by
 obtain ⟨h1, ⟨z, hz, h2⟩, h3⟩ := h
 have ht : W.there (w.heap.size + 1) 0 cl.length := fun j hj => by
  rw [Nat.zero_add]
  refine ⟨?_, frozen_zero h2 j⟩
  rw [cellR h2 (Array.getElem?_eq_getElem (by omega : j < z.size))]
  rfl
 obtain ⟨a1, a2, a3, a4, a5⟩ := setCells_any (w.heap.size + 1) cl 0 W
 rw [show cl.toArray.toList = cl by simp]
 refine ⟨fun j v hv => ?_, by simpa using ht, _, rfl, run_loadVar_mid _ _ 0 t cl _ (World.rangeAt_setCells_same W (w.heap.size + 1) 0 cl ht) hu hd hi, ⟨a2.trans h3.os, a3.trans h3.tape, a4.trans h3.output, by have := h3.size; omega, fun j hj => by rw [a5 j (by omega)]; exact h3.block j hj⟩, a1, ⟨a2, a3, a4, by omega, fun b hb => a5 b (by omega)⟩⟩
 rw [Nat.zero_add]
 exact cell_of_row h1 (by simpa using hv)
theorem ListIs.kept {α : Type} {rel : Rel α} (hm : Mono rel) {size bytes B : Nat} {W W' : World} {v : Value} {xs : List α} (h : ListIs rel size bytes (From B W) W v xs) (hk : Kept (fun b => B ≤ b) W W') : ListIs rel size bytes (From B W') W' v xs :=
 h.mono hm (fun b hb => ⟨hb.1, Nat.lt_of_lt_of_le hb.2 hk.size⟩) (hk.less fun b hb => hb.1)
theorem ListIs.grow {α : Type} {rel : Rel α} (hm : Mono rel) {size bytes B : Nat} {W W' : World} {v : Value} {xs : List α} (h : ListIs rel size bytes (From B W) W v xs) (hb : Below W.heap.size W W') : ListIs rel size bytes (From B W') W' v xs :=
 h.mono hm (fun b h => ⟨h.1, Nat.lt_of_lt_of_le h.2 hb.size⟩) (kept_of (fun b h => h.2) hb)
theorem ListIs.less {α : Type} {rel : Rel α} (hm : Mono rel) {size bytes B C : Nat} {W : World} {v : Value} {xs : List α} (h : ListIs rel size bytes (From B W) W v xs) (hb : C ≤ B) : ListIs rel size bytes (From C W) W v xs :=
 h.mono hm (fun b h => ⟨by have := h.1; omega, h.2⟩) ⟨rfl, rfl, rfl, Nat.le_refl _, fun _ _ => rfl⟩
theorem ListIs.onw {α : Type} {rel : Rel α} (hm : Mono rel) {size bytes B : Nat} {W W' : World} {v : Value} {xs : List α} (h : ListIs rel size bytes (From B W) W v xs) (hk : Kept (From B W) W W') : ListIs rel size bytes (From B W') W' v xs :=
 h.mono hm (fun b hb => ⟨hb.1, Nat.lt_of_lt_of_le hb.2 hk.size⟩) hk
theorem Two.mid {t : TypeId} {w : World} : ∀ (cs : List Value) {cl : List Value} {W : World} (h : Two t cl w W) (lo : Nat) (hl : lo + cs.length ≤ cl.length),
  ∃ W' cl', W.setCells w.heap.size lo cs = W' ∧ Two t cl' w W' ∧ cl'.length = cl.length ∧ (∀ (j : Nat) (u : Value), cs[j]? = some u → cl'[lo + j]? = some u) ∧ (∀ k, k < lo ∨ lo + cs.length ≤ k → cl'[k]? = cl[k]?) ∧ W'.heap.size = W.heap.size ∧ Kept (fun b => w.heap.size + 2 ≤ b) W W'
 | [], cl, W, h, lo, hl => ⟨W, cl, rfl, h, rfl, fun j u hu => by simp at hu, fun k _ => rfl, rfl, Kept.refl _ _⟩
 | v :: vs, cl, W, h, lo, hl => by
  simp only [List.length_cons] at hl
  obtain ⟨W1, hW1, _, t1, s1, k1⟩ := h.put (k := lo) (by omega) v
  obtain ⟨W2, cl2, hW2, t2, l2, c2, o2, s2, k2⟩ := Two.mid vs t1 (lo + 1) (by simp; omega)
  refine ⟨W2, cl2, ?_, t2, by rw [l2]; simp, fun j u hu => ?_, fun k hk => ?_, by omega, k1.trans k2⟩
  ·rw [← hW2, ← hW1]; rfl
  ·cases j with
   | zero =>
    simp only [List.getElem?_cons_zero, Option.some.injEq] at hu
    rw [Nat.add_zero, o2 lo (.inl (by omega)), List.getElem?_set_self (by omega), hu]
   | succ j =>
    simp only [List.getElem?_cons_succ] at hu
    have := c2 j u hu
    rwa [show lo + 1 + j = lo + (j + 1) by omega] at this
  ·simp only [List.length_cons] at hk
   rw [o2 k (by omega), List.getElem?_set_ne (by omega)]
theorem Two.there {t : TypeId} {cl : List Value} {w W : World} (h : Two t cl w W) (lo n : Nat) (hl : lo + n ≤ cl.length) : W.there w.heap.size lo n := fun j hj => by
 refine ⟨?_, frozen_zero h.1 _⟩
 rw [cellR h.1 (by simpa using List.getElem?_eq_getElem (by omega : lo + j < cl.length))]
 rfl
theorem Two.range {t : TypeId} {cl : List Value} {w W : World} (h : Two t cl w W) {lo : Nat} {cs : List Value} (hc : ∀ (j : Nat) (u : Value), cs[j]? = some u → cl[lo + j]? = some u) : W.rangeAt w.heap.size lo cs := fun j u hu => h.cell (hc j u hu)
theorem rel_new {α : Type} {rel : Rel α} (hm : Mono rel) {B C : Nat} {W W' : World} {cs : List Value} {x : α} (h : rel (From B W) W cs x) (hB : C ≤ B) (hk : Kept (fun b => C ≤ b) W W') : rel (From C W') W' cs x :=
 hm _ _ _ _ _ _ (fun b hb => ⟨by have := hb.1; omega, Nat.lt_of_lt_of_le hb.2 hk.size⟩) (hk.less fun b hb => by have := hb.1; omega) h
theorem box_new (W : World) (t : TypeId) (z : Array Value) (cl : List Value) (hl : z.size = cl.length) : ∃ WA, W.alloc (.cells z t) = WA ∧ WA.there W.heap.size 0 cl.toArray.size ∧ ∃ WS, WA.setCells W.heap.size 0 cl.toArray.toList = WS ∧ WS.rangeAt W.heap.size 0 cl ∧ WS.heap.size = W.heap.size + 1 ∧ Below W.heap.size W WS ∧ ∀ V, Below WS.heap.size WS V → V.rangeAt W.heap.size 0 cl := by
 refine ⟨_, rfl, ?_⟩
 have hg : (W.alloc (.cells z t)).heap[W.heap.size]? = some (.cells z t (0, 0)) := heap_alloc_new W _
 have hB : Below W.heap.size W (W.alloc (.cells z t)) := (Below.refl _ _).alloc (Nat.le_refl _) _
 have ht : (W.alloc (.cells z t)).there W.heap.size 0 cl.length := fun j hj => by
  rw [Nat.zero_add]
  refine ⟨?_, frozen_zero hg j⟩
  rw [cellR hg (Array.getElem?_eq_getElem (by omega : j < z.size))]
  rfl
 obtain ⟨a1, a2, a3, a4, a5⟩ := setCells_any W.heap.size cl 0 (W.alloc (.cells z t))
 have hs : ((W.alloc (.cells z t)).setCells W.heap.size 0 cl).heap.size = W.heap.size + 1 := by rw [a1]; simp
 have hr := World.rangeAt_setCells_same (W.alloc (.cells z t)) W.heap.size 0 cl ht
 refine ⟨by simpa using ht, _, rfl, by simpa using hr, by simpa using hs, ?_, fun V hV => ?_⟩
 ·rw [show cl.toArray.toList = cl by simp]
  exact ⟨a2.trans hB.os, a3.trans hB.tape, a4.trans hB.output, by omega, fun j hj => by rw [a5 j (by omega)]; exact hB.block j hj⟩
 ·rw [show cl.toArray.toList = cl by simp] at hV
  intro j v hv
  rw [hV.cell (p := ⟨W.heap.size, _, none⟩) (by show W.heap.size < _; omega)]
  exact hr j v hv
theorem setCell_self {W : World} {g k : Nat} {cur : Array Value} {t : TypeId} {v : Value} (hg : W.heap[g]? = some (.cells cur t (0, 0))) (h : cur[k]? = some v) : W.setCell ⟨g, k, none⟩ v = W := by
 rw [setCell_eq_setRow W g k cur t (0, 0) v hg]
 have : cur.setIfInBounds k v = cur := by
  apply Array.ext_getElem?
  intro j
  by_cases e : k = j
  ·subst e
   have hk : k < cur.size := (Array.getElem?_eq_some_iff.1 h).1
   rw [Array.getElem?_setIfInBounds_self_of_lt hk, h]
  ·rw [Array.getElem?_setIfInBounds_ne e]
 rw [this]
 exact setRow_self W g cur t (0, 0) hg
/-- What a part's function makes: the part, in new memory. -/
def FreshC {α : Type} (rel : Rel α) (F : Nat) : Prop := ∀ (K : Nat → Prop) (W : World) (cs : List Value) (x : α), rel K W cs x → (∀ b, K b → b < W.heap.size) →
 Calls Tryz.prog F #[asV cs] W fun e w' => ∃ cs', e = .returned (asV cs') ∧ rel (From W.heap.size w') w' cs' x ∧ Below W.heap.size W w'
/-- .. and a list's, with the part's function as argument or without. -/
def FreshL {α : Type} (rel : Rel α) (size bytes F : Nat) (more : Array Value) : Prop := ∀ (K : Nat → Prop) (W : World) (v : Value) (xs : List α), ListIs rel size bytes K W v xs → (∀ b, K b → b < W.heap.size) →
 Calls Tryz.prog F (#[v] ++ more) W fun e w' => CpP rel size bytes xs W e w'
/-- A list that is put behind none, into new memory. -/
theorem cpy_nil {α : Type} {rel : Rel α} (hf : Flat rel) {size bytes : Nat} {ts te : TypeId} {i0 : TypeInfo} {z : Value} (hu : Tryz.prog.underlying ts = some (.slice te)) (hi : Tryz.prog.info? te = some i0) (hz : i0.zero = some z) (hs : i0.size = size) (hby : i0.bytes = bytes) (hzs : z.cells.size = size) (hs0 : 0 < size) (hb0 : 0 < bytes)
  {X : World} {K : Nat → Prop} {vx : Value} {xs : List α} (h : ListIs rel size bytes K X vx xs) : ∃ W' p c, (Builtin.append_ #[ts, ts] ts #[.slice none 0 0, vx]).run Tryz.prog X = .ok (.slice p xs.length c) W' ∧ ListIs rel size bytes (From X.heap.size W') W' (.slice p xs.length c) xs ∧ Below X.heap.size X W' := by
 have hown : X.ownsRow X.heap.size te size (.slice none 0 0) 0 [] := World.ownsRow_nil _ _ _ _
 obtain ⟨q, c, rfl, hb, hp⟩ := h
 have hmax : xs.length ≤ maxLen := by
  have : xs.length * 1 ≤ xs.length * bytes := Nat.mul_le_mul_left _ hb0
  unfold maxLen; omega
 have hno : ∀ j, (Value.slice none 0 0).ownBlock = some j → X.heap.size ≤ j := fun j hj => by simp [Value.ownBlock] at hj
 by_cases h0 : 0 < xs.length
 ·obtain ⟨b, o, rfl, hKb, hc⟩ := hp h0
  obtain ⟨cells, h1, h2, h3⟩ := cells_upto hc xs.length (Nat.le_refl _)
  have hone : ∀ u ∈ cells, u.oneCell' = true := fun u hu' => by
   obtain ⟨k, hk, rfl⟩ := List.getElem_of_mem hu'
   have hkk : k / size < xs.length := by rw [Nat.div_lt_iff_lt_mul hs0]; omega
   refine hf.2 _ _ _ _ (h3 (k / size) hkk hkk) _ ?_
   rw [List.mem_iff_getElem?]
   refine ⟨k % size, ?_⟩
   rw [List.getElem?_take_of_lt (Nat.mod_lt _ hs0), List.getElem?_drop, show k / size * size + k % size = k by rw [Nat.mul_comm]; exact Nat.div_add_mod k size]
   exact List.getElem?_eq_getElem hk
  have hadd : ∀ j u, cells[j]? = some u → X.cell? ((⟨b, o, none⟩ : Addr).add j) = some u := fun j u hu' => by
   have : (⟨b, o, none⟩ : Addr).add j = ⟨b, o + j, none⟩ := by unfold Addr.add; split <;> simp_all
   rw [this]; exact h2 j u hu'
  obtain ⟨v', W', e, ho, h5, _, h6⟩ := run_append_own_at (P := Tryz.prog) X X.heap.size ts ts te i0 z size bytes hu hi hz hs hby hzs hs0 _ 0 [] hown ⟨b, o, none⟩ xs.length c cells (by rw [h1]) hadd hone (by omega) (by rw [Nat.zero_add]; exact hb) (Nat.le_refl _)
  rw [Nat.zero_add, List.nil_append] at ho
  have hlist : ListIs rel size bytes (From X.heap.size W') W' v' xs := own_list hf ho hb (fun j hj => h3 j hj hj)
  obtain ⟨p', c', rfl, _⟩ := id hlist
  exact ⟨W', p', c', e, hlist, Below.grown (Below.refl _ _) h5 (Nat.le_refl _) hno⟩
 ·have hx : xs = [] := List.eq_nil_of_length_eq_zero (by omega)
  subst hx
  cases q with
  | none => exact ⟨X, none, 0, run_append_none_c (P := Tryz.prog) (w := X) X.heap.size ts ts te i0 size hu hi _ _ _ _ hown, ⟨_, 0, rfl, by simp, fun h => by simp at h⟩, Below.refl _ _⟩
  | some ad =>
   obtain ⟨v', W', e, ho, h5, _, h6⟩ := run_append_own_at (P := Tryz.prog) X X.heap.size ts ts te i0 z size bytes hu hi hz hs hby hzs hs0 _ 0 [] hown ad 0 c [] (by simp) (fun j u hu => by simp at hu) (fun u hu => by simp at hu) (by unfold maxLen; omega) (by omega) (Nat.le_refl _)
   have hlist : ListIs rel size bytes (From X.heap.size W') W' v' ([] : List α) := own_list hf (K := K) (W := X) ho (by simp) (fun j hj => by simp at hj)
   obtain ⟨p', c', rfl, _⟩ := id hlist
   exact ⟨W', p', c', e, hlist, Below.grown (Below.refl _ _) h5 (Nat.le_refl _) hno⟩
theorem OwnR.none {α : Type} {rel : Rel α} {size : Nat} {te : TypeId} {base : Nat} {W : World} {u : Value} (h : W.ownsRow base te size u 0 []) : OwnR rel size te base W u ([] : List α) :=
 ⟨fun _ => False, [], fun b h => h.elim, h, fun j h => by simp at h⟩
end Go.Proofs.YtajomnfeicfdlaaGreatDoor
/- Room for parts: what slices.Grow makes of no list. -/
namespace Go.Proofs.YtajomnfeicfdlaaGreatDoor
open Go.Shelf Go.RowKit Go.Lib Go.Sort
set_option linter.unusedVariables false
set_option linter.unusedSimpArgs false
attribute [local go_sem ↓] Go.wp_at_zero Go.wp_at_succ
theorem inE_val : ∃ i0, Tryz.prog.info? 184 = some i0 ∧ i0.zero = some (.agg #[.int .u8 0, .bool false, .int .i64 0, .string ⟨#[]⟩]) ∧ i0.size = 4 ∧ i0.bytes = 32 := by
 have h1 : (Tryz.prog.info? 184).bind (·.zero) = some (.agg #[.int .u8 0, .bool false, .int .i64 0, .string ⟨#[]⟩]) := by kernel_rfl
 have h2 : (Tryz.prog.info? 184).map (·.size) = some 4 := by kernel_rfl
 have h3 : (Tryz.prog.info? 184).map (·.bytes) = some 32 := by kernel_rfl
 generalize Tryz.prog.info? 184 = i at *
 cases i with
 | none => cases h1
 | some i => exact ⟨i, rfl, h1, Option.some.inj h2, Option.some.inj h3⟩
set_option maxHeartbeats 4000000 in
set_option maxRecDepth 100000 in
theorem grow_val (n : Nat) (w : World) (hn : n * 32 ≤ 140737488355328) :
  Calls Tryz.prog 118 #[.slice none 0 0, .int .i64 n] w fun e w' => ∃ u, e = .returned u ∧ w'.ownsRow w.heap.size 184 4 u 0 [] ∧ Below w.heap.size w w' := by
 by_cases h0 : n = 0
 ·subst h0
  go_enter Tryz.func118, Tryz.ntmps118
  go_wp2_with fail
  go_ret
  exact ⟨_, rfl, World.ownsRow_nil _ _ _ _, Below.refl _ _⟩
 ·obtain ⟨i0, hi0, hz0, hz1, hz2⟩ := inE_val
  have hrz : ∀ ty, (Builtin.append_ #[154, 3] ty #[.slice none 0 0, .int .i64 n]).run Tryz.prog w = .ok (.slice (some ⟨w.heap.size, 0, none⟩) n (grownCap w n 0 184)) (w.drew.alloc (.cells (Builtin.zeroCells (Value.cells (.agg #[.int .u8 0, .bool false, .int .i64 0, .string ⟨#[]⟩])) n ++ Builtin.zeroCells (Value.cells (.agg #[.int .u8 0, .bool false, .int .i64 0, .string ⟨#[]⟩])) (grownCap w n 0 184 - n)) 184)) :=
   fun ty => run_append_nil_zeros w 154 3 ty 184 i0 _ .i64 .i64 Tryz.underlying154 Tryz.underlying3 hi0 hz0 n (by omega) (by omega) (by omega) (by rw [hz2]; omega)
  have hGn : n ≤ grownCap w n 0 184 := grownCap_ge w _ _ _
  have hGm : grownCap w n 0 184 ≤ maxLen := grownCap_le_maxLen w n 0 184 (by unfold maxLen; omega)
  obtain ⟨G, hG⟩ : ∃ G, G = grownCap w n 0 184 := ⟨_, rfl⟩
  rw [← hG] at hrz hGn hGm
  have hG63 : G ≤ 9223372036854775807 := by unfold maxLen at hGm; omega
  have HM : Hid (G ≤ maxLen) := hGm
  have h1 : ¬ ((n : Int) < 0) := by omega
  have h2 : (0 : Int) < (n : Int) := by omega
  clear hG hGm
  go_enter Tryz.func118, Tryz.ntmps118
  go_wp2_with (at_builtin; refine Lib.wpList_append_run _ rfl _ _ _ _ rfl _ _ rfl rfl _ _ (hrz _) ?_)
  all_goals (go_ret; refine ⟨_, rfl, ⟨rfl, .inr ⟨w.heap.size, G, _, rfl, Nat.le_refl _, heap_alloc_new w.drew _, Nat.zero_le _, HM.out, ?_, rfl⟩⟩, ?_⟩)
  all_goals (first
   | (exact (Below.refl _ _).drew.alloc (Nat.le_refl _) _)
   | (simp [Builtin.zeroCells, Value.cells]; omega))
theorem inE_stp : ∃ i0, Tryz.prog.info? 137 = some i0 ∧ i0.zero = some (.agg #[.int .u8 0, .string ⟨#[]⟩, .int .i64 0]) ∧ i0.size = 3 ∧ i0.bytes = 32 := by
 have h1 : (Tryz.prog.info? 137).bind (·.zero) = some (.agg #[.int .u8 0, .string ⟨#[]⟩, .int .i64 0]) := by kernel_rfl
 have h2 : (Tryz.prog.info? 137).map (·.size) = some 3 := by kernel_rfl
 have h3 : (Tryz.prog.info? 137).map (·.bytes) = some 32 := by kernel_rfl
 generalize Tryz.prog.info? 137 = i at *
 cases i with
 | none => cases h1
 | some i => exact ⟨i, rfl, h1, Option.some.inj h2, Option.some.inj h3⟩
set_option maxHeartbeats 4000000 in
set_option maxRecDepth 100000 in
theorem grow_stp (n : Nat) (w : World) (hn : n * 32 ≤ 140737488355328) :
  Calls Tryz.prog 93 #[.slice none 0 0, .int .i64 n] w fun e w' => ∃ u, e = .returned u ∧ w'.ownsRow w.heap.size 137 3 u 0 [] ∧ Below w.heap.size w w' := by
 by_cases h0 : n = 0
 ·subst h0
  go_enter Tryz.func93, Tryz.ntmps93
  go_wp2_with fail
  go_ret
  exact ⟨_, rfl, World.ownsRow_nil _ _ _ _, Below.refl _ _⟩
 ·obtain ⟨i0, hi0, hz0, hz1, hz2⟩ := inE_stp
  have hrz : ∀ ty, (Builtin.append_ #[48, 3] ty #[.slice none 0 0, .int .i64 n]).run Tryz.prog w = .ok (.slice (some ⟨w.heap.size, 0, none⟩) n (grownCap w n 0 137)) (w.drew.alloc (.cells (Builtin.zeroCells (Value.cells (.agg #[.int .u8 0, .string ⟨#[]⟩, .int .i64 0])) n ++ Builtin.zeroCells (Value.cells (.agg #[.int .u8 0, .string ⟨#[]⟩, .int .i64 0])) (grownCap w n 0 137 - n)) 137)) :=
   fun ty => run_append_nil_zeros w 48 3 ty 137 i0 _ .i64 .i64 Tryz.underlying48 Tryz.underlying3 hi0 hz0 n (by omega) (by omega) (by omega) (by rw [hz2]; omega)
  have hGn : n ≤ grownCap w n 0 137 := grownCap_ge w _ _ _
  have hGm : grownCap w n 0 137 ≤ maxLen := grownCap_le_maxLen w n 0 137 (by unfold maxLen; omega)
  obtain ⟨G, hG⟩ : ∃ G, G = grownCap w n 0 137 := ⟨_, rfl⟩
  rw [← hG] at hrz hGn hGm
  have hG63 : G ≤ 9223372036854775807 := by unfold maxLen at hGm; omega
  have HM : Hid (G ≤ maxLen) := hGm
  have h1 : ¬ ((n : Int) < 0) := by omega
  have h2 : (0 : Int) < (n : Int) := by omega
  clear hG hGm
  go_enter Tryz.func93, Tryz.ntmps93
  go_wp2_with (at_builtin; refine Lib.wpList_append_run _ rfl _ _ _ _ rfl _ _ rfl rfl _ _ (hrz _) ?_)
  all_goals (go_ret; refine ⟨_, rfl, ⟨rfl, .inr ⟨w.heap.size, G, _, rfl, Nat.le_refl _, heap_alloc_new w.drew _, Nat.zero_le _, HM.out, ?_, rfl⟩⟩, ?_⟩)
  all_goals (first
   | (exact (Below.refl _ _).drew.alloc (Nat.le_refl _) _)
   | (simp [Builtin.zeroCells, Value.cells]; omega))
theorem inE_itm : ∃ i0, Tryz.prog.info? 142 = some i0 ∧ i0.zero = some (.agg #[.int .u8 0, .slice none 0 0]) ∧ i0.size = 2 ∧ i0.bytes = 32 := by
 have h1 : (Tryz.prog.info? 142).bind (·.zero) = some (.agg #[.int .u8 0, .slice none 0 0]) := by kernel_rfl
 have h2 : (Tryz.prog.info? 142).map (·.size) = some 2 := by kernel_rfl
 have h3 : (Tryz.prog.info? 142).map (·.bytes) = some 32 := by kernel_rfl
 generalize Tryz.prog.info? 142 = i at *
 cases i with
 | none => cases h1
 | some i => exact ⟨i, rfl, h1, Option.some.inj h2, Option.some.inj h3⟩
set_option maxHeartbeats 4000000 in
set_option maxRecDepth 100000 in
theorem grow_itm (n : Nat) (w : World) (hn : n * 32 ≤ 140737488355328) :
  Calls Tryz.prog 94 #[.slice none 0 0, .int .i64 n] w fun e w' => ∃ u, e = .returned u ∧ w'.ownsRow w.heap.size 142 2 u 0 [] ∧ Below w.heap.size w w' := by
 by_cases h0 : n = 0
 ·subst h0
  go_enter Tryz.func94, Tryz.ntmps94
  go_wp2_with fail
  go_ret
  exact ⟨_, rfl, World.ownsRow_nil _ _ _ _, Below.refl _ _⟩
 ·obtain ⟨i0, hi0, hz0, hz1, hz2⟩ := inE_itm
  have hrz : ∀ ty, (Builtin.append_ #[50, 3] ty #[.slice none 0 0, .int .i64 n]).run Tryz.prog w = .ok (.slice (some ⟨w.heap.size, 0, none⟩) n (grownCap w n 0 142)) (w.drew.alloc (.cells (Builtin.zeroCells (Value.cells (.agg #[.int .u8 0, .slice none 0 0])) n ++ Builtin.zeroCells (Value.cells (.agg #[.int .u8 0, .slice none 0 0])) (grownCap w n 0 142 - n)) 142)) :=
   fun ty => run_append_nil_zeros w 50 3 ty 142 i0 _ .i64 .i64 Tryz.underlying50 Tryz.underlying3 hi0 hz0 n (by omega) (by omega) (by omega) (by rw [hz2]; omega)
  have hGn : n ≤ grownCap w n 0 142 := grownCap_ge w _ _ _
  have hGm : grownCap w n 0 142 ≤ maxLen := grownCap_le_maxLen w n 0 142 (by unfold maxLen; omega)
  obtain ⟨G, hG⟩ : ∃ G, G = grownCap w n 0 142 := ⟨_, rfl⟩
  rw [← hG] at hrz hGn hGm
  have hG63 : G ≤ 9223372036854775807 := by unfold maxLen at hGm; omega
  have HM : Hid (G ≤ maxLen) := hGm
  have h1 : ¬ ((n : Int) < 0) := by omega
  have h2 : (0 : Int) < (n : Int) := by omega
  clear hG hGm
  go_enter Tryz.func94, Tryz.ntmps94
  go_wp2_with (at_builtin; refine Lib.wpList_append_run _ rfl _ _ _ _ rfl _ _ rfl rfl _ _ (hrz _) ?_)
  all_goals (go_ret; refine ⟨_, rfl, ⟨rfl, .inr ⟨w.heap.size, G, _, rfl, Nat.le_refl _, heap_alloc_new w.drew _, Nat.zero_le _, HM.out, ?_, rfl⟩⟩, ?_⟩)
  all_goals (first
   | (exact (Below.refl _ _).drew.alloc (Nat.le_refl _) _)
   | (simp [Builtin.zeroCells, Value.cells]; omega))
theorem inE_txt : ∃ i0, Tryz.prog.info? 9 = some i0 ∧ i0.zero = some (.string ⟨#[]⟩) ∧ i0.size = 1 ∧ i0.bytes = 16 := by
 have h1 : (Tryz.prog.info? 9).bind (·.zero) = some (.string ⟨#[]⟩) := by kernel_rfl
 have h2 : (Tryz.prog.info? 9).map (·.size) = some 1 := by kernel_rfl
 have h3 : (Tryz.prog.info? 9).map (·.bytes) = some 16 := by kernel_rfl
 generalize Tryz.prog.info? 9 = i at *
 cases i with
 | none => cases h1
 | some i => exact ⟨i, rfl, h1, Option.some.inj h2, Option.some.inj h3⟩
set_option maxHeartbeats 4000000 in
set_option maxRecDepth 100000 in
theorem grow_txt (n : Nat) (w : World) (hn : n * 16 ≤ 140737488355328) :
  Calls Tryz.prog 95 #[.slice none 0 0, .int .i64 n] w fun e w' => ∃ u, e = .returned u ∧ w'.ownsRow w.heap.size 9 1 u 0 [] ∧ Below w.heap.size w w' := by
 by_cases h0 : n = 0
 ·subst h0
  go_enter Tryz.func95, Tryz.ntmps95
  go_wp2_with fail
  go_ret
  exact ⟨_, rfl, World.ownsRow_nil _ _ _ _, Below.refl _ _⟩
 ·obtain ⟨i0, hi0, hz0, hz1, hz2⟩ := inE_txt
  have hrz : ∀ ty, (Builtin.append_ #[51, 3] ty #[.slice none 0 0, .int .i64 n]).run Tryz.prog w = .ok (.slice (some ⟨w.heap.size, 0, none⟩) n (grownCap w n 0 9)) (w.drew.alloc (.cells (Builtin.zeroCells (Value.cells (.string ⟨#[]⟩)) n ++ Builtin.zeroCells (Value.cells (.string ⟨#[]⟩)) (grownCap w n 0 9 - n)) 9)) :=
   fun ty => run_append_nil_zeros w 51 3 ty 9 i0 _ .i64 .i64 Tryz.underlying51 Tryz.underlying3 hi0 hz0 n (by omega) (by omega) (by omega) (by rw [hz2]; omega)
  have hGn : n ≤ grownCap w n 0 9 := grownCap_ge w _ _ _
  have hGm : grownCap w n 0 9 ≤ maxLen := grownCap_le_maxLen w n 0 9 (by unfold maxLen; omega)
  obtain ⟨G, hG⟩ : ∃ G, G = grownCap w n 0 9 := ⟨_, rfl⟩
  rw [← hG] at hrz hGn hGm
  have hG63 : G ≤ 9223372036854775807 := by unfold maxLen at hGm; omega
  have HM : Hid (G ≤ maxLen) := hGm
  have h1 : ¬ ((n : Int) < 0) := by omega
  have h2 : (0 : Int) < (n : Int) := by omega
  clear hG hGm
  go_enter Tryz.func95, Tryz.ntmps95
  go_wp2_with (at_builtin; refine Lib.wpList_append_run _ rfl _ _ _ _ rfl _ _ rfl rfl _ _ (hrz _) ?_)
  all_goals (go_ret; refine ⟨_, rfl, ⟨rfl, .inr ⟨w.heap.size, G, _, rfl, Nat.le_refl _, heap_alloc_new w.drew _, Nat.zero_le _, HM.out, ?_, rfl⟩⟩, ?_⟩)
  all_goals (first
   | (exact (Below.refl _ _).drew.alloc (Nat.le_refl _) _)
   | (simp [Builtin.zeroCells, Value.cells]; omega))
theorem inE_cl : ∃ i0, Tryz.prog.info? 150 = some i0 ∧ i0.zero = some (.agg #[.string ⟨#[]⟩, .int .u8 0]) ∧ i0.size = 2 ∧ i0.bytes = 24 := by
 have h1 : (Tryz.prog.info? 150).bind (·.zero) = some (.agg #[.string ⟨#[]⟩, .int .u8 0]) := by kernel_rfl
 have h2 : (Tryz.prog.info? 150).map (·.size) = some 2 := by kernel_rfl
 have h3 : (Tryz.prog.info? 150).map (·.bytes) = some 24 := by kernel_rfl
 generalize Tryz.prog.info? 150 = i at *
 cases i with
 | none => cases h1
 | some i => exact ⟨i, rfl, h1, Option.some.inj h2, Option.some.inj h3⟩
set_option maxHeartbeats 4000000 in
set_option maxRecDepth 100000 in
theorem grow_cl (n : Nat) (w : World) (hn : n * 24 ≤ 140737488355328) :
  Calls Tryz.prog 96 #[.slice none 0 0, .int .i64 n] w fun e w' => ∃ u, e = .returned u ∧ w'.ownsRow w.heap.size 150 2 u 0 [] ∧ Below w.heap.size w w' := by
 by_cases h0 : n = 0
 ·subst h0
  go_enter Tryz.func96, Tryz.ntmps96
  go_wp2_with fail
  go_ret
  exact ⟨_, rfl, World.ownsRow_nil _ _ _ _, Below.refl _ _⟩
 ·obtain ⟨i0, hi0, hz0, hz1, hz2⟩ := inE_cl
  have hrz : ∀ ty, (Builtin.append_ #[41, 3] ty #[.slice none 0 0, .int .i64 n]).run Tryz.prog w = .ok (.slice (some ⟨w.heap.size, 0, none⟩) n (grownCap w n 0 150)) (w.drew.alloc (.cells (Builtin.zeroCells (Value.cells (.agg #[.string ⟨#[]⟩, .int .u8 0])) n ++ Builtin.zeroCells (Value.cells (.agg #[.string ⟨#[]⟩, .int .u8 0])) (grownCap w n 0 150 - n)) 150)) :=
   fun ty => run_append_nil_zeros w 41 3 ty 150 i0 _ .i64 .i64 Tryz.underlying41 Tryz.underlying3 hi0 hz0 n (by omega) (by omega) (by omega) (by rw [hz2]; omega)
  have hGn : n ≤ grownCap w n 0 150 := grownCap_ge w _ _ _
  have hGm : grownCap w n 0 150 ≤ maxLen := grownCap_le_maxLen w n 0 150 (by unfold maxLen; omega)
  obtain ⟨G, hG⟩ : ∃ G, G = grownCap w n 0 150 := ⟨_, rfl⟩
  rw [← hG] at hrz hGn hGm
  have hG63 : G ≤ 9223372036854775807 := by unfold maxLen at hGm; omega
  have HM : Hid (G ≤ maxLen) := hGm
  have h1 : ¬ ((n : Int) < 0) := by omega
  have h2 : (0 : Int) < (n : Int) := by omega
  clear hG hGm
  go_enter Tryz.func96, Tryz.ntmps96
  go_wp2_with (at_builtin; refine Lib.wpList_append_run _ rfl _ _ _ _ rfl _ _ rfl rfl _ _ (hrz _) ?_)
  all_goals (go_ret; refine ⟨_, rfl, ⟨rfl, .inr ⟨w.heap.size, G, _, rfl, Nat.le_refl _, heap_alloc_new w.drew _, Nat.zero_le _, HM.out, ?_, rfl⟩⟩, ?_⟩)
  all_goals (first
   | (exact (Below.refl _ _).drew.alloc (Nat.le_refl _) _)
   | (simp [Builtin.zeroCells, Value.cells]; omega))
theorem inE_row : ∃ i0, Tryz.prog.info? 155 = some i0 ∧ i0.zero = some (.slice none 0 0) ∧ i0.size = 1 ∧ i0.bytes = 24 := by
 have h1 : (Tryz.prog.info? 155).bind (·.zero) = some (.slice none 0 0) := by kernel_rfl
 have h2 : (Tryz.prog.info? 155).map (·.size) = some 1 := by kernel_rfl
 have h3 : (Tryz.prog.info? 155).map (·.bytes) = some 24 := by kernel_rfl
 generalize Tryz.prog.info? 155 = i at *
 cases i with
 | none => cases h1
 | some i => exact ⟨i, rfl, h1, Option.some.inj h2, Option.some.inj h3⟩
set_option maxHeartbeats 4000000 in
set_option maxRecDepth 100000 in
theorem grow_row (n : Nat) (w : World) (hn : n * 24 ≤ 140737488355328) :
  Calls Tryz.prog 97 #[.slice none 0 0, .int .i64 n] w fun e w' => ∃ u, e = .returned u ∧ w'.ownsRow w.heap.size 155 1 u 0 [] ∧ Below w.heap.size w w' := by
 by_cases h0 : n = 0
 ·subst h0
  go_enter Tryz.func97, Tryz.ntmps97
  go_wp2_with fail
  go_ret
  exact ⟨_, rfl, World.ownsRow_nil _ _ _ _, Below.refl _ _⟩
 ·obtain ⟨i0, hi0, hz0, hz1, hz2⟩ := inE_row
  have hrz : ∀ ty, (Builtin.append_ #[42, 3] ty #[.slice none 0 0, .int .i64 n]).run Tryz.prog w = .ok (.slice (some ⟨w.heap.size, 0, none⟩) n (grownCap w n 0 155)) (w.drew.alloc (.cells (Builtin.zeroCells (Value.cells (.slice none 0 0)) n ++ Builtin.zeroCells (Value.cells (.slice none 0 0)) (grownCap w n 0 155 - n)) 155)) :=
   fun ty => run_append_nil_zeros w 42 3 ty 155 i0 _ .i64 .i64 Tryz.underlying42 Tryz.underlying3 hi0 hz0 n (by omega) (by omega) (by omega) (by rw [hz2]; omega)
  have hGn : n ≤ grownCap w n 0 155 := grownCap_ge w _ _ _
  have hGm : grownCap w n 0 155 ≤ maxLen := grownCap_le_maxLen w n 0 155 (by unfold maxLen; omega)
  obtain ⟨G, hG⟩ : ∃ G, G = grownCap w n 0 155 := ⟨_, rfl⟩
  rw [← hG] at hrz hGn hGm
  have hG63 : G ≤ 9223372036854775807 := by unfold maxLen at hGm; omega
  have HM : Hid (G ≤ maxLen) := hGm
  have h1 : ¬ ((n : Int) < 0) := by omega
  have h2 : (0 : Int) < (n : Int) := by omega
  clear hG hGm
  go_enter Tryz.func97, Tryz.ntmps97
  go_wp2_with (at_builtin; refine Lib.wpList_append_run _ rfl _ _ _ _ rfl _ _ rfl rfl _ _ (hrz _) ?_)
  all_goals (go_ret; refine ⟨_, rfl, ⟨rfl, .inr ⟨w.heap.size, G, _, rfl, Nat.le_refl _, heap_alloc_new w.drew _, Nat.zero_le _, HM.out, ?_, rfl⟩⟩, ?_⟩)
  all_goals (first
   | (exact (Below.refl _ _).drew.alloc (Nat.le_refl _) _)
   | (simp [Builtin.zeroCells, Value.cells]; omega))
theorem inE_tbl : ∃ i0, Tryz.prog.info? 97 = some i0 ∧ i0.zero = some (.agg #[.string ⟨#[]⟩, .slice none 0 0, .slice none 0 0]) ∧ i0.size = 3 ∧ i0.bytes = 64 := by
 have h1 : (Tryz.prog.info? 97).bind (·.zero) = some (.agg #[.string ⟨#[]⟩, .slice none 0 0, .slice none 0 0]) := by kernel_rfl
 have h2 : (Tryz.prog.info? 97).map (·.size) = some 3 := by kernel_rfl
 have h3 : (Tryz.prog.info? 97).map (·.bytes) = some 64 := by kernel_rfl
 generalize Tryz.prog.info? 97 = i at *
 cases i with
 | none => cases h1
 | some i => exact ⟨i, rfl, h1, Option.some.inj h2, Option.some.inj h3⟩
set_option maxHeartbeats 4000000 in
set_option maxRecDepth 100000 in
theorem grow_tbl (n : Nat) (w : World) (hn : n * 64 ≤ 140737488355328) :
  Calls Tryz.prog 73 #[.slice none 0 0, .int .i64 n] w fun e w' => ∃ u, e = .returned u ∧ w'.ownsRow w.heap.size 97 3 u 0 [] ∧ Below w.heap.size w w' := by
 by_cases h0 : n = 0
 ·subst h0
  go_enter Tryz.func73, Tryz.ntmps73
  go_wp2_with fail
  go_ret
  exact ⟨_, rfl, World.ownsRow_nil _ _ _ _, Below.refl _ _⟩
 ·obtain ⟨i0, hi0, hz0, hz1, hz2⟩ := inE_tbl
  have hrz : ∀ ty, (Builtin.append_ #[55, 3] ty #[.slice none 0 0, .int .i64 n]).run Tryz.prog w = .ok (.slice (some ⟨w.heap.size, 0, none⟩) n (grownCap w n 0 97)) (w.drew.alloc (.cells (Builtin.zeroCells (Value.cells (.agg #[.string ⟨#[]⟩, .slice none 0 0, .slice none 0 0])) n ++ Builtin.zeroCells (Value.cells (.agg #[.string ⟨#[]⟩, .slice none 0 0, .slice none 0 0])) (grownCap w n 0 97 - n)) 97)) :=
   fun ty => run_append_nil_zeros w 55 3 ty 97 i0 _ .i64 .i64 Tryz.underlying55 Tryz.underlying3 hi0 hz0 n (by omega) (by omega) (by omega) (by rw [hz2]; omega)
  have hGn : n ≤ grownCap w n 0 97 := grownCap_ge w _ _ _
  have hGm : grownCap w n 0 97 ≤ maxLen := grownCap_le_maxLen w n 0 97 (by unfold maxLen; omega)
  obtain ⟨G, hG⟩ : ∃ G, G = grownCap w n 0 97 := ⟨_, rfl⟩
  rw [← hG] at hrz hGn hGm
  have hG63 : G ≤ 9223372036854775807 := by unfold maxLen at hGm; omega
  have HM : Hid (G ≤ maxLen) := hGm
  have h1 : ¬ ((n : Int) < 0) := by omega
  have h2 : (0 : Int) < (n : Int) := by omega
  clear hG hGm
  go_enter Tryz.func73, Tryz.ntmps73
  go_wp2_with (at_builtin; refine Lib.wpList_append_run _ rfl _ _ _ _ rfl _ _ rfl rfl _ _ (hrz _) ?_)
  all_goals (go_ret; refine ⟨_, rfl, ⟨rfl, .inr ⟨w.heap.size, G, _, rfl, Nat.le_refl _, heap_alloc_new w.drew _, Nat.zero_le _, HM.out, ?_, rfl⟩⟩, ?_⟩)
  all_goals (first
   | (exact (Below.refl _ _).drew.alloc (Nat.le_refl _) _)
   | (simp [Builtin.zeroCells, Value.cells]; omega))
theorem inE_clm : ∃ i0, Tryz.prog.info? 160 = some i0 ∧ i0.zero = some (.agg #[.string ⟨#[]⟩, .slice none 0 0, .int .u64 0, .int .u64 0, .slice none 0 0]) ∧ i0.size = 5 ∧ i0.bytes = 80 := by
 have h1 : (Tryz.prog.info? 160).bind (·.zero) = some (.agg #[.string ⟨#[]⟩, .slice none 0 0, .int .u64 0, .int .u64 0, .slice none 0 0]) := by kernel_rfl
 have h2 : (Tryz.prog.info? 160).map (·.size) = some 5 := by kernel_rfl
 have h3 : (Tryz.prog.info? 160).map (·.bytes) = some 80 := by kernel_rfl
 generalize Tryz.prog.info? 160 = i at *
 cases i with
 | none => cases h1
 | some i => exact ⟨i, rfl, h1, Option.some.inj h2, Option.some.inj h3⟩
set_option maxHeartbeats 4000000 in
set_option maxRecDepth 100000 in
theorem grow_clm (n : Nat) (w : World) (hn : n * 80 ≤ 140737488355328) :
  Calls Tryz.prog 100 #[.slice none 0 0, .int .i64 n] w fun e w' => ∃ u, e = .returned u ∧ w'.ownsRow w.heap.size 160 5 u 0 [] ∧ Below w.heap.size w w' := by
 by_cases h0 : n = 0
 ·subst h0
  go_enter Tryz.func100, Tryz.ntmps100
  go_wp2_with fail
  go_ret
  exact ⟨_, rfl, World.ownsRow_nil _ _ _ _, Below.refl _ _⟩
 ·obtain ⟨i0, hi0, hz0, hz1, hz2⟩ := inE_clm
  have hrz : ∀ ty, (Builtin.append_ #[61, 3] ty #[.slice none 0 0, .int .i64 n]).run Tryz.prog w = .ok (.slice (some ⟨w.heap.size, 0, none⟩) n (grownCap w n 0 160)) (w.drew.alloc (.cells (Builtin.zeroCells (Value.cells (.agg #[.string ⟨#[]⟩, .slice none 0 0, .int .u64 0, .int .u64 0, .slice none 0 0])) n ++ Builtin.zeroCells (Value.cells (.agg #[.string ⟨#[]⟩, .slice none 0 0, .int .u64 0, .int .u64 0, .slice none 0 0])) (grownCap w n 0 160 - n)) 160)) :=
   fun ty => run_append_nil_zeros w 61 3 ty 160 i0 _ .i64 .i64 Tryz.underlying61 Tryz.underlying3 hi0 hz0 n (by omega) (by omega) (by omega) (by rw [hz2]; omega)
  have hGn : n ≤ grownCap w n 0 160 := grownCap_ge w _ _ _
  have hGm : grownCap w n 0 160 ≤ maxLen := grownCap_le_maxLen w n 0 160 (by unfold maxLen; omega)
  obtain ⟨G, hG⟩ : ∃ G, G = grownCap w n 0 160 := ⟨_, rfl⟩
  rw [← hG] at hrz hGn hGm
  have hG63 : G ≤ 9223372036854775807 := by unfold maxLen at hGm; omega
  have HM : Hid (G ≤ maxLen) := hGm
  have h1 : ¬ ((n : Int) < 0) := by omega
  have h2 : (0 : Int) < (n : Int) := by omega
  clear hG hGm
  go_enter Tryz.func100, Tryz.ntmps100
  go_wp2_with (at_builtin; refine Lib.wpList_append_run _ rfl _ _ _ _ rfl _ _ rfl rfl _ _ (hrz _) ?_)
  all_goals (go_ret; refine ⟨_, rfl, ⟨rfl, .inr ⟨w.heap.size, G, _, rfl, Nat.le_refl _, heap_alloc_new w.drew _, Nat.zero_le _, HM.out, ?_, rfl⟩⟩, ?_⟩)
  all_goals (first
   | (exact (Below.refl _ _).drew.alloc (Nat.le_refl _) _)
   | (simp [Builtin.zeroCells, Value.cells]; omega))
theorem inE_ints : ∃ i0, Tryz.prog.info? 49 = some i0 ∧ i0.zero = some (.slice none 0 0) ∧ i0.size = 1 ∧ i0.bytes = 24 := by
 have h1 : (Tryz.prog.info? 49).bind (·.zero) = some (.slice none 0 0) := by kernel_rfl
 have h2 : (Tryz.prog.info? 49).map (·.size) = some 1 := by kernel_rfl
 have h3 : (Tryz.prog.info? 49).map (·.bytes) = some 24 := by kernel_rfl
 generalize Tryz.prog.info? 49 = i at *
 cases i with
 | none => cases h1
 | some i => exact ⟨i, rfl, h1, Option.some.inj h2, Option.some.inj h3⟩
set_option maxHeartbeats 4000000 in
set_option maxRecDepth 100000 in
theorem grow_ints (n : Nat) (w : World) (hn : n * 24 ≤ 140737488355328) :
  Calls Tryz.prog 119 #[.slice none 0 0, .int .i64 n] w fun e w' => ∃ u, e = .returned u ∧ w'.ownsRow w.heap.size 49 1 u 0 [] ∧ Below w.heap.size w w' := by
 by_cases h0 : n = 0
 ·subst h0
  go_enter Tryz.func119, Tryz.ntmps119
  go_wp2_with fail
  go_ret
  exact ⟨_, rfl, World.ownsRow_nil _ _ _ _, Below.refl _ _⟩
 ·obtain ⟨i0, hi0, hz0, hz1, hz2⟩ := inE_ints
  have hrz : ∀ ty, (Builtin.append_ #[158, 3] ty #[.slice none 0 0, .int .i64 n]).run Tryz.prog w = .ok (.slice (some ⟨w.heap.size, 0, none⟩) n (grownCap w n 0 49)) (w.drew.alloc (.cells (Builtin.zeroCells (Value.cells (.slice none 0 0)) n ++ Builtin.zeroCells (Value.cells (.slice none 0 0)) (grownCap w n 0 49 - n)) 49)) :=
   fun ty => run_append_nil_zeros w 158 3 ty 49 i0 _ .i64 .i64 Tryz.underlying158 Tryz.underlying3 hi0 hz0 n (by omega) (by omega) (by omega) (by rw [hz2]; omega)
  have hGn : n ≤ grownCap w n 0 49 := grownCap_ge w _ _ _
  have hGm : grownCap w n 0 49 ≤ maxLen := grownCap_le_maxLen w n 0 49 (by unfold maxLen; omega)
  obtain ⟨G, hG⟩ : ∃ G, G = grownCap w n 0 49 := ⟨_, rfl⟩
  rw [← hG] at hrz hGn hGm
  have hG63 : G ≤ 9223372036854775807 := by unfold maxLen at hGm; omega
  have HM : Hid (G ≤ maxLen) := hGm
  have h1 : ¬ ((n : Int) < 0) := by omega
  have h2 : (0 : Int) < (n : Int) := by omega
  clear hG hGm
  go_enter Tryz.func119, Tryz.ntmps119
  go_wp2_with (at_builtin; refine Lib.wpList_append_run _ rfl _ _ _ _ rfl _ _ rfl rfl _ _ (hrz _) ?_)
  all_goals (go_ret; refine ⟨_, rfl, ⟨rfl, .inr ⟨w.heap.size, G, _, rfl, Nat.le_refl _, heap_alloc_new w.drew _, Nat.zero_le _, HM.out, ?_, rfl⟩⟩, ?_⟩)
  all_goals (first
   | (exact (Below.refl _ _).drew.alloc (Nat.le_refl _) _)
   | (simp [Builtin.zeroCells, Value.cells]; omega))
end Go.Proofs.YtajomnfeicfdlaaGreatDoor
